/-
  Closed facts of the row of FnExactRelUpdate.
-/
import Derived.Test.YtkdhdppngfadiabRows
import Derived.JoinedOf
namespace Go.Proofs.Ytkdhdppngfadiab
theorem fnExactRelUpdate_closed : joinedFacts Try.pinned.checked.prog 5 Try.f5 Rows.fnExactRelUpdateSpec Rows.fnExactRelUpdateRow = true := by kernel_rfl
end Go.Proofs.Ytkdhdppngfadiab
