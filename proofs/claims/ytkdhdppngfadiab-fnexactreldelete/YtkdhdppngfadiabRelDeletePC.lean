/-
  Closed facts of the row of FnExactRelDelete.
-/
import Derived.Test.YtkdhdppngfadiabRows
import Derived.JoinedOf
namespace Go.Proofs.Ytkdhdppngfadiab
theorem fnExactRelDelete_closed : joinedFacts Try.pinned.checked.prog 4 Try.f4 Rows.fnExactRelDeleteSpec Rows.fnExactRelDeleteRow = true := by kernel_rfl
end Go.Proofs.Ytkdhdppngfadiab
