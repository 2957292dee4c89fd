/-
  Closed facts of the row of FnExactRelInsert.
-/
import Derived.Test.YtkdhdppngfadiabRows
import Derived.JoinedOf
namespace Go.Proofs.Ytkdhdppngfadiab
theorem fnExactRelInsert_closed : joinedFacts Try.pinned.checked.prog 3 Try.f3 Rows.fnExactRelInsertSpec Rows.fnExactRelInsertRow = true := by kernel_rfl
end Go.Proofs.Ytkdhdppngfadiab
