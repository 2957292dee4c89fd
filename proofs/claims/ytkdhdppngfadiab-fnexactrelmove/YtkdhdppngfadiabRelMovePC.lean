/-
  Closed facts of the row of FnExactRelMove.
-/
import Derived.Test.YtkdhdppngfadiabRows
import Derived.JoinedOf
namespace Go.Proofs.Ytkdhdppngfadiab
theorem fnExactRelMove_closed : joinedFacts Try.pinned.checked.prog 7 Try.f7 Rows.fnExactRelMoveSpec Rows.fnExactRelMoveRow = true := by kernel_rfl
end Go.Proofs.Ytkdhdppngfadiab
