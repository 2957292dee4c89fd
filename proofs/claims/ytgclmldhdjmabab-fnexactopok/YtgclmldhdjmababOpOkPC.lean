/-
  Closed facts of the row of FnExactOpOk.
-/
import Derived.Test.YtgclmldhdjmababRows
import Derived.JoinedOf
namespace Go.Proofs.Ytgclmldhdjmabab
theorem fnExactOpOk_closed : joinedFacts Try.pinned.checked.prog 4 Try.f4 Rows.fnExactOpOkSpec Rows.fnExactOpOkRow = true := by kernel_rfl
end Go.Proofs.Ytgclmldhdjmabab
