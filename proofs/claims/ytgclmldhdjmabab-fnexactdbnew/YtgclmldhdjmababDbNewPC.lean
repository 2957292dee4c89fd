/-
  Closed facts of the row of FnExactDbNew.
-/
import Derived.Test.YtgclmldhdjmababRows
import Derived.JoinedOf
namespace Go.Proofs.Ytgclmldhdjmabab
theorem fnExactDbNew_closed : joinedFacts Try.pinned.checked.prog 6 Try.f6 Rows.fnExactDbNewSpec Rows.fnExactDbNewRow = true := by kernel_rfl
end Go.Proofs.Ytgclmldhdjmabab
