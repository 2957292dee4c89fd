/-
  Closed facts of the row of FnExactStoreOk.
-/
import Derived.Test.YtgclmldhdjmababRows
import Derived.JoinedOf
namespace Go.Proofs.Ytgclmldhdjmabab
theorem fnExactStoreOk_closed : joinedFacts Try.pinned.checked.prog 7 Try.f7 Rows.fnExactStoreOkSpec Rows.fnExactStoreOkRow = true := by kernel_rfl
end Go.Proofs.Ytgclmldhdjmabab
