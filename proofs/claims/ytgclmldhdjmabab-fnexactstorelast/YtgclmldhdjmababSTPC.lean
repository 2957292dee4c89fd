/-
  Closed facts of the row of FnExactStoreLast.
-/
import Derived.Test.YtgclmldhdjmababRows
import Derived.JoinedOf
namespace Go.Proofs.Ytgclmldhdjmabab
theorem fnExactStoreLast_closed : joinedFacts Try.pinned.checked.prog 8 Try.f8 Rows.fnExactStoreLastSpec Rows.fnExactStoreLastRow = true := by kernel_rfl
end Go.Proofs.Ytgclmldhdjmabab
