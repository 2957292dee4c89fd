/-
  Closed facts of the row of FnMove.
-/
import Derived.Test.YtgclmldhdjmabaaRows
import Derived.JoinedOf
namespace Go.Proofs.Ytgclmldhdjmabaa
theorem fnMove_closed : joinedFacts Try.pinned.checked.prog 5 Try.f5 Rows.fnMoveSpec Rows.fnMoveRow = true := by kernel_rfl
end Go.Proofs.Ytgclmldhdjmabaa
