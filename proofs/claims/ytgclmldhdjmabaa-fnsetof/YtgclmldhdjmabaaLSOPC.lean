/-
  Closed facts of the row of FnSetOf.
-/
import Derived.Test.YtgclmldhdjmabaaRows
import Derived.JoinedOf
namespace Go.Proofs.Ytgclmldhdjmabaa
theorem fnSetOf_closed : joinedFacts Try.pinned.checked.prog 12 Try.f12 Rows.fnSetOfSpec Rows.fnSetOfRow = true := by kernel_rfl
end Go.Proofs.Ytgclmldhdjmabaa
