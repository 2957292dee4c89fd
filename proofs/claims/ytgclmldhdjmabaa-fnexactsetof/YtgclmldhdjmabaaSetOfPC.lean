/-
  Closed facts of the row of FnExactSetOf.
-/
import Derived.Test.YtgclmldhdjmabaaRows
import Derived.JoinedOf
namespace Go.Proofs.Ytgclmldhdjmabaa
theorem fnExactSetOf_closed : joinedFacts Try.pinned.checked.prog 10 Try.f10 Rows.fnExactSetOfSpec Rows.fnExactSetOfRow = true := by kernel_rfl
end Go.Proofs.Ytgclmldhdjmabaa
