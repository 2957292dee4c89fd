/-
  Closed facts of the row of FnSetLess.
-/
import Derived.Test.YtgclmldhdjmabaaRows
import Derived.JoinedOf
namespace Go.Proofs.Ytgclmldhdjmabaa
theorem fnSetLess_closed : joinedFacts Try.pinned.checked.prog 13 Try.f13 Rows.fnSetLessSpec Rows.fnSetLessRow = true := by kernel_rfl
end Go.Proofs.Ytgclmldhdjmabaa
