/-
  Closed facts of the row of FnExactStorePrune.
-/
import Derived.Test.YtacddgipcafdlaaRows
import Derived.JoinedOf
namespace Go.Proofs.Ytacddgipcafdlaa
theorem fnExactStorePrune_closed : joinedFacts Try.pinned.checked.prog 5 Try.f5 Rows.fnExactStorePruneSpec Rows.fnExactStorePruneRow = true := by kernel_rfl
end Go.Proofs.Ytacddgipcafdlaa
