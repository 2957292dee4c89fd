/-
  Closed facts of the row of FnStorePrune.
-/
import Derived.Test.YtacddgipcafdlaaRows
import Derived.JoinedOf
namespace Go.Proofs.Ytacddgipcafdlaa
theorem fnStorePrune_closed : joinedFacts Try.pinned.checked.prog 14 Try.f14 Rows.fnStorePruneSpec Rows.fnStorePruneRow = true := by kernel_rfl
end Go.Proofs.Ytacddgipcafdlaa
