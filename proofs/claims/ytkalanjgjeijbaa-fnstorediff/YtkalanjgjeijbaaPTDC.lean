/-
  Closed facts of the row of FnStoreDiff.
-/
import Derived.Test.YtkalanjgjeijbaaRows
import Derived.JoinedOf
namespace Go.Proofs.Ytkalanjgjeijbaa
theorem fnStoreDiff_closed : joinedFacts Try.pinned.checked.prog 3 Try.f3 Rows.fnStoreDiffSpec Rows.fnStoreDiffRow = true := by kernel_rfl
end Go.Proofs.Ytkalanjgjeijbaa
