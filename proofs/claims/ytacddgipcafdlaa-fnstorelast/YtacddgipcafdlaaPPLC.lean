/-
  Closed facts of the row of FnStoreLast.
-/
import Derived.Test.YtacddgipcafdlaaRows
import Derived.JoinedOf
namespace Go.Proofs.Ytacddgipcafdlaa
theorem fnStoreLast_closed : joinedFacts Try.pinned.checked.prog 8 Try.f8 Rows.fnStoreLastSpec Rows.fnStoreLastRow = true := by kernel_rfl
end Go.Proofs.Ytacddgipcafdlaa
