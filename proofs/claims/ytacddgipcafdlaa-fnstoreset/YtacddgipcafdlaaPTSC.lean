/-
  Closed facts of the row of FnStoreSet.
-/
import Derived.Test.YtacddgipcafdlaaRows
import Derived.JoinedOf
namespace Go.Proofs.Ytacddgipcafdlaa
theorem fnStoreSet_closed : joinedFacts Try.pinned.checked.prog 9 Try.f9 Rows.fnStoreSetSpec Rows.fnStoreSetRow = true := by kernel_rfl
end Go.Proofs.Ytacddgipcafdlaa
