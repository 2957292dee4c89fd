/-
  Closed facts of the row of FnStoreMany.
-/
import Derived.Test.YtacddgipcafdlaaRows
import Derived.JoinedOf
namespace Go.Proofs.Ytacddgipcafdlaa
theorem fnStoreMany_closed : joinedFacts Try.pinned.checked.prog 13 Try.f13 Rows.fnStoreManySpec Rows.fnStoreManyRow = true := by kernel_rfl
end Go.Proofs.Ytacddgipcafdlaa
