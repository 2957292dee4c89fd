/-
  Closed facts of the row of FnExactStoreMany.
-/
import Derived.Test.YtacddgipcafdlaaRows
import Derived.JoinedOf
namespace Go.Proofs.Ytacddgipcafdlaa
theorem fnExactStoreMany_closed : joinedFacts Try.pinned.checked.prog 6 Try.f6 Rows.fnExactStoreManySpec Rows.fnExactStoreManyRow = true := by kernel_rfl
end Go.Proofs.Ytacddgipcafdlaa
