/-
  Closed facts of the row of FnStoreAt.
-/
import Derived.Test.YtacddgipcafdlaaRows
import Derived.JoinedOf
namespace Go.Proofs.Ytacddgipcafdlaa
theorem fnStoreAt_closed : joinedFacts Try.pinned.checked.prog 10 Try.f10 Rows.fnStoreAtSpec Rows.fnStoreAtRow = true := by kernel_rfl
end Go.Proofs.Ytacddgipcafdlaa
