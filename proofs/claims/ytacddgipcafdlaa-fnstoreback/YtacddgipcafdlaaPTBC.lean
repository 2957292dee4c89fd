/-
  Closed facts of the row of FnStoreBack.
-/
import Derived.Test.YtacddgipcafdlaaRows
import Derived.JoinedOf
namespace Go.Proofs.Ytacddgipcafdlaa
theorem fnStoreBack_closed : joinedFacts Try.pinned.checked.prog 12 Try.f12 Rows.fnStoreBackSpec Rows.fnStoreBackRow = true := by kernel_rfl
end Go.Proofs.Ytacddgipcafdlaa
