/-
  Closed facts of the row of FnStoreAll.
-/
import Derived.Test.YtacddgipcafdlaaRows
import Derived.JoinedOf
namespace Go.Proofs.Ytacddgipcafdlaa
theorem fnStoreAll_closed : joinedFacts Try.pinned.checked.prog 11 Try.f11 Rows.fnStoreAllSpec Rows.fnStoreAllRow = true := by kernel_rfl
end Go.Proofs.Ytacddgipcafdlaa
