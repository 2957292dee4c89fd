/-
  Closed facts of the row of FnExactStoreAll.
-/
import Derived.Test.YtacddgipcafdlaaRows
import Derived.JoinedOf
namespace Go.Proofs.Ytacddgipcafdlaa
theorem fnExactStoreAll_closed : joinedFacts Try.pinned.checked.prog 3 Try.f3 Rows.fnExactStoreAllSpec Rows.fnExactStoreAllRow = true := by kernel_rfl
end Go.Proofs.Ytacddgipcafdlaa
