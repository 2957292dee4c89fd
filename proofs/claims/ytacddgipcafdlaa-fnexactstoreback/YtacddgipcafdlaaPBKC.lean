/-
  Closed facts of the row of FnExactStoreBack.
-/
import Derived.Test.YtacddgipcafdlaaRows
import Derived.JoinedOf
namespace Go.Proofs.Ytacddgipcafdlaa
theorem fnExactStoreBack_closed : joinedFacts Try.pinned.checked.prog 4 Try.f4 Rows.fnExactStoreBackSpec Rows.fnExactStoreBackRow = true := by kernel_rfl
end Go.Proofs.Ytacddgipcafdlaa
