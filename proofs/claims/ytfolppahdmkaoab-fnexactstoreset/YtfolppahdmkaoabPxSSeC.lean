/-
  Closed facts of the row of FnExactStoreSet.
-/
import Derived.Test.YtfolppahdmkaoabRows
import Derived.JoinedOf
namespace Go.Proofs.Ytfolppahdmkaoab
theorem fnExactStoreSet_closed : joinedFacts Try.pinned.checked.prog 5 Try.f5 Rows.fnExactStoreSetSpec Rows.fnExactStoreSetRow = true := by kernel_rfl
end Go.Proofs.Ytfolppahdmkaoab
