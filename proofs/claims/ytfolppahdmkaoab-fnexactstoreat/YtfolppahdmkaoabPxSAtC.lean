/-
  Closed facts of the row of FnExactStoreAt.
-/
import Derived.Test.YtfolppahdmkaoabRows
import Derived.JoinedOf
namespace Go.Proofs.Ytfolppahdmkaoab
theorem fnExactStoreAt_closed : joinedFacts Try.pinned.checked.prog 3 Try.f3 Rows.fnExactStoreAtSpec Rows.fnExactStoreAtRow = true := by kernel_rfl
end Go.Proofs.Ytfolppahdmkaoab
