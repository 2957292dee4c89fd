/-
  Closed facts of the row of FnOpOk.
-/
import Derived.Test.YtgclmldhdjmababRows
import Derived.JoinedOf
namespace Go.Proofs.Ytgclmldhdjmabab
theorem fnOpOk_closed : joinedFacts Try.pinned.checked.prog 5 Try.f5 Rows.fnOpOkSpec Rows.fnOpOkRow = true := by kernel_rfl
end Go.Proofs.Ytgclmldhdjmabab
