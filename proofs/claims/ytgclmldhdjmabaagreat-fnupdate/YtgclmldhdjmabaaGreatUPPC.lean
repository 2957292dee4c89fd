/-
  Closed facts of the row of FnUpdate.
-/
import Derived.Test.YtgclmldhdjmabaaGreatRows
import Derived.JoinedOf
namespace Go.Proofs.YtgclmldhdjmabaaGreat
theorem fnUpdate_closed : joinedFacts Tryz.pinned.checked.prog 3 Tryz.f3 Rows.fnUpdateSpec Rows.fnUpdateRow = true := by kernel_rfl
end Go.Proofs.YtgclmldhdjmabaaGreat
