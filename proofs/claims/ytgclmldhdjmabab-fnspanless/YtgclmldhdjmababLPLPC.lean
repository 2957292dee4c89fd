/-
  Closed facts of the row of FnSpanLess.
-/
import Derived.Test.YtgclmldhdjmababRows
import Derived.JoinedOf
namespace Go.Proofs.Ytgclmldhdjmabab
theorem fnSpanLess_closed : joinedFacts Try.pinned.checked.prog 3 Try.f3 Rows.fnSpanLessSpec Rows.fnSpanLessRow = true := by kernel_rfl
end Go.Proofs.Ytgclmldhdjmabab
