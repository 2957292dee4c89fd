/-
  Closed facts of the row of FnExactSpanLess.
-/
import Derived.Test.YtlbehkdhngeipaaRows
import Derived.JoinedOf
namespace Go.Proofs.Ytlbehkdhngeipaa
theorem fnExactSpanLess_closed : joinedFacts Try.pinned.checked.prog 13 Try.f13 Rows.fnExactSpanLessSpec Rows.fnExactSpanLessRow = true := by kernel_rfl
end Go.Proofs.Ytlbehkdhngeipaa
