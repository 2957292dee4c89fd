/-
  Closed facts of the row of FnExactSetMany.
-/
import Derived.Test.YtlbehkdhngeipaaRows
import Derived.JoinedOf
namespace Go.Proofs.Ytlbehkdhngeipaa
theorem fnExactSetMany_closed : joinedFacts Try.pinned.checked.prog 20 Try.f20 Rows.fnExactSetManySpec Rows.fnExactSetManyRow = true := by kernel_rfl
end Go.Proofs.Ytlbehkdhngeipaa
