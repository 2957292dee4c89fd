/-
  Closed facts of the row of FnSetMany.
-/
import Derived.Test.YtlbehkdhngeipaaRows
import Derived.JoinedOf
namespace Go.Proofs.Ytlbehkdhngeipaa
theorem fnSetMany_closed : joinedFacts Try.pinned.checked.prog 10 Try.f10 Rows.fnSetManySpec Rows.fnSetManyRow = true := by kernel_rfl
end Go.Proofs.Ytlbehkdhngeipaa
