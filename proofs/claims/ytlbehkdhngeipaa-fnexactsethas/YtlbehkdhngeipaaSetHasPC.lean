/-
  Closed facts of the row of FnExactSetHas.
-/
import Derived.Test.YtlbehkdhngeipaaRows
import Derived.JoinedOf
namespace Go.Proofs.Ytlbehkdhngeipaa
theorem fnExactSetHas_closed : joinedFacts Try.pinned.checked.prog 17 Try.f17 Rows.fnExactSetHasSpec Rows.fnExactSetHasRow = true := by kernel_rfl
end Go.Proofs.Ytlbehkdhngeipaa
