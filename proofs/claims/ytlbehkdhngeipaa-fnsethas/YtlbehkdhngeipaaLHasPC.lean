/-
  Closed facts of the row of FnSetHas.
-/
import Derived.Test.YtlbehkdhngeipaaRows
import Derived.JoinedOf
namespace Go.Proofs.Ytlbehkdhngeipaa
theorem fnSetHas_closed : joinedFacts Try.pinned.checked.prog 7 Try.f7 Rows.fnSetHasSpec Rows.fnSetHasRow = true := by kernel_rfl
end Go.Proofs.Ytlbehkdhngeipaa
