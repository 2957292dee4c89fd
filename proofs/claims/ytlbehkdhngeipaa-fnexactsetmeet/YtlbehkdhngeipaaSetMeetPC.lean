/-
  Closed facts of the row of FnExactSetMeet.
-/
import Derived.Test.YtlbehkdhngeipaaRows
import Derived.JoinedOf
namespace Go.Proofs.Ytlbehkdhngeipaa
theorem fnExactSetMeet_closed : joinedFacts Try.pinned.checked.prog 18 Try.f18 Rows.fnExactSetMeetSpec Rows.fnExactSetMeetRow = true := by kernel_rfl
end Go.Proofs.Ytlbehkdhngeipaa
