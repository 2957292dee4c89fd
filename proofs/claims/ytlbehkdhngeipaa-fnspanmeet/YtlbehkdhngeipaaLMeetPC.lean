/-
  Closed facts of the row of FnSpanMeet.
-/
import Derived.Test.YtlbehkdhngeipaaRows
import Derived.JoinedOf
namespace Go.Proofs.Ytlbehkdhngeipaa
theorem fnSpanMeet_closed : joinedFacts Try.pinned.checked.prog 3 Try.f3 Rows.fnSpanMeetSpec Rows.fnSpanMeetRow = true := by kernel_rfl
end Go.Proofs.Ytlbehkdhngeipaa
