/-
  Closed facts of the row of FnSetMeet.
-/
import Derived.Test.YtlbehkdhngeipaaRows
import Derived.JoinedOf
namespace Go.Proofs.Ytlbehkdhngeipaa
theorem fnSetMeet_closed : joinedFacts Try.pinned.checked.prog 8 Try.f8 Rows.fnSetMeetSpec Rows.fnSetMeetRow = true := by kernel_rfl
end Go.Proofs.Ytlbehkdhngeipaa
