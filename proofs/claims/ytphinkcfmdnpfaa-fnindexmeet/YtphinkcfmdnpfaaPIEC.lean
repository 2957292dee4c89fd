/-
  Closed facts of the row of FnIndexMeet.
-/
import Derived.Test.YtphinkcfmdnpfaaRows
import Derived.JoinedOf
namespace Go.Proofs.Ytphinkcfmdnpfaa
theorem fnIndexMeet_closed : joinedFacts Try.pinned.checked.prog 11 Try.f11 Rows.fnIndexMeetSpec Rows.fnIndexMeetRow = true := by kernel_rfl
end Go.Proofs.Ytphinkcfmdnpfaa
