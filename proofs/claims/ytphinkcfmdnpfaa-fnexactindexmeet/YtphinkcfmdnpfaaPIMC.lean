/-
  Closed facts of the row of FnExactIndexMeet.
-/
import Derived.Test.YtphinkcfmdnpfaaRows
import Derived.JoinedOf
namespace Go.Proofs.Ytphinkcfmdnpfaa
theorem fnExactIndexMeet_closed : joinedFacts Try.pinned.checked.prog 8 Try.f8 Rows.fnExactIndexMeetSpec Rows.fnExactIndexMeetRow = true := by kernel_rfl
end Go.Proofs.Ytphinkcfmdnpfaa
