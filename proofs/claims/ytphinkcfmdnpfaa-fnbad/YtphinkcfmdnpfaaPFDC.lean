/-
  Closed facts of the row of FnBad.
-/
import Derived.Test.YtphinkcfmdnpfaaRows
import Derived.JoinedOf
namespace Go.Proofs.Ytphinkcfmdnpfaa
theorem fnBad_closed : joinedFacts Try.pinned.checked.prog 4 Try.f4 Rows.fnBadSpec Rows.fnBadRow = true := by kernel_rfl
end Go.Proofs.Ytphinkcfmdnpfaa
