/-
  Closed facts of the row of FnCount.
-/
import Derived.Test.YtphinkcfmdnpfaaRows
import Derived.JoinedOf
namespace Go.Proofs.Ytphinkcfmdnpfaa
theorem fnCount_closed : joinedFacts Try.pinned.checked.prog 3 Try.f3 Rows.fnCountSpec Rows.fnCountRow = true := by kernel_rfl
end Go.Proofs.Ytphinkcfmdnpfaa
