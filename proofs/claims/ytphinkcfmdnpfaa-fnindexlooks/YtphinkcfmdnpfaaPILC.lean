/-
  Closed facts of the row of FnIndexLooks.
-/
import Derived.Test.YtphinkcfmdnpfaaRows
import Derived.JoinedOf
namespace Go.Proofs.Ytphinkcfmdnpfaa
theorem fnIndexLooks_closed : joinedFacts Try.pinned.checked.prog 13 Try.f13 Rows.fnIndexLooksSpec Rows.fnIndexLooksRow = true := by kernel_rfl
end Go.Proofs.Ytphinkcfmdnpfaa
