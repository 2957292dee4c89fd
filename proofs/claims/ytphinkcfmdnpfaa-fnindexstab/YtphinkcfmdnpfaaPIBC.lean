/-
  Closed facts of the row of FnIndexStab.
-/
import Derived.Test.YtphinkcfmdnpfaaRows
import Derived.JoinedOf
namespace Go.Proofs.Ytphinkcfmdnpfaa
theorem fnIndexStab_closed : joinedFacts Try.pinned.checked.prog 12 Try.f12 Rows.fnIndexStabSpec Rows.fnIndexStabRow = true := by kernel_rfl
end Go.Proofs.Ytphinkcfmdnpfaa
