/-
  Closed facts of the row of FnExactIndexStab.
-/
import Derived.Test.YtphinkcfmdnpfaaRows
import Derived.JoinedOf
namespace Go.Proofs.Ytphinkcfmdnpfaa
theorem fnExactIndexStab_closed : joinedFacts Try.pinned.checked.prog 9 Try.f9 Rows.fnExactIndexStabSpec Rows.fnExactIndexStabRow = true := by kernel_rfl
end Go.Proofs.Ytphinkcfmdnpfaa
