/-
  Closed facts of the row of FnExactIndexOk.
-/
import Derived.Test.YtphinkcfmdnpfaaRows
import Derived.JoinedOf
namespace Go.Proofs.Ytphinkcfmdnpfaa
theorem fnExactIndexOk_closed : joinedFacts Try.pinned.checked.prog 7 Try.f7 Rows.fnExactIndexOkSpec Rows.fnExactIndexOkRow = true := by kernel_rfl
end Go.Proofs.Ytphinkcfmdnpfaa
