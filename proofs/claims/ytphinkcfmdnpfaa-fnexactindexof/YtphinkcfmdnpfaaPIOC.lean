/-
  Closed facts of the row of FnExactIndexOf.
-/
import Derived.Test.YtphinkcfmdnpfaaRows
import Derived.JoinedOf
namespace Go.Proofs.Ytphinkcfmdnpfaa
theorem fnExactIndexOf_closed : joinedFacts Try.pinned.checked.prog 6 Try.f6 Rows.fnExactIndexOfSpec Rows.fnExactIndexOfRow = true := by kernel_rfl
end Go.Proofs.Ytphinkcfmdnpfaa
