/-
  Closed facts of the row of FnIndexOf.
-/
import Derived.Test.YtphinkcfmdnpfaaRows
import Derived.JoinedOf
namespace Go.Proofs.Ytphinkcfmdnpfaa
theorem fnIndexOf_closed : joinedFacts Try.pinned.checked.prog 10 Try.f10 Rows.fnIndexOfSpec Rows.fnIndexOfRow = true := by kernel_rfl
end Go.Proofs.Ytphinkcfmdnpfaa
