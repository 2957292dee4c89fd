/-
  Closed facts of the row of FnSlice.
-/
import Derived.Test.YtphinkcfmdnpfaaRows
import Derived.JoinedOf
namespace Go.Proofs.Ytphinkcfmdnpfaa
theorem fnSlice_closed : joinedFacts Try.pinned.checked.prog 5 Try.f5 Rows.fnSliceSpec Rows.fnSliceRow = true := by kernel_rfl
end Go.Proofs.Ytphinkcfmdnpfaa
