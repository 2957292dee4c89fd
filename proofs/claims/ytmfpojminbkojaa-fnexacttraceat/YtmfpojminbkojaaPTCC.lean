/-
  Closed facts of the row of FnExactTraceAt.
-/
import Derived.Test.YtmfpojminbkojaaRows
import Derived.JoinedOf
namespace Go.Proofs.Ytmfpojminbkojaa
theorem fnExactTraceAt_closed : joinedFacts Try.pinned.checked.prog 6 Try.f6 Rows.fnExactTraceAtSpec Rows.fnExactTraceAtRow = true := by kernel_rfl
end Go.Proofs.Ytmfpojminbkojaa
