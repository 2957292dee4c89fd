/-
  Closed facts of the row of FnExactStandOf.
-/
import Derived.Test.YtmfpojminbkojaaRows
import Derived.JoinedOf
namespace Go.Proofs.Ytmfpojminbkojaa
theorem fnExactStandOf_closed : joinedFacts Try.pinned.checked.prog 3 Try.f3 Rows.fnExactStandOfSpec Rows.fnExactStandOfRow = true := by kernel_rfl
end Go.Proofs.Ytmfpojminbkojaa
