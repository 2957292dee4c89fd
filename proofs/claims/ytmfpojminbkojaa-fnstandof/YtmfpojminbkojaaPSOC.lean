/-
  Closed facts of the row of FnStandOf.
-/
import Derived.Test.YtmfpojminbkojaaRows
import Derived.JoinedOf
namespace Go.Proofs.Ytmfpojminbkojaa
theorem fnStandOf_closed : joinedFacts Try.pinned.checked.prog 7 Try.f7 Rows.fnStandOfSpec Rows.fnStandOfRow = true := by kernel_rfl
end Go.Proofs.Ytmfpojminbkojaa
