/-
  Closed facts of the row of FnStandAll.
-/
import Derived.Test.YtmfpojminbkojaaRows
import Derived.JoinedOf
namespace Go.Proofs.Ytmfpojminbkojaa
theorem fnStandAll_closed : joinedFacts Try.pinned.checked.prog 10 Try.f10 Rows.fnStandAllSpec Rows.fnStandAllRow = true := by kernel_rfl
end Go.Proofs.Ytmfpojminbkojaa
