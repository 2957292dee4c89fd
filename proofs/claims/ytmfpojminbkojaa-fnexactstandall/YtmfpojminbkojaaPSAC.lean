/-
  Closed facts of the row of FnExactStandAll.
-/
import Derived.Test.YtmfpojminbkojaaRows
import Derived.JoinedOf
namespace Go.Proofs.Ytmfpojminbkojaa
theorem fnExactStandAll_closed : joinedFacts Try.pinned.checked.prog 5 Try.f5 Rows.fnExactStandAllSpec Rows.fnExactStandAllRow = true := by kernel_rfl
end Go.Proofs.Ytmfpojminbkojaa
