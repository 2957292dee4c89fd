/-
  Closed facts of the row of FnExactRelMerge.
-/
import Derived.Test.YtkdhdppngfadiabRows
import Derived.JoinedOf
namespace Go.Proofs.Ytkdhdppngfadiab
theorem fnExactRelMerge_closed : joinedFacts Try.pinned.checked.prog 6 Try.f6 Rows.fnExactRelMergeSpec Rows.fnExactRelMergeRow = true := by kernel_rfl
end Go.Proofs.Ytkdhdppngfadiab
