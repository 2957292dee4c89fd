/-
  Closed facts of the row of FnExactRelAt.
-/
import Derived.Test.YtkdhdppngfadiaaRows
import Derived.JoinedOf
namespace Go.Proofs.Ytkdhdppngfadiaa
theorem fnExactRelAt_closed : joinedFacts Try.pinned.checked.prog 3 Try.f3 Rows.fnExactRelAtSpec Rows.fnExactRelAtRow = true := by kernel_rfl
end Go.Proofs.Ytkdhdppngfadiaa
