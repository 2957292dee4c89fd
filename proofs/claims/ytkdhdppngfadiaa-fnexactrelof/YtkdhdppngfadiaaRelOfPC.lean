/-
  Closed facts of the row of FnExactRelOf.
-/
import Derived.Test.YtkdhdppngfadiaaRows
import Derived.JoinedOf
namespace Go.Proofs.Ytkdhdppngfadiaa
theorem fnExactRelOf_closed : joinedFacts Try.pinned.checked.prog 6 Try.f6 Rows.fnExactRelOfSpec Rows.fnExactRelOfRow = true := by kernel_rfl
end Go.Proofs.Ytkdhdppngfadiaa
