/-
  Closed facts of the row of FnRelSame.
-/
import Derived.Test.YtkdhdppngfadiaaRows
import Derived.JoinedOf
namespace Go.Proofs.Ytkdhdppngfadiaa
theorem fnRelSame_closed : joinedFacts Try.pinned.checked.prog 13 Try.f13 Rows.fnRelSameSpec Rows.fnRelSameRow = true := by kernel_rfl
end Go.Proofs.Ytkdhdppngfadiaa
