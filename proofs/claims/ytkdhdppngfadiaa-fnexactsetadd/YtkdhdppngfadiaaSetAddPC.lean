/-
  Closed facts of the row of FnExactSetAdd.
-/
import Derived.Test.YtkdhdppngfadiaaRows
import Derived.JoinedOf
namespace Go.Proofs.Ytkdhdppngfadiaa
theorem fnExactSetAdd_closed : joinedFacts Try.pinned.checked.prog 5 Try.f5 Rows.fnExactSetAddSpec Rows.fnExactSetAddRow = true := by kernel_rfl
end Go.Proofs.Ytkdhdppngfadiaa
