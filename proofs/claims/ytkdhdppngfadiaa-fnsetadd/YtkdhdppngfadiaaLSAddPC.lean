/-
  Closed facts of the row of FnSetAdd.
-/
import Derived.Test.YtkdhdppngfadiaaRows
import Derived.JoinedOf
namespace Go.Proofs.Ytkdhdppngfadiaa
theorem fnSetAdd_closed : joinedFacts Try.pinned.checked.prog 8 Try.f8 Rows.fnSetAddSpec Rows.fnSetAddRow = true := by kernel_rfl
end Go.Proofs.Ytkdhdppngfadiaa
