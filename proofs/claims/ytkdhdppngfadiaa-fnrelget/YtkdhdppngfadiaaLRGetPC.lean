/-
  Closed facts of the row of FnRelGet.
-/
import Derived.Test.YtkdhdppngfadiaaRows
import Derived.JoinedOf
namespace Go.Proofs.Ytkdhdppngfadiaa
theorem fnRelGet_closed : joinedFacts Try.pinned.checked.prog 9 Try.f9 Rows.fnRelGetSpec Rows.fnRelGetRow = true := by kernel_rfl
end Go.Proofs.Ytkdhdppngfadiaa
