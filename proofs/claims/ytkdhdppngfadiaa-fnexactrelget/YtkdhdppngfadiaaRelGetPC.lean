/-
  Closed facts of the row of FnExactRelGet.
-/
import Derived.Test.YtkdhdppngfadiaaRows
import Derived.JoinedOf
namespace Go.Proofs.Ytkdhdppngfadiaa
theorem fnExactRelGet_closed : joinedFacts Try.pinned.checked.prog 4 Try.f4 Rows.fnExactRelGetSpec Rows.fnExactRelGetRow = true := by kernel_rfl
end Go.Proofs.Ytkdhdppngfadiaa
