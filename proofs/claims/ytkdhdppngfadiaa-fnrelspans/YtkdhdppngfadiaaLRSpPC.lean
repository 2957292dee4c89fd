/-
  Closed facts of the row of FnRelSpans.
-/
import Derived.Test.YtkdhdppngfadiaaRows
import Derived.JoinedOf
namespace Go.Proofs.Ytkdhdppngfadiaa
theorem fnRelSpans_closed : joinedFacts Try.pinned.checked.prog 11 Try.f11 Rows.fnRelSpansSpec Rows.fnRelSpansRow = true := by kernel_rfl
end Go.Proofs.Ytkdhdppngfadiaa
