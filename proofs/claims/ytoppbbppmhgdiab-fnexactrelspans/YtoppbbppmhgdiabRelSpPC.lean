/-
  Closed facts of the row of FnExactRelSpans.
-/
import Derived.Test.YtoppbbppmhgdiabRows
import Derived.JoinedOf
namespace Go.Proofs.Ytoppbbppmhgdiab
theorem fnExactRelSpans_closed : joinedFacts Try.pinned.checked.prog 3 Try.f3 Rows.fnExactRelSpansSpec Rows.fnExactRelSpansRow = true := by kernel_rfl
end Go.Proofs.Ytoppbbppmhgdiab
