/-
  Closed facts of the row of FnExactRelSpans.
-/
import Derived.Test.YtgclmldhdjmabaaRows
import Derived.JoinedOf
namespace Go.Proofs.Ytgclmldhdjmabaa
theorem fnExactRelSpans_closed : joinedFacts Try.pinned.checked.prog 11 Try.f11 Rows.fnExactRelSpansSpec Rows.fnExactRelSpansRow = true := by kernel_rfl
end Go.Proofs.Ytgclmldhdjmabaa
