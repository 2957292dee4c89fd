/-
  Closed facts of the row of FnExactRelAt.
-/
import Derived.Test.YtoppbbppmhgdiaaRows
import Derived.JoinedOf
namespace Go.Proofs.Ytoppbbppmhgdiaa
theorem fnExactRelAt_closed : joinedFacts Try.pinned.checked.prog 6 Try.f6 Rows.fnExactRelAtSpec Rows.fnExactRelAtRow = true := by kernel_rfl
end Go.Proofs.Ytoppbbppmhgdiaa
