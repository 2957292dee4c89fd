/-
  Closed facts of the row of FnExactSetOf.
-/
import Derived.Test.YtoppbbppmhgdiaaRows
import Derived.JoinedOf
namespace Go.Proofs.Ytoppbbppmhgdiaa
theorem fnExactSetOf_closed : joinedFacts Try.pinned.checked.prog 9 Try.f9 Rows.fnExactSetOfSpec Rows.fnExactSetOfRow = true := by kernel_rfl
end Go.Proofs.Ytoppbbppmhgdiaa
