/-
  Closed facts of the row of FnSetOf.
-/
import Derived.Test.YtoppbbppmhgdiaaRows
import Derived.JoinedOf
namespace Go.Proofs.Ytoppbbppmhgdiaa
theorem fnSetOf_closed : joinedFacts Try.pinned.checked.prog 13 Try.f13 Rows.fnSetOfSpec Rows.fnSetOfRow = true := by kernel_rfl
end Go.Proofs.Ytoppbbppmhgdiaa
