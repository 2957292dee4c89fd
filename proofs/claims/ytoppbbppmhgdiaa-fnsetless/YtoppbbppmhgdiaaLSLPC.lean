/-
  Closed facts of the row of FnSetLess.
-/
import Derived.Test.YtoppbbppmhgdiaaRows
import Derived.JoinedOf
namespace Go.Proofs.Ytoppbbppmhgdiaa
theorem fnSetLess_closed : joinedFacts Try.pinned.checked.prog 12 Try.f12 Rows.fnSetLessSpec Rows.fnSetLessRow = true := by kernel_rfl
end Go.Proofs.Ytoppbbppmhgdiaa
