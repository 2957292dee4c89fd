/-
  Closed facts of the row of FnExactSetLess.
-/
import Derived.Test.YtoppbbppmhgdiaaRows
import Derived.JoinedOf
namespace Go.Proofs.Ytoppbbppmhgdiaa
theorem fnExactSetLess_closed : joinedFacts Try.pinned.checked.prog 8 Try.f8 Rows.fnExactSetLessSpec Rows.fnExactSetLessRow = true := by kernel_rfl
end Go.Proofs.Ytoppbbppmhgdiaa
