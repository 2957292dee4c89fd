/-
  Closed facts of the row of FnSpanLess.
-/
import Derived.Test.YtoppbbppmhgdiaaRows
import Derived.JoinedOf
namespace Go.Proofs.Ytoppbbppmhgdiaa
theorem fnSpanLess_closed : joinedFacts Try.pinned.checked.prog 11 Try.f11 Rows.fnSpanLessSpec Rows.fnSpanLessRow = true := by kernel_rfl
end Go.Proofs.Ytoppbbppmhgdiaa
