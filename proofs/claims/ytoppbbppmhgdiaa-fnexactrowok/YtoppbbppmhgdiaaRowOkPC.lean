/-
  Closed facts of the row of FnExactRowOk.
-/
import Derived.Test.YtoppbbppmhgdiaaRows
import Derived.JoinedOf
namespace Go.Proofs.Ytoppbbppmhgdiaa
theorem fnExactRowOk_closed : joinedFacts Try.pinned.checked.prog 3 Try.f3 Rows.fnExactRowOkSpec Rows.fnExactRowOkRow = true := by kernel_rfl
end Go.Proofs.Ytoppbbppmhgdiaa
