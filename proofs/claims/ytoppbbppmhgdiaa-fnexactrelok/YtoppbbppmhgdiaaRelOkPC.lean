/-
  Closed facts of the row of FnExactRelOk.
-/
import Derived.Test.YtoppbbppmhgdiaaRows
import Derived.JoinedOf
namespace Go.Proofs.Ytoppbbppmhgdiaa
theorem fnExactRelOk_closed : joinedFacts Try.pinned.checked.prog 4 Try.f4 Rows.fnExactRelOkSpec Rows.fnExactRelOkRow = true := by kernel_rfl
end Go.Proofs.Ytoppbbppmhgdiaa
