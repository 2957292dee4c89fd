/-
  Closed facts of the row of FnExactRelKeys.
-/
import Derived.Test.YtoppbbppmhgdiaaRows
import Derived.JoinedOf
namespace Go.Proofs.Ytoppbbppmhgdiaa
theorem fnExactRelKeys_closed : joinedFacts Try.pinned.checked.prog 7 Try.f7 Rows.fnExactRelKeysSpec Rows.fnExactRelKeysRow = true := by kernel_rfl
end Go.Proofs.Ytoppbbppmhgdiaa
