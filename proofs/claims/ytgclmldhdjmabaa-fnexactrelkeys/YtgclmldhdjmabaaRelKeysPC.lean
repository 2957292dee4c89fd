/-
  Closed facts of the row of FnExactRelKeys.
-/
import Derived.Test.YtgclmldhdjmabaaRows
import Derived.JoinedOf
namespace Go.Proofs.Ytgclmldhdjmabaa
theorem fnExactRelKeys_closed : joinedFacts Try.pinned.checked.prog 9 Try.f9 Rows.fnExactRelKeysSpec Rows.fnExactRelKeysRow = true := by kernel_rfl
end Go.Proofs.Ytgclmldhdjmabaa
