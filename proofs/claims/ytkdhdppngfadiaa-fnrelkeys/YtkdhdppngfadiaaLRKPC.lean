/-
  Closed facts of the row of FnRelKeys.
-/
import Derived.Test.YtkdhdppngfadiaaRows
import Derived.JoinedOf
namespace Go.Proofs.Ytkdhdppngfadiaa
theorem fnRelKeys_closed : joinedFacts Try.pinned.checked.prog 12 Try.f12 Rows.fnRelKeysSpec Rows.fnRelKeysRow = true := by kernel_rfl
end Go.Proofs.Ytkdhdppngfadiaa
