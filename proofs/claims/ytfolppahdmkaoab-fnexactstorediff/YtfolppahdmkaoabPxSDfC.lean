/-
  Closed facts of the row of FnExactStoreDiff.
-/
import Derived.Test.YtfolppahdmkaoabRows
import Derived.JoinedOf
namespace Go.Proofs.Ytfolppahdmkaoab
theorem fnExactStoreDiff_closed : joinedFacts Try.pinned.checked.prog 4 Try.f4 Rows.fnExactStoreDiffSpec Rows.fnExactStoreDiffRow = true := by kernel_rfl
end Go.Proofs.Ytfolppahdmkaoab
