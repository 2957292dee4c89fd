/-
  Closed facts of the row of FnRelOf.
-/
import Derived.Test.YtfolppahdmkaoaaRows
import Derived.JoinedOf
namespace Go.Proofs.Ytfolppahdmkaoaa
theorem fnRelOf_closed : joinedFacts Try.pinned.checked.prog 7 Try.f7 Rows.fnRelOfSpec Rows.fnRelOfRow = true := by kernel_rfl
end Go.Proofs.Ytfolppahdmkaoaa
