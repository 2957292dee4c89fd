/-
  Closed facts of the row of FnExactCrc.
-/
import Derived.Test.YtfolppahdmkaoaaRows
import Derived.JoinedOf
namespace Go.Proofs.Ytfolppahdmkaoaa
theorem fnExactCrc_closed : joinedFacts Try.pinned.checked.prog 3 Try.f3 Rows.fnExactCrcSpec Rows.fnExactCrcRow = true := by kernel_rfl
end Go.Proofs.Ytfolppahdmkaoaa
