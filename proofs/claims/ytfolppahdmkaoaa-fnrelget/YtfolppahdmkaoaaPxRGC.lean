/-
  Closed facts of the row of FnRelGet.
-/
import Derived.Test.YtfolppahdmkaoaaRows
import Derived.JoinedOf
namespace Go.Proofs.Ytfolppahdmkaoaa
theorem fnRelGet_closed : joinedFacts Try.pinned.checked.prog 5 Try.f5 Rows.fnRelGetSpec Rows.fnRelGetRow = true := by kernel_rfl
end Go.Proofs.Ytfolppahdmkaoaa
