/-
  Closed facts of the row of FnRelSpans.
-/
import Derived.Test.YtfolppahdmkaoaaRows
import Derived.JoinedOf
namespace Go.Proofs.Ytfolppahdmkaoaa
theorem fnRelSpans_closed : joinedFacts Try.pinned.checked.prog 6 Try.f6 Rows.fnRelSpansSpec Rows.fnRelSpansRow = true := by kernel_rfl
end Go.Proofs.Ytfolppahdmkaoaa
