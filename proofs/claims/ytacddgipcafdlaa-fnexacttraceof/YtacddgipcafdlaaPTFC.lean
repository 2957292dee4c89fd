/-
  Closed facts of the row of FnExactTraceOf.
-/
import Derived.Test.YtacddgipcafdlaaRows
import Derived.JoinedOf
namespace Go.Proofs.Ytacddgipcafdlaa
theorem fnExactTraceOf_closed : joinedFacts Try.pinned.checked.prog 7 Try.f7 Rows.fnExactTraceOfSpec Rows.fnExactTraceOfRow = true := by kernel_rfl
end Go.Proofs.Ytacddgipcafdlaa
