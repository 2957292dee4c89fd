/-
  Closed facts of the row of FnExactRelBad.
-/
import Derived.Test.YtjopilcpmmfclaaRows
import Derived.JoinedOf
namespace Go.Proofs.Ytjopilcpmmfclaa
theorem fnExactRelBad_closed : joinedFacts Try.pinned.checked.prog 9 Try.f9 Rows.fnExactRelBadSpec Rows.fnExactRelBadRow = true := by kernel_rfl
end Go.Proofs.Ytjopilcpmmfclaa
