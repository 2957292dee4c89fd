/-
  Closed facts of the row of FnPick.
-/
import Derived.Test.YtjopilcpmmfclaaRows
import Derived.JoinedOf
namespace Go.Proofs.Ytjopilcpmmfclaa
theorem fnPick_closed : joinedFacts Try.pinned.checked.prog 10 Try.f10 Rows.fnPickSpec Rows.fnPickRow = true := by kernel_rfl
end Go.Proofs.Ytjopilcpmmfclaa
