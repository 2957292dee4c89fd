/-
  Closed facts of the row of FnExactRelEither.
-/
import Derived.Test.YtjopilcpmmfclaaRows
import Derived.JoinedOf
namespace Go.Proofs.Ytjopilcpmmfclaa
theorem fnExactRelEither_closed : joinedFacts Try.pinned.checked.prog 6 Try.f6 Rows.fnExactRelEitherSpec Rows.fnExactRelEitherRow = true := by kernel_rfl
end Go.Proofs.Ytjopilcpmmfclaa
