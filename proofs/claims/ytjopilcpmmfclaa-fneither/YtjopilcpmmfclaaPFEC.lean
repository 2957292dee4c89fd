/-
  Closed facts of the row of FnEither.
-/
import Derived.Test.YtjopilcpmmfclaaRows
import Derived.JoinedOf
namespace Go.Proofs.Ytjopilcpmmfclaa
theorem fnEither_closed : joinedFacts Try.pinned.checked.prog 13 Try.f13 Rows.fnEitherSpec Rows.fnEitherRow = true := by kernel_rfl
end Go.Proofs.Ytjopilcpmmfclaa
