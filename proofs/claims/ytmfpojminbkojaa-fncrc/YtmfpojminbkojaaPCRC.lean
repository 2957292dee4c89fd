/-
  Closed facts of the row of FnCrc.
-/
import Derived.Test.YtmfpojminbkojaaRows
import Derived.JoinedOf
namespace Go.Proofs.Ytmfpojminbkojaa
theorem fnCrc_closed : joinedFacts Try.pinned.checked.prog 11 Try.f11 Rows.fnCrcSpec Rows.fnCrcRow = true := by kernel_rfl
end Go.Proofs.Ytmfpojminbkojaa
