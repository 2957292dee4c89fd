/-
  Closed facts of the row of FnExactRelGet.
-/
import Derived.Test.YtoppbbppmhgdiaaRows
import Derived.JoinedOf
namespace Go.Proofs.Ytoppbbppmhgdiaa
theorem fnExactRelGet_closed : joinedFacts Try.pinned.checked.prog 5 Try.f5 Rows.fnExactRelGetSpec Rows.fnExactRelGetRow = true := by kernel_rfl
end Go.Proofs.Ytoppbbppmhgdiaa
