/-
  Walks: traces by value: sizes, copies, equality; slices of them.
-/
import Derived.Test.YtacddgipcafdlaaElI
import Derived.Test.YtacddgipcafdlaaRowS
namespace Go.Proofs.Ytacddgipcafdlaa
open Go.RowKit

set_option maxHeartbeats 1000000 in
theorem eqTrace_same (r : TraV) (w : World) :
    Calls Try.prog 82 #[.agg #[.int .i64 r.k, .string r.t], .agg #[.int .i64 r.k, .string r.t]] w fun e w' => e = .returned (.bool true) ∧ Below w.heap.size w w' := by
  go_enter Try.func82, Try.ntmps82
  go_wp2
  go_ret
  exact ⟨rfl, (((Below.refl _ _).alloc (Nat.le_refl _) _).alloc (by simp) _)⟩

theorem Try.infoR98 : (Try.prog.info? 98).map (fun i => (i.zero, i.size, i.bytes)) = some (some (.agg #[.int .i64 0, .string ⟨#[]⟩]), 2, 24) := by kernel_rfl

end Go.Proofs.Ytacddgipcafdlaa
