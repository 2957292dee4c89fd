/-
  Walk: two pairs that are the same.
-/
import Derived.Test.YtkdhdppngfadiaaRowS
namespace Go.Proofs.Ytkdhdppngfadiaa
open Go.RowKit

set_option maxHeartbeats 1000000 in
theorem eqPair_same (r : PairV) (w : World) :
    Calls Try.prog 68 #[.agg #[.string r.k, .string r.t], .agg #[.string r.k, .string r.t]] w fun e w' => e = .returned (.bool true) ∧ Below w.heap.size w w' := by
  go_enter Try.func68, Try.ntmps68
  go_wp2
  go_ret
  exact ⟨rfl, (((Below.refl _ _).alloc (Nat.le_refl _) _).alloc (by simp) _)⟩
end Go.Proofs.Ytkdhdppngfadiaa
