/-
  Walks: membership and the number of points of a set.
-/
import Derived.Test.YtphinkcfmdnpfaaSets
import Derived.WalkSmall
namespace Go.Proofs.Ytphinkcfmdnpfaa
open Go.RowKit

def hasB (a b at_ : Int) : Bool := decide (a ≤ at_ ∧ at_ < b)
def hasAt (zs : List (Int × Int)) (at_ : Int) (k : Nat) : Bool := hasB (zs.getD k (0, 0)).1 (zs.getD k (0, 0)).2 at_
def setHas (zs : List (Int × Int)) (at_ : Int) : Bool := setOk zs && (List.range zs.length).any (hasAt zs at_)

theorem setHas_bad {zs : List (Int × Int)} {at_ : Int} (h : setOk zs = false) : false = setHas zs at_ := by simp [setHas, h]
theorem setHas_yes {zs : List (Int × Int)} {at_ : Int} {k : Nat} (hk : k < zs.length) (h : setOk zs = true) (hh : hasAt zs at_ k = true) : true = setHas zs at_ := by
  rw [setHas, h, Bool.true_and, eq_comm, List.any_eq_true]
  exact ⟨k, by simpa using hk, hh⟩
theorem setHas_no {zs : List (Int × Int)} {at_ : Int} (hh : ∀ j, j < zs.length → hasAt zs at_ j = false) : false = setHas zs at_ := by
  rw [setHas, eq_comm, Bool.and_eq_false_iff]
  refine .inr ?_
  rw [List.any_eq_false]
  intro x hx
  simp [hh x (by simpa using hx)]

set_option maxHeartbeats 400000 in
theorem has_any (a b c : Int) (w : World) :
    Calls Try.prog 121 #[.agg #[.int .i64 a, .int .i64 b], .int .i64 c] w fun e w' => e = .returned (.bool (hasB a b c)) ∧ Below w.heap.size w w' := by
  go_enter Try.func121, Try.ntmps121
  go_wp2
  all_goals go_ret
  all_goals refine ⟨ret_bool ?_, (Below.refl _ _).alloc (Nat.le_refl _) _⟩
  · unfold hasB; rw [decide_eq_decide]; omega
  · unfold hasB; rw [eq_comm, decide_eq_false_iff_not]; omega

set_option maxHeartbeats 400000 in
theorem l1Has_any (a b c : Int) (w : World) :
    Calls Try.prog 118 #[.agg #[.int .i64 a, .int .i64 b], .int .i64 c] w fun e w' => e = .returned (.bool (hasB a b c)) ∧ Below w.heap.size w w' := by
  go_enter Try.func118, Try.ntmps118
  go_wp2
  all_goals go_ret
  all_goals refine ⟨ret_bool ?_, (Below.refl _ _).alloc (Nat.le_refl _) _⟩
  · unfold hasB; rw [decide_eq_decide]; omega
  · unfold hasB; rw [eq_comm, decide_eq_false_iff_not]; omega

def sumTo (zs : List (Int × Int)) : Nat → Int
  | 0 => 0
  | k + 1 => sumTo zs k + ((zs.getD k (0, 0)).2 - (zs.getD k (0, 0)).1)
def setMany (zs : List (Int × Int)) : Int := if setOk zs then sumTo zs zs.length else -1

theorem setOk_at {zs : List (Int × Int)} (h : setOk zs = true) (k : Nat) (hk : k < zs.length) : 0 ≤ (zs.getD k (0, 0)).1 ∧ (zs.getD k (0, 0)).1 < (zs.getD k (0, 0)).2 ∧ (zs.getD k (0, 0)).2 ≤ 100 := by
  rw [setOk, List.all_eq_true] at h
  have := h k (by simpa using hk)
  rw [okAt, Bool.and_eq_true] at this
  exact of_decide_eq_true this.1
theorem sumTo_bd {zs : List (Int × Int)} (h : setOk zs = true) : ∀ k, k ≤ zs.length → 0 ≤ sumTo zs k ∧ sumTo zs k ≤ 100 * k
  | 0, _ => by simp [sumTo]
  | k + 1, hk => by
    have h1 := sumTo_bd h k (by omega)
    have h2 := setOk_at h k (by omega)
    simp only [sumTo]
    omega

theorem ret_int {k : IntKind} {a b : Int} (h : a = b) : Ending.returned (.int k a) = .returned (.int k b) := by rw [h]
theorem setMany_bad {zs : List (Int × Int)} (h : setOk zs = false) : -1 = setMany zs := by simp [setMany, h]
theorem setMany_ok {zs : List (Int × Int)} (h : setOk zs = true) : sumTo zs zs.length = setMany zs := by simp [setMany, h]

end Go.Proofs.Ytphinkcfmdnpfaa
