/-
  Walks: membership and the number of points of a set.
-/
import Derived.Test.YtfolppahdmkaoaaSets
import Derived.WalkSmall
namespace Go.Proofs.Ytfolppahdmkaoaa
open Go.RowKit

def hasB (a b at_ : Int) : Bool := decide (a ≤ at_ ∧ at_ < b)
def hasAt (zs : List (Int × Int)) (at_ : Int) (k : Nat) : Bool := hasB (zs.getD k (0, 0)).1 (zs.getD k (0, 0)).2 at_
def setHas (zs : List (Int × Int)) (at_ : Int) : Bool := setOk zs && (List.range zs.length).any (hasAt zs at_)

theorem setHas_bad {zs : List (Int × Int)} {at_ : Int} (h : setOk zs = false) : false = setHas zs at_ := by simp [setHas, h]
theorem setHas_yes {zs : List (Int × Int)} {at_ : Int} {k : Nat} (hk : k < zs.length) (h : setOk zs = true) (hh : hasAt zs at_ k = true) : true = setHas zs at_ := by
  rw [setHas, h, Bool.true_and, eq_comm, List.any_eq_true]
  exact ⟨k, by simpa using hk, hh⟩
theorem setHas_no {zs : List (Int × Int)} {at_ : Int} (hh : ∀ j, j < zs.length → hasAt zs at_ j = false) : false = setHas zs at_ := by
  rw [setHas, eq_comm, Bool.and_eq_false_iff]
  refine .inr ?_
  rw [List.any_eq_false]
  intro x hx
  simp [hh x (by simpa using hx)]

set_option maxHeartbeats 400000 in
theorem has_any (a b c : Int) (w : World) :
    Calls Try.prog 43 #[.agg #[.int .i64 a, .int .i64 b], .int .i64 c] w fun e w' => e = .returned (.bool (hasB a b c)) ∧ Below w.heap.size w w' := by
  go_enter Try.func43, Try.ntmps43
  go_wp2
  all_goals go_ret
  all_goals refine ⟨ret_bool ?_, (Below.refl _ _).alloc (Nat.le_refl _) _⟩
  · unfold hasB; rw [decide_eq_decide]; omega
  · unfold hasB; rw [eq_comm, decide_eq_false_iff_not]; omega

set_option maxHeartbeats 400000 in
theorem l1Has_any (a b c : Int) (w : World) :
    Calls Try.prog 60 #[.agg #[.int .i64 a, .int .i64 b], .int .i64 c] w fun e w' => e = .returned (.bool (hasB a b c)) ∧ Below w.heap.size w w' := by
  go_enter Try.func60, Try.ntmps60
  go_wp2
  all_goals go_ret
  all_goals refine ⟨ret_bool ?_, (Below.refl _ _).alloc (Nat.le_refl _) _⟩
  · unfold hasB; rw [decide_eq_decide]; omega
  · unfold hasB; rw [eq_comm, decide_eq_false_iff_not]; omega

set_option maxHeartbeats 1000000 in
theorem SetHas_any (A : Option Addr) (cap : Nat) (zs : List (Int × Int)) (c : Int) (w : World) (hz : Spans w A zs) (hl : zs.length ≤ 1048577) :
    Calls Try.prog 18 #[.slice A zs.length cap, .int .i64 c] w fun e w' => e = .returned (.bool (setHas zs c)) ∧ Below w.heap.size w w' := by
  obtain ⟨o, ho⟩ : ∃ o, setOk zs = o := ⟨_, rfl⟩
  have Ho := Lib.hid ho
  clear ho
  go_enter Try.func18, Try.ntmps18
  go_wp2_with fail
  refine (SetOk_any _ _ _ _ hz hl).mono ?_
  rintro e w1 ⟨rfl, hb1⟩
  rw [Ho.out]
  cases o
  · go_wp2
    go_ret
    exact ⟨ret_bool (setHas_bad Ho.out), hb1⟩
  · go_wp2
    go_loopw [12] (fun i wr => ∃ k : Nat, k ≤ zs.length ∧ i = .int .i64 k ∧ (∀ j, j < k → hasAt zs c j = false) ∧ Below w.heap.size w wr) (fun i _ => zs.length - (intOf i).toNat)
    case atStart => exact ⟨0, Nat.zero_le _, rfl, fun j hj => absurd hj (by omega), hb1⟩
    case round =>
      obtain ⟨k, hk, rfl, hall, hbr⟩ := hrel
      have Hall := Lib.hid hall
      clear hall hb1
      by_cases hlt : k < zs.length
      · obtain ⟨b, off, rfl, hcells⟩ := hz (by omega)
        obtain ⟨c0, c1⟩ := hcells k hlt
        obtain ⟨x, hx⟩ : ∃ x, (zs.getD k (0, 0)).1 = x := ⟨_, rfl⟩
        obtain ⟨y, hy⟩ : ∃ x, (zs.getD k (0, 0)).2 = x := ⟨_, rfl⟩
        obtain ⟨t, ht⟩ : ∃ t, hasB x y c = t := ⟨_, rfl⟩
        have hok : hasAt zs c k = t := by rw [hasAt, hx, hy, ht]
        rw [hx] at c0
        rw [hy] at c1
        have c0r : wr.cell? ⟨b, off + k * 2, none⟩ = some (.int .i64 x) := cell_below hbr (World.block_lt_of_cell? _ _ c0) c0
        have c1r : wr.cell? ⟨b, off + k * 2 + 1, none⟩ = some (.int .i64 y) := cell_below hbr (World.block_lt_of_cell? _ _ c1) c1
        have Hok := Lib.hid hok
        have Ht := Lib.hid ht
        clear hok hx hy c0 c1 hcells ht
        go_wp2_with fail
        refine (has_any _ _ _ _).mono ?_
        rintro e w2 ⟨rfl, hb2⟩
        have Hv := Lib.hid ((hbr.trans ((Below.refl _ _).alloc hbr.size _)).trans (hb2.mono (by have := hbr.size; simp; omega)))
        clear hb2
        rw [Ht.out]
        cases t
        · go_wp2
          go_roundw
          case rel => exact ⟨k + 1, by omega, by go_num, fun j hj => by
            by_cases e : j = k
            · subst e; exact Hok.out
            · exact Hall.out j (by omega), Hv.out⟩
          case measure => simp [intOf]; omega
        · go_wp2
          go_ret
          exact ⟨ret_bool (setHas_yes hlt Ho.out Hok.out), Hv.out⟩
      · go_wp2
        go_ret
        exact ⟨ret_bool (setHas_no fun j hj => Hall.out j (by omega)), hbr⟩

def sumTo (zs : List (Int × Int)) : Nat → Int
  | 0 => 0
  | k + 1 => sumTo zs k + ((zs.getD k (0, 0)).2 - (zs.getD k (0, 0)).1)
def setMany (zs : List (Int × Int)) : Int := if setOk zs then sumTo zs zs.length else -1

theorem setOk_at {zs : List (Int × Int)} (h : setOk zs = true) (k : Nat) (hk : k < zs.length) : 0 ≤ (zs.getD k (0, 0)).1 ∧ (zs.getD k (0, 0)).1 < (zs.getD k (0, 0)).2 ∧ (zs.getD k (0, 0)).2 ≤ 100 := by
  rw [setOk, List.all_eq_true] at h
  have := h k (by simpa using hk)
  rw [okAt, Bool.and_eq_true] at this
  exact of_decide_eq_true this.1
theorem sumTo_bd {zs : List (Int × Int)} (h : setOk zs = true) : ∀ k, k ≤ zs.length → 0 ≤ sumTo zs k ∧ sumTo zs k ≤ 100 * k
  | 0, _ => by simp [sumTo]
  | k + 1, hk => by
    have h1 := sumTo_bd h k (by omega)
    have h2 := setOk_at h k (by omega)
    simp only [sumTo]
    omega

set_option maxHeartbeats 400000 in
theorem many_any (a b : Int) (w : World) (h0 : 0 ≤ a) (h1 : a < b) (h2 : b ≤ 100) :
    Calls Try.prog 47 #[.agg #[.int .i64 a, .int .i64 b]] w fun e w' => e = .returned (.int .i64 (b - a)) ∧ Below w.heap.size w w' := by
  go_enter Try.func47, Try.ntmps47
  go_wp2
  go_ret
  exact ⟨rfl, (Below.refl _ _).alloc (Nat.le_refl _) _⟩

theorem ret_int {k : IntKind} {a b : Int} (h : a = b) : Ending.returned (.int k a) = .returned (.int k b) := by rw [h]
theorem setMany_bad {zs : List (Int × Int)} (h : setOk zs = false) : -1 = setMany zs := by simp [setMany, h]
theorem setMany_ok {zs : List (Int × Int)} (h : setOk zs = true) : sumTo zs zs.length = setMany zs := by simp [setMany, h]

set_option maxHeartbeats 1000000 in
theorem SetMany_any (A : Option Addr) (cap : Nat) (zs : List (Int × Int)) (w : World) (hz : Spans w A zs) (hl : zs.length ≤ 1048577) :
    Calls Try.prog 24 #[.slice A zs.length cap] w fun e w' => e = .returned (.int .i64 (setMany zs)) ∧ Below w.heap.size w w' := by
  obtain ⟨o, ho⟩ : ∃ o, setOk zs = o := ⟨_, rfl⟩
  have Ho := Lib.hid ho
  clear ho
  go_enter Try.func24, Try.ntmps24
  go_wp2_with fail
  refine (SetOk_any _ _ _ _ hz hl).mono ?_
  rintro e w1 ⟨rfl, hb1⟩
  rw [Ho.out]
  cases o
  · go_wp2
    go_ret
    exact ⟨ret_int (setMany_bad Ho.out), hb1⟩
  · go_wp2
    go_loopw [3, 11] (fun n i wr => ∃ k : Nat, k ≤ zs.length ∧ i = .int .i64 k ∧ n = .int .i64 (sumTo zs k) ∧ Below w.heap.size w wr) (fun _ i _ => zs.length - (intOf i).toNat)
    case atStart => exact ⟨0, Nat.zero_le _, rfl, rfl, hb1⟩
    case round =>
      obtain ⟨k, hk, rfl, rfl, hbr⟩ := hrel
      clear hb1
      have hbd := sumTo_bd Ho.out k hk
      by_cases hlt : k < zs.length
      · obtain ⟨b, off, rfl, hcells⟩ := hz (by omega)
        obtain ⟨c0, c1⟩ := hcells k hlt
        have hp := setOk_at Ho.out k hlt
        have hs : sumTo zs (k + 1) = sumTo zs k + ((zs.getD k (0, 0)).2 - (zs.getD k (0, 0)).1) := rfl
        generalize sumTo zs k = sm at *
        generalize (zs.getD k (0, 0)).1 = x at *
        generalize (zs.getD k (0, 0)).2 = y at *
        obtain ⟨p1, p2, p3⟩ := hp
        have c0r : wr.cell? ⟨b, off + k * 2, none⟩ = some (.int .i64 x) := cell_below hbr (World.block_lt_of_cell? _ _ c0) c0
        have c1r : wr.cell? ⟨b, off + k * 2 + 1, none⟩ = some (.int .i64 y) := cell_below hbr (World.block_lt_of_cell? _ _ c1) c1
        have Hs := Lib.hid hs
        clear hs c0 c1 hcells
        go_wp2_with fail
        refine (many_any _ _ _ (by omega) (by omega) (by omega)).mono ?_
        rintro e w2 ⟨rfl, hb2⟩
        have Hv := Lib.hid ((hbr.trans ((Below.refl _ _).alloc hbr.size _)).trans (hb2.mono (by have := hbr.size; simp; omega)))
        clear hb2
        go_wp2
        go_roundw
        case rel => exact ⟨k + 1, by omega, by go_num, by rw [Hs.out], Hv.out⟩
        case measure => simp [intOf]; omega
      · go_wp2
        go_ret
        obtain rfl : k = zs.length := by omega
        exact ⟨ret_int (setMany_ok Ho.out), hbr⟩

end Go.Proofs.Ytfolppahdmkaoaa
