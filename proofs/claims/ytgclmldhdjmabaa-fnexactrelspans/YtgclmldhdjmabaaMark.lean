/-
  Walks: marks written into a row of spans, and read again.
-/
import Derived.Test.YtgclmldhdjmabaaSets
import Derived.Test.YtgclmldhdjmabaaAdd
import Derived.Test.YtgclmldhdjmabaaCommon
namespace Go.Proofs.Ytgclmldhdjmabaa
open Go.RowKit

def markL (k0 : Int) (n : Nat) : List (Int × Int) := (List.range n).map fun j : Nat => (k0 + 2 * (j : Int), k0 + 2 * (j : Int) + 1)
def markTo (zs : List (Int × Int)) (k0 : Int) (i : Nat) : List (Int × Int) := markL k0 i ++ zs.drop i
theorem markL_length (k0 : Int) (n : Nat) : (markL k0 n).length = n := by simp [markL]
theorem markL_get (k0 : Int) (n j : Nat) (h : j < n) : (markL k0 n).getD j (0, 0) = (k0 + 2 * (j : Int), k0 + 2 * (j : Int) + 1) := by simp [markL, h]
theorem markTo_zero (zs : List (Int × Int)) (k0 : Int) : markTo zs k0 0 = zs := by simp [markTo, markL]
theorem markTo_all (zs : List (Int × Int)) (k0 : Int) : markTo zs k0 zs.length = markL k0 zs.length := by simp [markTo]
theorem markTo_length (zs : List (Int × Int)) (k0 : Int) (i : Nat) (h : i ≤ zs.length) : (markTo zs k0 i).length = zs.length := by simp [markTo, markL]; omega
theorem markTo_set (zs : List (Int × Int)) (k0 : Int) (i : Nat) (h : i < zs.length) : (markTo zs k0 i).set i (k0 + 2 * (i : Int), k0 + 2 * (i : Int) + 1) = markTo zs k0 (i + 1) := by
  unfold markTo
  rw [List.set_append_right _ _ (by rw [markL_length]; omega), markL_length, Nat.sub_self, List.drop_eq_getElem_cons h, List.set_cons_zero]
  simp [markL, List.range_succ]

set_option maxRecDepth 100000 in
set_option maxHeartbeats 2000000 in
theorem mark_some (g cap base : Nat) (zs : List (Int × Int)) (k0 : Int) (w : World) (h : w.ownsRow base 32 2 (.slice (some ⟨g, 0, none⟩) zs.length cap) zs.length (flat zs)) (hk : 0 ≤ k0) (hk' : k0 ≤ 1000000000) (hl : zs.length ≤ 4194304) :
    Calls Try.prog 54 #[.slice (some ⟨g, 0, none⟩) zs.length cap, .int .i64 k0] w fun e w' => e = .returned (.int .i64 (k0 + 2 * zs.length)) ∧ w'.ownsRow base 32 2 (.slice (some ⟨g, 0, none⟩) zs.length cap) zs.length (flat (markL k0 zs.length)) ∧ w.grownBy w' (some g) := by
  have H := Lib.hid h
  clear h
  go_enter Try.func54, Try.ntmps54
  go_wp2
  go_loopw [1, 5] (fun kv i wr => ∃ j : Nat, j ≤ zs.length ∧ i = .int .i64 j ∧ kv = .int .i64 (k0 + 2 * (j : Int)) ∧ wr.ownsRow base 32 2 (.slice (some ⟨g, 0, none⟩) zs.length cap) zs.length (flat (markTo zs k0 j)) ∧ w.grownBy wr (some g)) (fun _ i _ => zs.length - (intOf i).toNat)
  case atStart => exact ⟨0, Nat.zero_le _, rfl, by simp, by rw [markTo_zero]; exact H.out, grown_refl w (some g)⟩
  case round =>
    obtain ⟨j, hj, rfl, rfl, hown, hgr⟩ := hrel
    have Hown := Lib.hid hown
    have Hgr := Lib.hid hgr
    by_cases hlt : j < zs.length
    · have hd : (markTo zs k0 j).length = zs.length := markTo_length zs k0 j hj
      have e0 : wr.cell? ⟨g, j * 2, none⟩ = some (.int .i64 ((markTo zs k0 j).getD j (0, 0)).1) := by
        rw [hown.cellAt (j * 2) (by omega), flat_get0 _ _ (by omega)]
      have e1 : wr.cell? ⟨g, j * 2 + 1, none⟩ = some (.int .i64 ((markTo zs k0 j).getD j (0, 0)).2) := by
        rw [hown.cellAt (j * 2 + 1) (by omega), flat_get1 _ _ (by omega)]
      generalize ((markTo zs k0 j).getD j (0, 0)).1 = u0 at e0
      generalize ((markTo zs k0 j).getD j (0, 0)).2 = u1 at e1
      have f0 := hown.frozenAt (j * 2)
      have f1 := hown.frozenAt (j * 2 + 1)
      have s0 := hown.stored (j * 2) (.int .i64 (k0 + 2 * (j : Int)))
      have s1 := s0.1.stored (j * 2 + 1) (.int .i64 (k0 + 2 * (j : Int) + 1))
      rw [flat_set, markTo_set zs k0 j hlt] at s1
      have HS := Lib.hid s1.1
      have HG := Lib.hid (grown_trans (grown_trans hgr s0.2) s1.2)
      clear s0 s1 hown hgr hd
      go_wp2
      go_roundw
      case rel => exact ⟨j + 1, by omega, by go_num, by go_num, HS.out, HG.out⟩
      case measure => simp [intOf]; omega
    · clear hown hgr
      obtain rfl : j = zs.length := by omega
      go_wp2
      go_ret
      have := Hown.out
      rw [markTo_all] at this
      exact ⟨rfl, this, Hgr.out⟩

set_option maxHeartbeats 1000000 in
theorem mark_nil (k0 : Int) (w : World) : Calls Try.prog 54 #[.slice none 0 0, .int .i64 k0] w fun e w' => e = .returned (.int .i64 k0) ∧ w' = w := by
  go_enter Try.func54, Try.ntmps54
  go_wp2
  go_loopw [1, 5] (fun kv i wr => i = .int .i64 0 ∧ kv = .int .i64 k0 ∧ wr = w) (fun _ i _ => 0)
  case atStart => exact ⟨rfl, rfl, rfl⟩
  case round =>
    obtain ⟨rfl, rfl, rfl⟩ := hrel
    go_wp2
    go_ret
    exact ⟨rfl, rfl⟩

/-- Marks in whatever row is one's own. -/
theorem mark_any (base : Nat) (v : Value) (zs : List (Int × Int)) (k0 : Int) (w : World) (h : w.ownsRow base 32 2 v zs.length (flat zs)) (hk : 0 ≤ k0) (hk' : k0 ≤ 1000000000) (hl : zs.length ≤ 4194304) :
    Calls Try.prog 54 #[v, .int .i64 k0] w fun e w' => e = .returned (.int .i64 (k0 + 2 * zs.length)) ∧ w'.ownsRow base 32 2 v zs.length (flat (markL k0 zs.length)) ∧ w.grownBy w' v.ownBlock := by
  rcases h.2 with ⟨rfl, h0⟩ | ⟨g, c, cur, rfl, _⟩
  · have hz : zs.length = 0 := by
      have := flat_length zs
      have h1 := h.1
      simp_all
    obtain rfl : zs = [] := List.length_eq_zero_iff.1 hz
    exact (mark_nil k0 w).mono fun e w' ⟨h1, h2⟩ => by subst h2; exact ⟨by simpa using h1, h, grown_refl _ _⟩
  · exact mark_some g c base zs k0 w h hk hk' hl

set_option maxRecDepth 100000 in
set_option maxHeartbeats 2000000 in
theorem held_any (A : Option Addr) (n cap : Nat) (k0 : Int) (w : World) (hz : Spans w A (markL k0 n)) (hk : 0 ≤ k0) (hk' : k0 ≤ 1000000000) (hl : n ≤ 4194304) :
    Calls Try.prog 55 #[.slice A n cap, .int .i64 k0] w fun e w' => e = .returned (.int .i64 (k0 + 2 * n)) ∧ w' = w := by
  have HZ := Lib.hid hz
  clear hz
  go_enter Try.func55, Try.ntmps55
  go_wp2
  go_loopw [1, 5] (fun kv i wr => ∃ j : Nat, j ≤ n ∧ i = .int .i64 j ∧ kv = .int .i64 (k0 + 2 * (j : Int)) ∧ wr = w) (fun _ i _ => n - (intOf i).toNat)
  case atStart => exact ⟨0, Nat.zero_le _, rfl, by simp, rfl⟩
  case round =>
    obtain ⟨j, hj, rfl, rfl, rfl⟩ := hrel
    by_cases hlt : j < n
    · obtain ⟨b, off, rfl, hcells⟩ := HZ.out (by rw [markL_length]; omega)
      obtain ⟨c0, c1⟩ := hcells j (by rw [markL_length]; omega)
      rw [markL_get k0 n j hlt] at c0 c1
      clear hcells
      simp only [] at c0 c1
      go_wp2
      go_roundw
      case rel => exact ⟨j + 1, by omega, by go_num, by go_num, by trivial⟩
      case measure => simp [intOf]; omega
    · obtain rfl : j = n := by omega
      go_wp2
      go_ret
      exact ⟨rfl, rfl⟩
end Go.Proofs.Ytgclmldhdjmabaa
namespace Go.Proofs.Ytgclmldhdjmabaa
open Go.RowKit Go.Shelf

theorem setOk_each {zs : List (Int × Int)} (h : setOk zs = true) {k : Nat} (hk : k < zs.length) : okAt zs k = true := by
  rw [setOk, List.all_eq_true] at h
  exact h k (by simpa using hk)
theorem setOk_from {zs : List (Int × Int)} (h : setOk zs = true) : ∀ k, k < zs.length → (k : Int) ≤ (zs.getD k (0, 0)).1 ∧ (zs.getD k (0, 0)).1 < (zs.getD k (0, 0)).2 ∧ (zs.getD k (0, 0)).2 ≤ 100
  | 0, hk => by
    have := setOk_each h hk
    simp [okAt, okB] at this ⊢
    omega
  | k + 1, hk => by
    have h1 := setOk_from h k (by omega)
    have := setOk_each h hk
    simp only [okAt, okB, Bool.and_eq_true, Bool.or_eq_true, decide_eq_true_eq, Nat.add_sub_cancel, beq_iff_eq] at this
    omega
theorem setOk_len {zs : List (Int × Int)} (h : setOk zs = true) : zs.length ≤ 100 := by
  rcases Nat.eq_zero_or_pos zs.length with h0 | h0
  · omega
  · have := setOk_from h (zs.length - 1) (by omega)
    omega

def setMeetL (xs ys : List (Int × Int)) : List (Int × Int) := if setOk xs && setOk ys then meetL xs ys else []

theorem enter90 : ∀ args w, (callFunc 141 args).run Try.prog w = .ok (.enter 141 args) w := enters_of Try.func141 (by kernel_rfl) rfl
theorem enter93 : ∀ args w, (callFunc 146 args).run Try.prog w = .ok (.enter 146 args) w := enters_of Try.func146 (by kernel_rfl) rfl

theorem spans_block {w : World} {A : Option Addr} {zs : List (Int × Int)} (h : Spans w A zs) (h0 : 0 < zs.length) : ∀ b off, A = some ⟨b, off, none⟩ → b < w.heap.size := by
  intro b off e
  obtain ⟨b', off', e', hc⟩ := h h0
  rw [e] at e'
  cases e'
  exact World.block_lt_of_cell? _ _ (hc 0 h0).1

theorem coll_nil (w w' : World) (hb : Below w.heap.size w w') : Coll w [] (.returned (.slice none 0 0)) w' := ⟨_, rfl, World.ownsRow_nil _ _ _ _, by simp, hb⟩
theorem coll_after {w w1 w' : World} {zs : List (Int × Int)} {e : Ending} (h : Coll w1 zs e w') (hb : Below w.heap.size w w1) : Coll w zs e w' := by
  obtain ⟨v, he, ho, hn, hb'⟩ := h
  exact ⟨v, he, owns_base ho hb.size, hn, hb.trans (hb'.mono hb.size)⟩

/-- Two slices of spans, boxed and boxed again: what is collected of what they have in common. -/
theorem collect_meet (A B : Option Addr) (ca cb : Nat) (xs ys : List (Int × Int)) (w w1 w2 w3 : World) (hx : Spans w A xs) (hy : Spans w B ys) (hA : ∀ b off, A = some ⟨b, off, none⟩ → b < w.heap.size) (hB : ∀ b off, B = some ⟨b, off, none⟩ → b < w.heap.size)
    (hlx : xs.length ≤ 100) (hly : ys.length ≤ 100) (e1 : w1 = w.alloc (.cells #[.slice A xs.length ca] 35)) (e2 : w2 = w1.alloc (.cells #[.slice B ys.length cb] 35))
    (e3 : w3 = (w2.alloc (.cells #[.func (.func 141) #[] #[.pointer (some ⟨w.heap.size, 0, none⟩)]] 119)).alloc (.cells #[.func (.func 141) #[] #[.pointer (some ⟨w1.heap.size, 0, none⟩)]] 119)) :
    Calls Try.prog 118 #[.func (.func 146) #[] #[.pointer (some ⟨w2.heap.size, 0, none⟩), .pointer (some ⟨w2.heap.size + 1, 0, none⟩)]] w3 (Coll w (meetL xs ys)) := by
  have b1 := Boxed.new w 35 (.slice A xs.length ca)
  rw [← e1] at b1
  have b2 := Boxed.new w1 35 (.slice B ys.length cb)
  rw [← e2] at b2
  have b1' : Boxed w2 w.heap.size 35 (.slice A xs.length ca) := by rw [e2]; exact b1.alloc _
  have b3 := (Boxed.new w2 119 (.func (.func 141) #[] #[.pointer (some ⟨w.heap.size, 0, none⟩)])).alloc (.cells #[.func (.func 141) #[] #[.pointer (some ⟨w1.heap.size, 0, none⟩)]] 119)
  rw [← e3] at b3
  have b4 := Boxed.new (w2.alloc (.cells #[.func (.func 141) #[] #[.pointer (some ⟨w.heap.size, 0, none⟩)]] 119)) 119 (.func (.func 141) #[] #[.pointer (some ⟨w1.heap.size, 0, none⟩)])
  rw [← e3] at b4
  have b5 : Boxed w3 w.heap.size 35 (.slice A xs.length ca) := by rw [e3]; exact (b1'.alloc _).alloc _
  have b6 : Boxed w3 w1.heap.size 35 (.slice B ys.length cb) := by rw [e3]; exact (b2.alloc _).alloc _
  have s1 : w1.heap.size = w.heap.size + 1 := by rw [e1]; simp
  have s2 : w2.heap.size = w1.heap.size + 1 := by rw [e2]; simp
  have s3 : w3.heap.size = w2.heap.size + 2 := by rw [e3]; simp
  have k1 : Below w.heap.size w w1 := by rw [e1]; exact (Below.refl _ w).alloc (Nat.le_refl _) _
  have k2 : Below w.heap.size w w2 := by rw [e2]; exact k1.alloc (by omega) _
  have k3 : Below w.heap.size w w3 := by rw [e3]; exact (k2.alloc (by omega) _).alloc (by simp; omega) _
  have hx3 := hx.below k3
  have hy3 := hy.below k3
  rw [show w2.heap.size + 1 = (w2.alloc (.cells #[.func (.func 141) #[] #[.pointer (some ⟨w.heap.size, 0, none⟩)]] 119)).heap.size from by simp]
  have hm : xs.length * ys.length ≤ 100 * 100 := Nat.mul_le_mul hlx hly
  have hs := common1_all 8 (Nat.le_refl _) 141 141 _ _ enter90 enter90 _ _ xs ys w3 b3 b4
    (fun m hm => values_stops m hm w.heap.size w3.heap.size ca A xs (by omega) w3 (by omega) (Nat.le_refl _) b5.cell hx3 (fun b off e => by have := hA b off e; omega))
    (fun m hm => values_stops m hm w1.heap.size w3.heap.size cb B ys (by omega) w3 (by omega) (Nat.le_refl _) b6.cell hy3 (fun b off e => by have := hB b off e; omega))
  exact (Collect_in 9 (by omega) 146 _ _ _ (by omega) _ w3 w3 hs (Below.refl _ _) (Nat.le_refl _) enter93).mono fun e w' h => coll_after h k3

set_option maxHeartbeats 1000000 in
theorem SetMeet_any (A B : Option Addr) (ca cb : Nat) (xs ys : List (Int × Int)) (w : World) (hx : Spans w A xs) (hy : Spans w B ys) (hA : ∀ b off, A = some ⟨b, off, none⟩ → b < w.heap.size) (hB : ∀ b off, B = some ⟨b, off, none⟩ → b < w.heap.size)
    (hlx : xs.length ≤ 1048577) (hly : ys.length ≤ 1048577) :
    Calls Try.prog 65 #[.slice A xs.length ca, .slice B ys.length cb] w (Coll w (setMeetL xs ys)) := by
  have HX := Lib.hid hx
  have HY := Lib.hid hy
  have HA := Lib.hid hA
  have HB := Lib.hid hB
  obtain ⟨o, ho⟩ : ∃ o, setOk xs = o := ⟨_, rfl⟩
  obtain ⟨o', ho'⟩ : ∃ o, setOk ys = o := ⟨_, rfl⟩
  have Ho := Lib.hid ho
  have Ho' := Lib.hid ho'
  clear hx hy hA hB ho ho'
  go_enter Try.func65, Try.ntmps65
  go_wp2_with fail
  refine (SetOk_any _ _ _ _ HX.out hlx).mono ?_
  rintro e w1 ⟨rfl, hb1⟩
  rw [Ho.out]
  cases o
  · go_wp2
    go_ret
    have : setMeetL xs ys = [] := by simp [setMeetL, Ho.out]
    rw [this]
    exact coll_nil _ _ hb1
  · go_wp2_with fail
    refine (SetOk_any _ _ _ _ (HY.out.below hb1) hly).mono ?_
    rintro e w2 ⟨rfl, hb2'⟩
    have hb2 : Below w.heap.size w w2 := hb1.trans (hb2'.mono hb1.size)
    rw [Ho'.out]
    cases o'
    · go_wp2
      go_ret
      have : setMeetL xs ys = [] := by simp [setMeetL, Ho'.out]
      rw [this]
      exact coll_nil _ _ hb2
    · have hL := Lib.hid (show setMeetL xs ys = meetL xs ys from by simp [setMeetL, Ho.out, Ho'.out])
      go_wp2_with fail
      refine (Values_any _ _ _ _).mono ?_
      rintro e w3 ⟨rfl, e3⟩
      have E3 := Lib.hid e3
      clear e3
      go_wp2_with fail
      refine (Values_any _ _ _ _).mono ?_
      rintro e w4 ⟨rfl, e4⟩
      have E4 := Lib.hid e4
      clear e4
      go_wp2_with fail
      refine (common_any _ _ _ rfl rfl).mono ?_
      rintro e w5 ⟨rfl, e5⟩
      have E5 := Lib.hid e5
      clear e5
      go_wp2_with fail
      refine (collect_meet A B ca cb xs ys w2 w3 w4 w5 (HX.out.below hb2) (HY.out.below hb2) (fun b off e => Nat.lt_of_lt_of_le (HA.out b off e) hb2.size) (fun b off e => Nat.lt_of_lt_of_le (HB.out b off e) hb2.size) (setOk_len Ho.out) (setOk_len Ho'.out) E3.out E4.out E5.out).mono ?_
      rintro e w6 h6
      obtain ⟨v, rfl, h6'⟩ := coll_after h6 hb2
      have H6 := Lib.hid h6'
      clear h6 h6'
      go_wp2
      go_ret
      rw [hL.out]
      exact ⟨v, rfl, H6.out⟩
end Go.Proofs.Ytgclmldhdjmabaa
namespace Go.Proofs.Ytgclmldhdjmabaa
open Go.RowKit

theorem meetL_take {xs ys : List (Int × Int)} {k : Nat} (hk : k < xs.length) : meetL (xs.take (k + 1)) ys = meetL (xs.take k) ys ++ meetOne (xs.getD k (0, 0)) ys := by
  rw [List.take_succ_eq_append_getElem hk, meetL_snoc, show xs.getD k (0, 0) = xs[k] from by simp [hk]]
theorem meetOne_take {x : Int × Int} {ys : List (Int × Int)} {k : Nat} (hk : k < ys.length) : meetOne x (ys.take (k + 1)) = meetOne x (ys.take k) ++ (if mB x.1 x.2 (ys.getD k (0, 0)).1 (ys.getD k (0, 0)).2 then [(mF x.1 x.2 (ys.getD k (0, 0)).1 (ys.getD k (0, 0)).2, mT x.1 x.2 (ys.getD k (0, 0)).1 (ys.getD k (0, 0)).2)] else []) := by
  rw [List.take_succ_eq_append_getElem hk, meetOne_snoc, show ys.getD k (0, 0) = ys[k] from by simp [hk]]

def AtOne (wr : World) (x1 x2 y1 y2 : Int) (s8 s9 : Value) (wx : World) : Prop :=
  ∃ g' : Nat, s8 = .pointer (some ⟨g', 0, none⟩) ∧ s9 = .bool (mB x1 x2 y1 y2) ∧ wx.cell? ⟨g', 0, none⟩ = some (.int .i64 (max x1 y1)) ∧ wx.cell? ⟨g', 1, none⟩ = some (.int .i64 (min x2 y2)) ∧ Below wr.heap.size wr wx

end Go.Proofs.Ytgclmldhdjmabaa
