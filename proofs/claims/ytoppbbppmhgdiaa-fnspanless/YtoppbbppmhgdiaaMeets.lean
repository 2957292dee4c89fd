/-
  Walks: what is common to two sets.
-/
import Derived.Test.YtoppbbppmhgdiaaCommon
import Derived.Test.YtoppbbppmhgdiaaAdd
namespace Go.Proofs.Ytoppbbppmhgdiaa
open Go.RowKit Go.Shelf

theorem setOk_each {zs : List (Int × Int)} (h : setOk zs = true) {k : Nat} (hk : k < zs.length) : okAt zs k = true := by
  rw [setOk, List.all_eq_true] at h
  exact h k (by simpa using hk)
theorem setOk_from {zs : List (Int × Int)} (h : setOk zs = true) : ∀ k, k < zs.length → (k : Int) ≤ (zs.getD k (0, 0)).1 ∧ (zs.getD k (0, 0)).1 < (zs.getD k (0, 0)).2 ∧ (zs.getD k (0, 0)).2 ≤ 100
  | 0, hk => by
    have := setOk_each h hk
    simp [okAt, okB] at this ⊢
    omega
  | k + 1, hk => by
    have h1 := setOk_from h k (by omega)
    have := setOk_each h hk
    simp only [okAt, okB, Bool.and_eq_true, Bool.or_eq_true, decide_eq_true_eq, Nat.add_sub_cancel, beq_iff_eq] at this
    omega
theorem setOk_len {zs : List (Int × Int)} (h : setOk zs = true) : zs.length ≤ 100 := by
  rcases Nat.eq_zero_or_pos zs.length with h0 | h0
  · omega
  · have := setOk_from h (zs.length - 1) (by omega)
    omega

def setMeetL (xs ys : List (Int × Int)) : List (Int × Int) := if setOk xs && setOk ys then meetL xs ys else []

theorem enter90 : ∀ args w, (callFunc 104 args).run Try.prog w = .ok (.enter 104 args) w := enters_of Try.func104 (by kernel_rfl) rfl
theorem enter93 : ∀ args w, (callFunc 102 args).run Try.prog w = .ok (.enter 102 args) w := enters_of Try.func102 (by kernel_rfl) rfl

theorem spans_block {w : World} {A : Option Addr} {zs : List (Int × Int)} (h : Spans w A zs) (h0 : 0 < zs.length) : ∀ b off, A = some ⟨b, off, none⟩ → b < w.heap.size := by
  intro b off e
  obtain ⟨b', off', e', hc⟩ := h h0
  rw [e] at e'
  cases e'
  exact World.block_lt_of_cell? _ _ (hc 0 h0).1

theorem coll_nil (w w' : World) (hb : Below w.heap.size w w') : Coll w [] (.returned (.slice none 0 0)) w' := ⟨_, rfl, World.ownsRow_nil _ _ _ _, by simp, hb⟩
theorem coll_after {w w1 w' : World} {zs : List (Int × Int)} {e : Ending} (h : Coll w1 zs e w') (hb : Below w.heap.size w w1) : Coll w zs e w' := by
  obtain ⟨v, he, ho, hn, hb'⟩ := h
  exact ⟨v, he, owns_base ho hb.size, hn, hb.trans (hb'.mono hb.size)⟩

/-- Two slices of spans, boxed and boxed again: what is collected of what they have in common. -/
theorem collect_meet (A B : Option Addr) (ca cb : Nat) (xs ys : List (Int × Int)) (w w1 w2 w3 : World) (hx : Spans w A xs) (hy : Spans w B ys) (hA : ∀ b off, A = some ⟨b, off, none⟩ → b < w.heap.size) (hB : ∀ b off, B = some ⟨b, off, none⟩ → b < w.heap.size)
    (hlx : xs.length ≤ 100) (hly : ys.length ≤ 100) (e1 : w1 = w.alloc (.cells #[.slice A xs.length ca] 54)) (e2 : w2 = w1.alloc (.cells #[.slice B ys.length cb] 54))
    (e3 : w3 = (w2.alloc (.cells #[.func (.func 104) #[] #[.pointer (some ⟨w.heap.size, 0, none⟩)]] 88)).alloc (.cells #[.func (.func 104) #[] #[.pointer (some ⟨w1.heap.size, 0, none⟩)]] 88)) :
    Calls Try.prog 75 #[.func (.func 102) #[] #[.pointer (some ⟨w2.heap.size, 0, none⟩), .pointer (some ⟨w2.heap.size + 1, 0, none⟩)]] w3 (Coll w (meetL xs ys)) := by
  have b1 := Boxed.new w 54 (.slice A xs.length ca)
  rw [← e1] at b1
  have b2 := Boxed.new w1 54 (.slice B ys.length cb)
  rw [← e2] at b2
  have b1' : Boxed w2 w.heap.size 54 (.slice A xs.length ca) := by rw [e2]; exact b1.alloc _
  have b3 := (Boxed.new w2 88 (.func (.func 104) #[] #[.pointer (some ⟨w.heap.size, 0, none⟩)])).alloc (.cells #[.func (.func 104) #[] #[.pointer (some ⟨w1.heap.size, 0, none⟩)]] 88)
  rw [← e3] at b3
  have b4 := Boxed.new (w2.alloc (.cells #[.func (.func 104) #[] #[.pointer (some ⟨w.heap.size, 0, none⟩)]] 88)) 88 (.func (.func 104) #[] #[.pointer (some ⟨w1.heap.size, 0, none⟩)])
  rw [← e3] at b4
  have b5 : Boxed w3 w.heap.size 54 (.slice A xs.length ca) := by rw [e3]; exact (b1'.alloc _).alloc _
  have b6 : Boxed w3 w1.heap.size 54 (.slice B ys.length cb) := by rw [e3]; exact (b2.alloc _).alloc _
  have s1 : w1.heap.size = w.heap.size + 1 := by rw [e1]; simp
  have s2 : w2.heap.size = w1.heap.size + 1 := by rw [e2]; simp
  have s3 : w3.heap.size = w2.heap.size + 2 := by rw [e3]; simp
  have k1 : Below w.heap.size w w1 := by rw [e1]; exact (Below.refl _ w).alloc (Nat.le_refl _) _
  have k2 : Below w.heap.size w w2 := by rw [e2]; exact k1.alloc (by omega) _
  have k3 : Below w.heap.size w w3 := by rw [e3]; exact (k2.alloc (by omega) _).alloc (by simp; omega) _
  have hx3 := hx.below k3
  have hy3 := hy.below k3
  rw [show w2.heap.size + 1 = (w2.alloc (.cells #[.func (.func 104) #[] #[.pointer (some ⟨w.heap.size, 0, none⟩)]] 88)).heap.size from by simp]
  have hm : xs.length * ys.length ≤ 100 * 100 := Nat.mul_le_mul hlx hly
  have hs := common1_all 8 (Nat.le_refl _) 104 104 _ _ enter90 enter90 _ _ xs ys w3 b3 b4
    (fun m hm => values_stops m hm w.heap.size w3.heap.size ca A xs (by omega) w3 (by omega) (Nat.le_refl _) b5.cell hx3 (fun b off e => by have := hA b off e; omega))
    (fun m hm => values_stops m hm w1.heap.size w3.heap.size cb B ys (by omega) w3 (by omega) (Nat.le_refl _) b6.cell hy3 (fun b off e => by have := hB b off e; omega))
  exact (Collect_in 9 (by omega) 102 _ _ _ (by omega) _ w3 w3 hs (Below.refl _ _) (Nat.le_refl _) enter93).mono fun e w' h => coll_after h k3

set_option maxHeartbeats 1000000 in
theorem SetMeet_any (A B : Option Addr) (ca cb : Nat) (xs ys : List (Int × Int)) (w : World) (hx : Spans w A xs) (hy : Spans w B ys) (hA : ∀ b off, A = some ⟨b, off, none⟩ → b < w.heap.size) (hB : ∀ b off, B = some ⟨b, off, none⟩ → b < w.heap.size)
    (hlx : xs.length ≤ 1048577) (hly : ys.length ≤ 1048577) :
    Calls Try.prog 58 #[.slice A xs.length ca, .slice B ys.length cb] w (Coll w (setMeetL xs ys)) := by
  have HX := Lib.hid hx
  have HY := Lib.hid hy
  have HA := Lib.hid hA
  have HB := Lib.hid hB
  obtain ⟨o, ho⟩ : ∃ o, setOk xs = o := ⟨_, rfl⟩
  obtain ⟨o', ho'⟩ : ∃ o, setOk ys = o := ⟨_, rfl⟩
  have Ho := Lib.hid ho
  have Ho' := Lib.hid ho'
  clear hx hy hA hB ho ho'
  go_enter Try.func58, Try.ntmps58
  go_wp2_with fail
  refine (SetOk_any _ _ _ _ HX.out hlx).mono ?_
  rintro e w1 ⟨rfl, hb1⟩
  rw [Ho.out]
  cases o
  · go_wp2
    go_ret
    have : setMeetL xs ys = [] := by simp [setMeetL, Ho.out]
    rw [this]
    exact coll_nil _ _ hb1
  · go_wp2_with fail
    refine (SetOk_any _ _ _ _ (HY.out.below hb1) hly).mono ?_
    rintro e w2 ⟨rfl, hb2'⟩
    have hb2 : Below w.heap.size w w2 := hb1.trans (hb2'.mono hb1.size)
    rw [Ho'.out]
    cases o'
    · go_wp2
      go_ret
      have : setMeetL xs ys = [] := by simp [setMeetL, Ho'.out]
      rw [this]
      exact coll_nil _ _ hb2
    · have hL := Lib.hid (show setMeetL xs ys = meetL xs ys from by simp [setMeetL, Ho.out, Ho'.out])
      go_wp2_with fail
      refine (Values_any _ _ _ _).mono ?_
      rintro e w3 ⟨rfl, e3⟩
      have E3 := Lib.hid e3
      clear e3
      go_wp2_with fail
      refine (Values_any _ _ _ _).mono ?_
      rintro e w4 ⟨rfl, e4⟩
      have E4 := Lib.hid e4
      clear e4
      go_wp2_with fail
      refine (common_any _ _ _ rfl rfl).mono ?_
      rintro e w5 ⟨rfl, e5⟩
      have E5 := Lib.hid e5
      clear e5
      go_wp2_with fail
      refine (collect_meet A B ca cb xs ys w2 w3 w4 w5 (HX.out.below hb2) (HY.out.below hb2) (fun b off e => Nat.lt_of_lt_of_le (HA.out b off e) hb2.size) (fun b off e => Nat.lt_of_lt_of_le (HB.out b off e) hb2.size) (setOk_len Ho.out) (setOk_len Ho'.out) E3.out E4.out E5.out).mono ?_
      rintro e w6 h6
      obtain ⟨v, rfl, h6'⟩ := coll_after h6 hb2
      have H6 := Lib.hid h6'
      clear h6 h6'
      go_wp2
      go_ret
      rw [hL.out]
      exact ⟨v, rfl, H6.out⟩
end Go.Proofs.Ytoppbbppmhgdiaa
