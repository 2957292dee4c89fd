/-
  Walks: what is left of a set, and of a span.
-/
import Derived.Test.YtgclmldhdjmababOut
namespace Go.Proofs.Ytgclmldhdjmabab
open Go.RowKit Go.Shelf

theorem enter94 : ∀ args w, (callFunc 121 args).run Try.prog w = .ok (.enter 121 args) w := enters_of Try.func121 (by kernel_rfl) rfl

set_option maxHeartbeats 1000000 in
theorem outside_any (A : Option Addr) (len cap : Nat) (w : World) :
    Calls Try.prog 91 #[.slice A len cap] w fun e w' => e = .returned (.func (.func 121) #[] #[.pointer (some ⟨w.heap.size, 0, none⟩)]) ∧ w' = w.alloc (.cells #[.slice A len cap] 27) := by
  go_enter Try.func91, Try.ntmps91
  go_wp2
  go_ret
  exact ⟨rfl, rfl⟩

theorem collect_less (A B : Option Addr) (ca cb : Nat) (xs ys : List (Int × Int)) (w w1 w2 w3 : World) (hx : Spans w A xs) (hy : Spans w B ys) (hA : ∀ b off, A = some ⟨b, off, none⟩ → b < w.heap.size) (hB : ∀ b off, B = some ⟨b, off, none⟩ → b < w.heap.size)
    (hlx : xs.length ≤ 100) (hly : ys.length ≤ 100) (e1 : w1 = w.alloc (.cells #[.slice A xs.length ca] 27)) (e2 : w2 = w1.alloc (.cells #[.slice B ys.length cb] 27))
    (e3 : w3 = (w2.alloc (.cells #[.func (.func 120) #[] #[.pointer (some ⟨w.heap.size, 0, none⟩)]] 117)).alloc (.cells #[.func (.func 121) #[] #[.pointer (some ⟨w1.heap.size, 0, none⟩)]] 117)) :
    Calls Try.prog 88 #[.func (.func 118) #[] #[.pointer (some ⟨w2.heap.size, 0, none⟩), .pointer (some ⟨w2.heap.size + 1, 0, none⟩)]] w3 (Coll w (meetL xs (outL ys))) := by
  have b1 := Boxed.new w 27 (.slice A xs.length ca)
  rw [← e1] at b1
  have b2 := Boxed.new w1 27 (.slice B ys.length cb)
  rw [← e2] at b2
  have b1' : Boxed w2 w.heap.size 27 (.slice A xs.length ca) := by rw [e2]; exact b1.alloc _
  have b3 := (Boxed.new w2 117 (.func (.func 120) #[] #[.pointer (some ⟨w.heap.size, 0, none⟩)])).alloc (.cells #[.func (.func 121) #[] #[.pointer (some ⟨w1.heap.size, 0, none⟩)]] 117)
  rw [← e3] at b3
  have b4 := Boxed.new (w2.alloc (.cells #[.func (.func 120) #[] #[.pointer (some ⟨w.heap.size, 0, none⟩)]] 117)) 117 (.func (.func 121) #[] #[.pointer (some ⟨w1.heap.size, 0, none⟩)])
  rw [← e3] at b4
  have b5 : Boxed w3 w.heap.size 27 (.slice A xs.length ca) := by rw [e3]; exact (b1'.alloc _).alloc _
  have b6 : Boxed w3 w1.heap.size 27 (.slice B ys.length cb) := by rw [e3]; exact (b2.alloc _).alloc _
  have s1 : w1.heap.size = w.heap.size + 1 := by rw [e1]; simp
  have s2 : w2.heap.size = w1.heap.size + 1 := by rw [e2]; simp
  have s3 : w3.heap.size = w2.heap.size + 2 := by rw [e3]; simp
  have k1 : Below w.heap.size w w1 := by rw [e1]; exact (Below.refl _ w).alloc (Nat.le_refl _) _
  have k2 : Below w.heap.size w w2 := by rw [e2]; exact k1.alloc (by omega) _
  have k3 : Below w.heap.size w w3 := by rw [e3]; exact (k2.alloc (by omega) _).alloc (by simp; omega) _
  have hx3 := hx.below k3
  have hy3 := hy.below k3
  rw [show w2.heap.size + 1 = (w2.alloc (.cells #[.func (.func 120) #[] #[.pointer (some ⟨w.heap.size, 0, none⟩)]] 117)).heap.size from by simp]
  have ho := outL_len ys
  have hm : xs.length * (outL ys).length ≤ 100 * 101 := Nat.mul_le_mul hlx (by omega)
  have hs := common1_allN 8 (Nat.le_refl _) 120 121 _ _ enter90 enter94 _ _ xs (outL ys) w3 b3 b4
    (fun m hm => values_stops m hm w.heap.size w3.heap.size ca A xs (by omega) w3 (by omega) (Nat.le_refl _) b5.cell hx3 (fun b off e => by have := hA b off e; omega))
    (fun m hm => out1_all m hm w1.heap.size w3.heap.size cb B ys (by omega) w3 (by omega) (Nat.le_refl _) b6.cell hy3 (fun b off e => by have := hB b off e; omega))
  exact (Collect_in 9 (by omega) 118 _ _ _ (by omega) _ w3 w3 hs (Below.refl _ _) (Nat.le_refl _) enter93).mono fun e w' h => coll_after h k3

def setLessL (xs ys : List (Int × Int)) : List (Int × Int) := if setOk xs && setOk ys then meetL xs (outL ys) else []
theorem setLessL_len (xs ys : List (Int × Int)) : (setLessL xs ys).length ≤ 10100 := by
  unfold setLessL
  by_cases h : (setOk xs && setOk ys) = true
  · rw [if_pos h]
    simp only [Bool.and_eq_true] at h
    have h1 := meetL_len (outL ys) xs
    have h3 := outL_len ys
    have h4 := setOk_len h.2
    have h2 : xs.length * (outL ys).length ≤ 100 * 101 := Nat.mul_le_mul (setOk_len h.1) (by omega)
    omega
  · rw [if_neg h]; simp

set_option maxHeartbeats 1000000 in
theorem SetLess_any (A B : Option Addr) (ca cb : Nat) (xs ys : List (Int × Int)) (w : World) (hx : Spans w A xs) (hy : Spans w B ys) (hA : ∀ b off, A = some ⟨b, off, none⟩ → b < w.heap.size) (hB : ∀ b off, B = some ⟨b, off, none⟩ → b < w.heap.size)
    (hlx : xs.length ≤ 1048577) (hly : ys.length ≤ 1048577) :
    Calls Try.prog 51 #[.slice A xs.length ca, .slice B ys.length cb] w (Coll w (setLessL xs ys)) := by
  have HX := Lib.hid hx
  have HY := Lib.hid hy
  have HA := Lib.hid hA
  have HB := Lib.hid hB
  obtain ⟨o, ho⟩ : ∃ o, setOk xs = o := ⟨_, rfl⟩
  obtain ⟨o', ho'⟩ : ∃ o, setOk ys = o := ⟨_, rfl⟩
  have Ho := Lib.hid ho
  have Ho' := Lib.hid ho'
  clear hx hy hA hB ho ho'
  go_enter Try.func51, Try.ntmps51
  go_wp2_with fail
  refine (SetOk_any _ _ _ _ HX.out hlx).mono ?_
  rintro e w1 ⟨rfl, hb1⟩
  rw [Ho.out]
  cases o
  · go_wp2
    go_ret
    have : setLessL xs ys = [] := by simp [setLessL, Ho.out]
    rw [this]
    exact coll_nil _ _ hb1
  · go_wp2_with fail
    refine (SetOk_any _ _ _ _ (HY.out.below hb1) hly).mono ?_
    rintro e w2 ⟨rfl, hb2'⟩
    have hb2 : Below w.heap.size w w2 := hb1.trans (hb2'.mono hb1.size)
    rw [Ho'.out]
    cases o'
    · go_wp2
      go_ret
      have : setLessL xs ys = [] := by simp [setLessL, Ho'.out]
      rw [this]
      exact coll_nil _ _ hb2
    · have hL := Lib.hid (show setLessL xs ys = meetL xs (outL ys) from by simp [setLessL, Ho.out, Ho'.out])
      go_wp2_with fail
      refine (Values_any _ _ _ _).mono ?_
      rintro e w3 ⟨rfl, e3⟩
      have E3 := Lib.hid e3
      clear e3
      go_wp2_with fail
      refine (outside_any _ _ _ _).mono ?_
      rintro e w4 ⟨rfl, e4⟩
      have E4 := Lib.hid e4
      clear e4
      go_wp2_with fail
      refine (common_any _ _ _ rfl rfl).mono ?_
      rintro e w5 ⟨rfl, e5⟩
      have E5 := Lib.hid e5
      clear e5
      go_wp2_with fail
      refine (collect_less A B ca cb xs ys w2 w3 w4 w5 (HX.out.below hb2) (HY.out.below hb2) (fun b off e => Nat.lt_of_lt_of_le (HA.out b off e) hb2.size) (fun b off e => Nat.lt_of_lt_of_le (HB.out b off e) hb2.size) (setOk_len Ho.out) (setOk_len Ho'.out) E3.out E4.out E5.out).mono ?_
      rintro e w6 h6
      obtain ⟨v, rfl, h6'⟩ := coll_after h6 hb2
      have H6 := Lib.hid h6'
      clear h6 h6'
      go_wp2
      go_ret
      rw [hL.out]
      exact ⟨v, rfl, H6.out⟩
end Go.Proofs.Ytgclmldhdjmabab
