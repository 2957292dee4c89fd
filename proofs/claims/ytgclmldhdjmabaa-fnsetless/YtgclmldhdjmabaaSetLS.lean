/-
  Walk: the model's SetLess.
-/
import Derived.Test.YtgclmldhdjmabaaSetL
namespace Go.Proofs.Ytgclmldhdjmabaa
open Go.RowKit

set_option maxHeartbeats 1000000 in
theorem sSetLess_any (ga oa : Nat) (B : Option Addr) (ca cb : Nat) (xs ys : List (Int × Int)) (w : World) (hx : Spans w (some ⟨ga, oa, none⟩) xs) (hy : Spans w B ys) (hA : ga < w.heap.size) (hlx : xs.length ≤ 1048577) (hly : ys.length ≤ 1048577) :
    Calls Try.prog 64 #[.slice (some ⟨ga, oa, none⟩) xs.length ca, .slice B ys.length cb] w (Gets w (setLessL xs ys)) := by
  have HX := Lib.hid hx
  have HY := Lib.hid hy
  obtain ⟨o, ho⟩ : ∃ o, setOk xs = o := ⟨_, rfl⟩
  obtain ⟨o', ho'⟩ : ∃ o, setOk ys = o := ⟨_, rfl⟩
  have Ho := Lib.hid ho
  have Ho' := Lib.hid ho'
  clear hx hy ho ho'
  go_enter Try.func64, Try.ntmps64
  go_wp2_with fail
  refine (l1SetOk_any _ _ _ _ HX.out hlx).mono ?_
  rintro e w1 ⟨rfl, hb1⟩
  rw [Ho.out]
  cases o
  · go_wp2
    go_ret
    have : setLessL xs ys = [] := by simp [setLessL, Ho.out]
    rw [this]
    exact gets_nil _ _ hb1
  · go_wp2_with fail
    refine (l1SetOk_any _ _ _ _ (HY.out.below hb1) hly).mono ?_
    rintro e w2 ⟨rfl, hb2'⟩
    have hb2 : Below w.heap.size w w2 := hb1.trans (hb2'.mono hb1.size)
    rw [Ho'.out]
    cases o'
    · go_wp2
      go_ret
      have : setLessL xs ys = [] := by simp [setLessL, Ho'.out]
      rw [this]
      exact gets_nil _ _ hb2
    · have hL := Lib.hid (show setLessL xs ys = subL xs ys from by rw [← less_eq Ho.out Ho'.out]; simp [setLessL, Ho.out, Ho'.out])
      have hs2 := hb2.size
      go_wp2_with fail
      refine (l1SetLess_any ga oa _ _ _ _ _ _ (HX.out.below hb2) (HY.out.below hb2) (by omega) Ho.out Ho'.out).mono ?_
      rintro e w3 h3
      obtain ⟨A', c', rfl, h3'⟩ := gets_after h3 hb2
      have H3 := Lib.hid h3'
      clear h3 h3'
      go_wp2
      go_ret
      rw [hL.out]
      exact ⟨A', c', rfl, H3.out⟩

theorem SetLess_gets (A B : Option Addr) (ca cb : Nat) (xs ys : List (Int × Int)) (w : World) (hx : Spans w A xs) (hy : Spans w B ys) (hA : ∀ b off, A = some ⟨b, off, none⟩ → b < w.heap.size) (hB : ∀ b off, B = some ⟨b, off, none⟩ → b < w.heap.size) (hlx : xs.length ≤ 1048577) (hly : ys.length ≤ 1048577) :
    Calls Try.prog 63 #[.slice A xs.length ca, .slice B ys.length cb] w (Gets w (setLessL xs ys)) := (SetLess_any A B ca cb xs ys w hx hy hA hB hlx hly).mono fun _ _ h => gets_of_coll h
end Go.Proofs.Ytgclmldhdjmabaa
