/-
  The walk of FnOpOk.
-/
import Derived.Test.YtgclmldhdjmababDrawO
import Derived.Test.YtgclmldhdjmababOpM
import Derived.Test.YtgclmldhdjmababLawMeet
namespace Go.Proofs.Ytgclmldhdjmabab
open Go.RowKit Go.Lib

theorem opOk_cases {k t : Int} {r : RowV} (h : opOk k t r = true) : (k = 2 ∧ r.t.size = 0 ∧ okB r.f r.e = true) ∨ (k ≠ 2 ∧ ¬ r.t.size = 0 ∧ rowOk r = true ∧ okB r.f r.e = true) := by
  unfold opOk at h
  rw [Bool.and_eq_true] at h
  by_cases hk : k = 2
  · rw [if_pos hk] at h
    have h2 := h.2
    simp only [delOk, Bool.and_eq_true, decide_eq_true_eq] at h2
    exact .inl ⟨hk, h2.1.2, h2.2⟩
  · rw [if_neg hk, Bool.and_eq_true] at h
    have h2 := h.2.2
    have h3 := h2
    simp only [rowOk, wordB, Bool.and_eq_true, decide_eq_true_eq] at h3
    exact .inr ⟨hk, by have := h3.1.2.1.1; omega, h2, h3.2⟩

set_option maxRecDepth 100000 in
set_option maxHeartbeats 4000000 in
theorem FnOpOk_any (A : Option Addr) (n cap : Nat) (bs : List Int) (w : World) (hz : Bytes w w.heap.size A bs ∧ bs.length = n ∧ n ≤ cap ∧ cap ≤ maxLen) :
    Calls Try.prog 5 #[.slice A n cap] w fun e w' => e = .returned (.bool true) ∧ Below w.heap.size w w' := by
  obtain ⟨hz, rfl, hc, hm⟩ := hz
  have hm' := hm
  unfold maxLen at hm'
  by_cases hl0 : (1048576 : Int) < bs.length
  · go_enter Try.func5, Try.ntmps5
    go_wp2
    go_ret
    exact ⟨rfl, Below.refl _ _⟩
  · go_enter Try.func5, Try.ntmps5
    go_wp2_with fail
    refine (DrawOpOk_any A cap bs w hz hc hm).mono ?_
    rintro e w0 ⟨k, t, r, rfl, ⟨hk, ht⟩, hb0⟩
    have HK := Lib.hid hk
    have HT := Lib.hid ht
    have B0 := Lib.hid hb0
    obtain ⟨o, ho⟩ : ∃ o, opOk k t r = o := ⟨_, rfl⟩
    have HO := Lib.hid ho
    clear hz hc hm hm' hk ht hb0 ho
    go_wp2_with fail
    generalize hW : w0.alloc _ = W0
    have x0 : W0.cell? ⟨w0.heap.size, 0, none⟩ = some (.int .i64 k) := by rw [← hW]; simp [go_sem]
    have x1 : W0.cell? ⟨w0.heap.size, 1, none⟩ = some (.int .i64 t) := by rw [← hW]; simp [go_sem]
    have x2 : W0.cell? ⟨w0.heap.size, 2, none⟩ = some (.string r.k) := by rw [← hW]; simp [go_sem]
    have x3 : W0.cell? ⟨w0.heap.size, 3, none⟩ = some (.string r.t) := by rw [← hW]; simp [go_sem]
    have x4 : W0.cell? ⟨w0.heap.size, 4, none⟩ = some (.int .i64 r.f) := by rw [← hW]; simp [go_sem]
    have x5 : W0.cell? ⟨w0.heap.size, 5, none⟩ = some (.int .i64 r.e) := by rw [← hW]; simp [go_sem]
    have lx : w0.heap.size < W0.heap.size := by rw [← hW]; simp
    have B1 := Lib.hid (show Below w.heap.size w W0 from by rw [← hW]; exact B0.out.alloc B0.out.size _)
    obtain ⟨G, hG⟩ : ∃ G, w0.heap.size = G := ⟨_, rfl⟩
    rw [hG] at x0 x1 x2 x3 x4 x5 lx ⊢
    clear hW hG B0
    refine (OpOk_any k t r _ HK.out HT.out).mono ?_
    rw [HO.out]
    rintro e w2 ⟨rfl, hb⟩
    replace x0 := cellBelow hb lx x0
    replace x1 := cellBelow hb lx x1
    replace x2 := cellBelow hb lx x2
    replace x3 := cellBelow hb lx x3
    replace x4 := cellBelow hb lx x4
    replace x5 := cellBelow hb lx x5
    replace lx := Nat.lt_of_lt_of_le lx hb.size
    have B2 := Lib.hid (B1.out.trans (hb.mono B1.out.size))
    clear hb B1
    go_wp2_with fail
    refine (sOpOk_any k t r _ HK.out HT.out).mono ?_
    rw [HO.out]
    rintro e w3 ⟨rfl, hb⟩
    replace x0 := cellBelow hb lx x0
    replace x1 := cellBelow hb lx x1
    replace x2 := cellBelow hb lx x2
    replace x3 := cellBelow hb lx x3
    replace x4 := cellBelow hb lx x4
    replace x5 := cellBelow hb lx x5
    replace lx := Nat.lt_of_lt_of_le lx hb.size
    have B3 := Lib.hid (B2.out.trans (hb.mono B2.out.size))
    clear hb B2
    cases o
    · go_wp2_with fail
      refine (sOpOk_any k t r _ HK.out HT.out).mono ?_
      rw [HO.out]
      rintro e w4 ⟨rfl, hb⟩
      have B4 := Lib.hid (B3.out.trans (hb.mono B3.out.size))
      clear hb B3
      go_wp2
      go_ret
      exact ⟨rfl, B4.out⟩
    · rcases opOk_cases HO.out with ⟨hk2, hsz, hok⟩ | ⟨hk2, hsz, hro, hok⟩
      · have h3 := size_nil hsz
        have HOK := Lib.hid hok
        rw [h3] at x3
        clear hsz hok h3
        subst hk2
        go_wp2_with fail
        refine (SpanOk_val _ _ _ _ HOK.out).mono ?_
        rintro e w4 ⟨rfl, hb⟩
        have B4 := Lib.hid (B3.out.trans (hb.mono B3.out.size))
        clear hb B3
        go_wp2
        go_ret
        exact ⟨rfl, B4.out⟩
      · obtain ⟨h4, h5⟩ := empty_text hsz
        have HOK := Lib.hid hok
        have HRO := Lib.hid hro
        have kb : (k == 2) = false := by simpa using hk2
        clear hsz hok hro hk2
        go_wp2_with fail
        refine (RowOk_any r _ HK.out HT.out).mono ?_
        rw [HRO.out]
        rintro e w4 ⟨rfl, hb⟩
        replace x4 := cellBelow hb lx x4
        replace x5 := cellBelow hb lx x5
        have B4 := Lib.hid (B3.out.trans (hb.mono B3.out.size))
        clear hb B3 x0 x1 x2 x3
        go_wp2_with fail
        refine (SpanOk_val _ _ _ _ HOK.out).mono ?_
        rintro e w5 ⟨rfl, hb⟩
        have B5 := Lib.hid (B4.out.trans (hb.mono B4.out.size))
        clear hb B4
        go_wp2
        go_ret
        exact ⟨rfl, B5.out⟩
end Go.Proofs.Ytgclmldhdjmabab
