/-
  The walk of the exact law of StoreLast.
-/
import Derived.Test.YtgclmldhdjmababStoS
import Derived.Test.YtgclmldhdjmababStoLa
namespace Go.Proofs.Ytgclmldhdjmabab
open Go.Shelf Go.RowKit Go.Lib Go.Sort

set_option maxRecDepth 100000 in
set_option maxHeartbeats 4000000 in
theorem FnExactStoreLast_any (now : Int) (A : Option Addr) (n cap : Nat) (zs : List VerV) (key : ByteArray) (w : World) (h : VersA w A zs ∧ zs.length = n ∧ n ≤ maxLen ∧ ShortV zs) (_ : key.size ≤ maxLen) :
    Calls Try.prog 8 #[.agg #[.int .i64 now, .slice A n cap], .string key] w fun e w' => e = .returned (.bool true) ∧ Below w.heap.size w w' := by
  obtain ⟨hz, rfl, hm, hs⟩ := h
  have HS := Lib.hid hs
  clear hs

  by_cases hkl : (1048576 : Int) < key.size
  · go_enter Try.func8, Try.ntmps8
    go_wp2
    go_ret
    first | exact ⟨rfl, Below.refl _ _⟩ | exact ⟨rfl, (Below.refl _ _).alloc (Nat.le_refl _) _⟩
  · skip
    go_enter Try.func8, Try.ntmps8
    go_wp2_with fail
    generalize hW : w.alloc _ = W0
    have x0 : W0.cell? ⟨w.heap.size, 0, none⟩ = some (.int .i64 now) := by rw [← hW]; simp [go_sem]
    have x1 : W0.cell? ⟨w.heap.size, 1, none⟩ = some (.slice A zs.length cap) := by rw [← hW]; simp [go_sem]
    have lx : w.heap.size < W0.heap.size := by rw [← hW]; simp
    have B0 := Lib.hid (show Below w.heap.size w W0 from by rw [← hW]; exact (Below.refl _ _).alloc (Nat.le_refl _) _)
    have Z0 := Lib.hid (hz.below B0.out)
    obtain ⟨G, hG⟩ : ∃ G, w.heap.size = G := ⟨_, rfl⟩
    rw [hG] at x0 x1 lx ⊢
    clear hW hG hz
    refine (szStore_any A cap zs now _ _ (by omega) (by omega) Z0.out hm HS.out).mono ?_
    rintro e w1 ⟨v, rfl, hv, hb⟩
    replace x0 := cellBelow hb lx x0
    replace x1 := cellBelow hb lx x1
    replace lx := Nat.lt_of_lt_of_le lx hb.size
    have Z1 := Lib.hid (Z0.out.below hb)
    have B1 := Lib.hid (B0.out.trans (hb.mono B0.out.size))
    clear hb Z0 B0
    rcases hv with rfl | ⟨hv0, hv1, hv2⟩
    · go_wp2
      go_ret
      exact ⟨rfl, B1.out⟩
    · have hl : zs.length ≤ 1048576 := by omega
      have hd : decide (v < 0) = false := decide_eq_false (by omega)
      obtain ⟨sb, hsb⟩ : ∃ sb, storeLastL zs now key = sb := ⟨_, rfl⟩
      have HSB := Lib.hid hsb
      clear hsb
      go_wp2_with fail
      refine (toStore_any A cap zs now _ Z1.out (by omega)).mono ?_
      rintro e w2 ⟨A2, c2, rfl, ho, hb⟩
      replace x0 := cellBelow hb lx x0
      replace x1 := cellBelow hb lx x1
      replace lx := Nat.lt_of_lt_of_le lx hb.size
      have V2 := Lib.hid (show VersA w2 A2 zs from el_of_owns verC_len ho)
      have Z2 := Lib.hid (Z1.out.below hb)
      have B2 := Lib.hid (B1.out.trans (hb.mono B1.out.size))
      clear hb ho Z1 B1
      go_wp2_with fail
      refine (sStoreLast_any A2 c2 zs now key _ V2.out hl HS.out).mono ?_
      rw [HSB.out]
      rintro e w3 ⟨rfl, hb⟩
      replace x0 := cellBelow hb lx x0
      replace x1 := cellBelow hb lx x1
      replace lx := Nat.lt_of_lt_of_le lx hb.size
      have Z3 := Lib.hid (Z2.out.below hb)
      have B3 := Lib.hid (B2.out.trans (hb.mono B2.out.size))
      clear hb V2 Z2 B2
      go_wp2_with fail
      refine (toStore_any A cap zs now _ Z3.out (by omega)).mono ?_
      rintro e w4 ⟨A4, c4, rfl, ho, hb⟩
      replace x0 := cellBelow hb lx x0
      replace x1 := cellBelow hb lx x1
      replace lx := Nat.lt_of_lt_of_le lx hb.size
      have V4 := Lib.hid (show VersA w4 A4 zs from el_of_owns verC_len ho)
      have Z4 := Lib.hid (Z3.out.below hb)
      have B4 := Lib.hid (B3.out.trans (hb.mono B3.out.size))
      clear hb ho Z3 B3
      go_wp2_with fail
      generalize hW : w4.alloc _ = W4
      have y0 : W4.cell? ⟨w4.heap.size, 0, none⟩ = some (.int .i64 now) := by rw [← hW]; simp [go_sem]
      have y1 : W4.cell? ⟨w4.heap.size, 1, none⟩ = some (.slice A4 zs.length c4) := by rw [← hW]; simp [go_sem]
      have ly : w4.heap.size < W4.heap.size := by rw [← hW]; simp
      have hB : Below w4.heap.size w4 W4 := by rw [← hW]; exact (Below.refl _ _).alloc (Nat.le_refl _) _
      replace x0 := cellBelow hB lx x0
      replace x1 := cellBelow hB lx x1
      replace lx := Nat.lt_of_lt_of_le lx hB.size
      have V5 := Lib.hid (V4.out.below hB)
      have Z5 := Lib.hid (Z4.out.below hB)
      have B5 := Lib.hid (B4.out.trans (hB.mono B4.out.size))
      obtain ⟨Y, hY⟩ : ∃ Y, w4.heap.size = Y := ⟨_, rfl⟩
      rw [hY] at y0 y1 ly ⊢
      clear hW hB hY V4 Z4 B4
      refine (StoreLast_any A4 c4 zs now key _ V5.out (by omega) HS.out).mono ?_
      rw [HSB.out]
      rintro e w6 ⟨rfl, hb⟩
      replace x0 := cellBelow hb lx x0
      replace x1 := cellBelow hb lx x1
      replace lx := Nat.lt_of_lt_of_le lx hb.size
      replace y0 := cellBelow hb ly y0
      replace y1 := cellBelow hb ly y1
      replace ly := Nat.lt_of_lt_of_le ly hb.size
      have V6 := Lib.hid (V5.out.below hb)
      have Z6 := Lib.hid (Z5.out.below hb)
      have B6 := Lib.hid (B5.out.trans (hb.mono B5.out.size))
      clear hb V5 Z5 B5
      have hq0 : Below w6.heap.size w6 w6 := Below.refl _ _
      all_goals
        go_upto_region 12 with fail
        go_region_held3 (fun w' => w'.cell? ⟨G, 0, none⟩ = some (.int .i64 now) ∧ w'.cell? ⟨G, 1, none⟩ = some (.slice A zs.length cap) ∧ w'.cell? ⟨Y, 0, none⟩ = some (.int .i64 now) ∧ w'.cell? ⟨Y, 1, none⟩ = some (.slice A4 zs.length c4) ∧ w6.heap.size ≤ w'.heap.size ∧ Below w6.heap.size w6 w')
          (((try go_split_ands); refine ⟨?c0, ?c1, ?c2, ?c3, ?s, ?b⟩; (case c0 => (repeat (first | with_reducible assumption | with_reducible refine cell_below hb (by first | omega | (simp; done) | (simp; omega)) ?_ | with_reducible refine cell_set_far (by first | omega | (simp; done) | (simp; omega)) ?_ | with_reducible exact cell_alloc_swap (by with_reducible assumption) (by first | omega | (simp; done) | (simp; omega)) | with_reducible refine cell_alloc_far ?_ | with_reducible refine cell_drew ?_))); (case c1 => (repeat (first | with_reducible assumption | with_reducible refine cell_below hb (by first | omega | (simp; done) | (simp; omega)) ?_ | with_reducible refine cell_set_far (by first | omega | (simp; done) | (simp; omega)) ?_ | with_reducible exact cell_alloc_swap (by with_reducible assumption) (by first | omega | (simp; done) | (simp; omega)) | with_reducible refine cell_alloc_far ?_ | with_reducible refine cell_drew ?_))); (case c2 => (repeat (first | with_reducible assumption | with_reducible refine cell_below hb (by first | omega | (simp; done) | (simp; omega)) ?_ | with_reducible refine cell_set_far (by first | omega | (simp; done) | (simp; omega)) ?_ | with_reducible exact cell_alloc_swap (by with_reducible assumption) (by first | omega | (simp; done) | (simp; omega)) | with_reducible refine cell_alloc_far ?_ | with_reducible refine cell_drew ?_))); (case c3 => (repeat (first | with_reducible assumption | with_reducible refine cell_below hb (by first | omega | (simp; done) | (simp; omega)) ?_ | with_reducible refine cell_set_far (by first | omega | (simp; done) | (simp; omega)) ?_ | with_reducible exact cell_alloc_swap (by with_reducible assumption) (by first | omega | (simp; done) | (simp; omega)) | with_reducible refine cell_alloc_far ?_ | with_reducible refine cell_drew ?_))); (case s => (first | with_reducible assumption | (have := hb.size; omega) | omega | (simp; done) | (simp; omega) | (have := hb.size; simp at this ⊢; omega))); (case b => (repeat (first | with_reducible assumption | with_reducible exact hq0 | with_reducible refine Below.drew ?_ | with_reducible refine Below.trans ?_ (hb.mono (by first | omega | (simp; done) | (simp; omega))) | with_reducible refine Below.setCell ?_ (by first | omega | (simp; done) | (simp; omega)) _ | with_reducible exact below_alloc_swap (by with_reducible assumption) (by first | omega | (simp; done) | (simp; omega)) | with_reducible refine Below.alloc ?_ (by first | omega | (simp; done) | (simp; omega)) _)))))
          (first
            | (go_at_call 32; (try go_split_ands); refine (toStore_any A cap zs now _ (Z6.out.below (by (repeat (first | with_reducible assumption | with_reducible exact hq0 | with_reducible refine Below.drew ?_ | with_reducible refine Below.trans ?_ (hb.mono (by first | omega | (simp; done) | (simp; omega))) | with_reducible refine Below.setCell ?_ (by first | omega | (simp; done) | (simp; omega)) _ | with_reducible exact below_alloc_swap (by with_reducible assumption) (by first | omega | (simp; done) | (simp; omega)) | with_reducible refine Below.alloc ?_ (by first | omega | (simp; done) | (simp; omega)) _)))) (by omega)).mono ?_; rintro e wA ⟨AA, cA, rfl, ho, hb⟩; have VA := Lib.hid (show VersA wA AA zs from el_of_owns verC_len ho); clear ho; have hsz : w6.heap.size ≤ wA.heap.size := (by have := hb.size; first | omega | (simp at this; omega)); obtain ⟨hc, hf, hlb⟩ := bcell3 hb)
            | (go_at_call 34; (try go_split_ands); refine (eqStore_same A4 AA c4 cA zs now _ (V6.out.below (by (repeat (first | with_reducible assumption | with_reducible exact hq0 | with_reducible refine Below.drew ?_ | with_reducible refine Below.trans ?_ (hb.mono (by first | omega | (simp; done) | (simp; omega))) | with_reducible refine Below.setCell ?_ (by first | omega | (simp; done) | (simp; omega)) _ | with_reducible exact below_alloc_swap (by with_reducible assumption) (by first | omega | (simp; done) | (simp; omega)) | with_reducible refine Below.alloc ?_ (by first | omega | (simp; done) | (simp; omega)) _)))) VA.out hm).mono ?_; rintro e wB ⟨rfl, hb⟩; have hsz : w6.heap.size ≤ wB.heap.size := (by have := hb.size; first | omega | (simp at this; omega)); obtain ⟨hc, hf, hlb⟩ := bcell3 hb))
        all_goals go_wp2
        all_goals go_ret
        all_goals (rename_i hH; exact ⟨rfl, B6.out.trans (hH.2.2.2.2.2.mono B6.out.size)⟩)
end Go.Proofs.Ytgclmldhdjmabab
