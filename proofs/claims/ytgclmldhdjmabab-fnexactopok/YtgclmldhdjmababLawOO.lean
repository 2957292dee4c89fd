/-
  The walk of the exact law of OpOk.
-/
import Derived.Test.YtgclmldhdjmababOpM
import Derived.Test.YtgclmldhdjmababOpT
namespace Go.Proofs.Ytgclmldhdjmabab
open Go.RowKit

set_option maxRecDepth 100000 in
set_option maxHeartbeats 4000000 in
theorem FnExactOpOk_any (k t : Int) (r : RowV) (w : World) (h : r.k.size ≤ maxLen ∧ r.t.size ≤ maxLen) :
    Calls Try.prog 4 #[.agg #[.int .i64 k, .int .i64 t, .string r.k, .string r.t, .int .i64 r.f, .int .i64 r.e]] w fun e w' => e = .returned (.bool true) ∧ Below w.heap.size w w' := by
  obtain ⟨hk, ht⟩ := h
  go_enter Try.func4, Try.ntmps4
  go_wp2_with fail
  generalize hW : w.alloc _ = W0
  have x0 : W0.cell? ⟨w.heap.size, 0, none⟩ = some (.int .i64 k) := by rw [← hW]; simp [go_sem]
  have x1 : W0.cell? ⟨w.heap.size, 1, none⟩ = some (.int .i64 t) := by rw [← hW]; simp [go_sem]
  have x2 : W0.cell? ⟨w.heap.size, 2, none⟩ = some (.string r.k) := by rw [← hW]; simp [go_sem]
  have x3 : W0.cell? ⟨w.heap.size, 3, none⟩ = some (.string r.t) := by rw [← hW]; simp [go_sem]
  have x4 : W0.cell? ⟨w.heap.size, 4, none⟩ = some (.int .i64 r.f) := by rw [← hW]; simp [go_sem]
  have x5 : W0.cell? ⟨w.heap.size, 5, none⟩ = some (.int .i64 r.e) := by rw [← hW]; simp [go_sem]
  have lx : w.heap.size < W0.heap.size := by rw [← hW]; simp
  have B0 := Lib.hid (show Below w.heap.size w W0 from by rw [← hW]; exact (Below.refl _ _).alloc (Nat.le_refl _) _)
  obtain ⟨G, hG⟩ : ∃ G, w.heap.size = G := ⟨_, rfl⟩
  rw [hG] at x0 x1 x2 x3 x4 x5 lx ⊢
  clear hW hG
  refine (szOp_any k t r _ _ (by omega) (by omega) hk ht).mono ?_
  rintro e w1 ⟨rfl, hb⟩
  replace x0 := cellBelow hb lx x0
  replace x1 := cellBelow hb lx x1
  replace x2 := cellBelow hb lx x2
  replace x3 := cellBelow hb lx x3
  replace x4 := cellBelow hb lx x4
  replace x5 := cellBelow hb lx x5
  replace lx := Nat.lt_of_lt_of_le lx hb.size
  have B1 := Lib.hid (B0.out.trans (hb.mono B0.out.size))
  clear hb B0
  have hor := szL_or r 1048576
  obtain ⟨u, hu⟩ : ∃ u, szL r 1048576 = u := ⟨_, rfl⟩
  rw [hu] at hor ⊢
  clear hu
  rcases hor with rfl | ⟨hu0, hu1⟩
  · go_wp2
    go_ret
    exact ⟨rfl, by first | exact B1.out | (subst_vars; exact B1.out)⟩
  · obtain ⟨o, ho⟩ : ∃ o, opOk k t r = o := ⟨_, rfl⟩
    have HO := Lib.hid ho
    clear ho
    go_wp2_with fail
    refine (toOp_any k t r _).mono ?_
    rintro e w2 ⟨rfl, hb⟩
    replace x0 := cellBelow hb lx x0
    replace x1 := cellBelow hb lx x1
    replace x2 := cellBelow hb lx x2
    replace x3 := cellBelow hb lx x3
    replace x4 := cellBelow hb lx x4
    replace x5 := cellBelow hb lx x5
    replace lx := Nat.lt_of_lt_of_le lx hb.size
    have B2 := Lib.hid (B1.out.trans (hb.mono B1.out.size))
    clear hb B1
    go_wp2_with fail
    refine (sOpOk_any k t r _ hk ht).mono ?_
    rw [HO.out]
    rintro e w3 ⟨rfl, hb⟩
    replace x0 := cellBelow hb lx x0
    replace x1 := cellBelow hb lx x1
    replace x2 := cellBelow hb lx x2
    replace x3 := cellBelow hb lx x3
    replace x4 := cellBelow hb lx x4
    replace x5 := cellBelow hb lx x5
    replace lx := Nat.lt_of_lt_of_le lx hb.size
    have B3 := Lib.hid (B2.out.trans (hb.mono B2.out.size))
    clear hb B2
    go_wp2_with fail
    refine (toOp_any k t r _).mono ?_
    rintro e w4 ⟨rfl, hb⟩
    replace x0 := cellBelow hb lx x0
    replace x1 := cellBelow hb lx x1
    replace x2 := cellBelow hb lx x2
    replace x3 := cellBelow hb lx x3
    replace x4 := cellBelow hb lx x4
    replace x5 := cellBelow hb lx x5
    replace lx := Nat.lt_of_lt_of_le lx hb.size
    have B4 := Lib.hid (B3.out.trans (hb.mono B3.out.size))
    clear hb B3
    go_wp2_with fail
    refine (OpOk_any k t r _ hk ht).mono ?_
    rw [HO.out]
    rintro e w5 ⟨rfl, hb⟩
    replace x0 := cellBelow hb lx x0
    replace x1 := cellBelow hb lx x1
    replace x2 := cellBelow hb lx x2
    replace x3 := cellBelow hb lx x3
    replace x4 := cellBelow hb lx x4
    replace x5 := cellBelow hb lx x5
    replace lx := Nat.lt_of_lt_of_le lx hb.size
    have B5 := Lib.hid (B4.out.trans (hb.mono B4.out.size))
    clear hb B4
    go_wp2
    go_ret
    exact ⟨rfl, B5.out⟩
end Go.Proofs.Ytgclmldhdjmabab
