/-
  The walk of the exact law of RowOk.
-/
import Derived.Test.YtoppbbppmhgdiaaRowW
import Derived.Test.YtoppbbppmhgdiaaRowT
namespace Go.Proofs.Ytoppbbppmhgdiaa
open Go.RowKit

set_option maxRecDepth 100000 in
set_option maxHeartbeats 4000000 in
theorem FnExactRowOk_any (r : RowV) (w : World) (h : r.k.size ≤ maxLen ∧ r.t.size ≤ maxLen) :
    Calls Try.prog 3 #[.agg #[.string r.k, .string r.t, .int .i64 r.f, .int .i64 r.e]] w fun e w' => e = .returned (.bool true) ∧ Below w.heap.size w w' := by
  obtain ⟨hk, ht⟩ := h
  go_enter Try.func3, Try.ntmps3
  go_wp2_with fail
  refine (szRow_any r _ _ (by omega) (by omega) hk ht).mono ?_
  rintro e w1 ⟨rfl, hb1⟩
  obtain ⟨hc1, hf1⟩ := bcell hb1
  have B1 := Lib.hid (show Below w.heap.size w w1 from ((Below.refl _ _).alloc (Nat.le_refl _) _).trans (hb1.mono (by simp)))
  have c0 : w1.cell? ⟨w.heap.size, 0, none⟩ = some (.string r.k) := (hc1 _ _ (by simp)).trans (by simp [go_sem])
  have c1 : w1.cell? ⟨w.heap.size, 1, none⟩ = some (.string r.t) := (hc1 _ _ (by simp)).trans (by simp [go_sem])
  have c2 : w1.cell? ⟨w.heap.size, 2, none⟩ = some (.int .i64 r.f) := (hc1 _ _ (by simp)).trans (by simp [go_sem])
  have c3 : w1.cell? ⟨w.heap.size, 3, none⟩ = some (.int .i64 r.e) := (hc1 _ _ (by simp)).trans (by simp [go_sem])
  have l1 : w.heap.size < w1.heap.size := World.block_lt_of_cell? _ _ c0
  clear hb1 hc1 hf1
  generalize hleft : (if (1048576 : Int) - r.k.size < 0 then (-1 : Int) else if (1048576 : Int) - r.k.size - r.t.size < 0 then -1 else 1048576 - r.k.size - r.t.size) = left
  have HL := Lib.hid hleft
  clear hleft
  by_cases hneg : left < 0
  · go_wp2
    go_ret
    exact ⟨rfl, B1.out⟩
  · have hd : decide (left < 0) = false := decide_eq_false hneg
    clear hneg
    go_wp2_with fail
    refine (toRow_any r _).mono ?_
    rintro e w2 ⟨rfl, hb2⟩
    have d0 := cellBelow hb2 l1 c0
    have d1 := cellBelow hb2 l1 c1
    have d2 := cellBelow hb2 l1 c2
    have d3 := cellBelow hb2 l1 c3
    have l2 : w.heap.size < w2.heap.size := World.block_lt_of_cell? _ _ d0
    have B2 := Lib.hid (B1.out.trans (hb2.mono B1.out.size))
    clear hb2 c0 c1 c2 c3 l1 B1
    go_wp2_with fail
    refine (sRowOk_any r _ hk ht).mono ?_
    rintro e w3 ⟨rfl, hb3⟩
    have c0 := cellBelow hb3 l2 d0
    have c1 := cellBelow hb3 l2 d1
    have c2 := cellBelow hb3 l2 d2
    have c3 := cellBelow hb3 l2 d3
    have B3 := Lib.hid (B2.out.trans (hb3.mono B2.out.size))
    clear hb3 d0 d1 d2 d3 l2 B2
    obtain ⟨o, ho⟩ : ∃ o, rowOk r = o := ⟨_, rfl⟩
    rw [ho]
    have HO := Lib.hid ho
    clear ho
    go_wp2_with fail
    refine (toRow_any r _).mono ?_
    rintro e w4 ⟨rfl, hb4⟩
    have B4 := Lib.hid (B3.out.trans (hb4.mono B3.out.size))
    clear hb4 c0 c1 c2 c3 B3
    go_wp2_with fail
    refine (RowOk_any r _ hk ht).mono ?_
    rintro e w5 ⟨rfl, hb5⟩
    have B5 := Lib.hid (B4.out.trans (hb5.mono B4.out.size))
    clear hb5 B4
    rw [HO.out]
    go_wp2
    go_ret
    exact ⟨rfl, B5.out⟩
end Go.Proofs.Ytoppbbppmhgdiaa
