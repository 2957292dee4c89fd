/-
  The walk of the exact law of DbNew.
-/
import Derived.Test.YtgclmldhdjmababDbN
namespace Go.Proofs.Ytgclmldhdjmabab
open Go.RowKit Go.Lib

theorem set_farD {w : World} {b b' o o' : Nat} {v u : Value} (h : w.cell? ⟨b', o', none⟩ = some u) (hn : b ≠ b') : (w.setCell ⟨b, o, none⟩ v).cell? ⟨b', o', none⟩ = some u := by
  rw [World.cell?_setCell_other w ⟨b, o, none⟩ ⟨b', o', none⟩ v (fun e => by injection e with e1 _ _; exact hn e1)]
  exact h
theorem TwoS.marked {w : World} {g : Nat} {a b c d : Int} (h : TwoS w g a b) : TwoS ((w.setCell ⟨g, 0, none⟩ (.int .i64 c)).setCell ⟨g, 2, none⟩ (.int .i64 d)) g c d := by
  obtain ⟨⟨x0, x1, x2, x3⟩, hf, lx⟩ := h
  have y0 : (w.setCell ⟨g, 0, none⟩ (.int .i64 c)).cell? ⟨g, 0, none⟩ = some (.int .i64 c) := World.cell?_setCell_same _ _ _ x0
  have y1 : (w.setCell ⟨g, 0, none⟩ (.int .i64 c)).cell? ⟨g, 1, none⟩ = some (.slice none 0 0) := by rw [World.cell?_setCell_other _ _ _ _ (by simp)]; exact x1
  have y2 : (w.setCell ⟨g, 0, none⟩ (.int .i64 c)).cell? ⟨g, 2, none⟩ = some (.int .i64 b) := by rw [World.cell?_setCell_other _ _ _ _ (by simp)]; exact x2
  have y3 : (w.setCell ⟨g, 0, none⟩ (.int .i64 c)).cell? ⟨g, 3, none⟩ = some (.slice none 0 0) := by rw [World.cell?_setCell_other _ _ _ _ (by simp)]; exact x3
  refine ⟨⟨?_, ?_, World.cell?_setCell_same _ _ _ y2, ?_⟩, fun o => by rw [World.frozen?_setCell, World.frozen?_setCell]; exact hf o, by simpa [World.setCell] using lx⟩
  · rw [World.cell?_setCell_other _ _ _ _ (by simp)]; exact y0
  · rw [World.cell?_setCell_other _ _ _ _ (by simp)]; exact y1
  · rw [World.cell?_setCell_other _ _ _ _ (by simp)]; exact y3

set_option maxRecDepth 100000 in
set_option maxHeartbeats 2000000 in
theorem FnExactDbNew_any (w : World) : Calls Try.prog 6 #[] w fun e w' => e = .returned (.bool true) ∧ Below w.heap.size w w' := by
  go_enter Try.func6, Try.ntmps6
  go_wp2_with fail
  refine (sDbNew_any _).mono ?_
  rintro e w1 ⟨gA, hgA, rfl, hA, hb1⟩
  go_wp2_with fail
  generalize hW : w1.alloc _ = W1
  have hB1 : Below w1.heap.size w1 W1 := by rw [← hW]; exact (Below.refl _ _).alloc (Nat.le_refl _) _
  have p1 : W1.cell? ⟨w1.heap.size, 0, none⟩ = some (.slice (some ⟨gA, 0, none⟩) 2 2) := by rw [← hW]; simp [go_sem]
  have l1 : w1.heap.size < W1.heap.size := by rw [← hW]; simp
  have A1 := Lib.hid (hA.keep hB1)
  have B1 := Lib.hid (hb1.trans (hB1.mono hb1.size))
  have hw1 := hb1.size
  obtain ⟨P1, hP1⟩ : ∃ P, w1.heap.size = P := ⟨_, rfl⟩
  rw [hP1] at p1 l1 hw1 ⊢
  clear hW hA hb1 hB1 hP1
  refine (DbNew_any _).mono ?_
  rintro e w2 ⟨gB, hgB, rfl, hB, hb2⟩
  have hP1B : P1 < gB := Nat.lt_of_lt_of_le l1 hgB
  replace p1 := cellBelow hb2 l1 p1
  replace l1 := Nat.lt_of_lt_of_le l1 hb2.size
  go_wp2_with fail
  generalize hW : w2.alloc _ = W2
  have hB2 : Below w2.heap.size w2 W2 := by rw [← hW]; exact (Below.refl _ _).alloc (Nat.le_refl _) _
  have p2 : W2.cell? ⟨w2.heap.size, 0, none⟩ = some (.slice (some ⟨gB, 0, none⟩) 2 2) := by rw [← hW]; simp [go_sem]
  have l2 : w2.heap.size < W2.heap.size := by rw [← hW]; simp
  have hgB2 : gB < w2.heap.size := hB.2.2
  have hgA2 : gA < gB := Nat.lt_of_lt_of_le A1.out.2.2 hgB
  have b12 := hb2.trans (hB2.mono hb2.size)
  replace p1 := cellBelow hB2 l1 p1
  replace l1 := Nat.lt_of_lt_of_le l1 hB2.size
  have A2 := Lib.hid (A1.out.keep b12)
  have G2 := Lib.hid (hB.keep hB2)
  have B2 := Lib.hid (B1.out.trans (b12.mono B1.out.size))
  obtain ⟨P2, hP2⟩ : ∃ P, w2.heap.size = P := ⟨_, rfl⟩
  rw [hP2] at p2 l2 hgB2 ⊢
  have hwB : w.heap.size ≤ gB := by omega
  clear hW hB hb2 hB2 hP2 A1 B1 b12
  refine (eqDb_two gB gA 0 0 _ G2.out A2.out).mono ?_
  rintro e w3 ⟨rfl, hb⟩
  replace p1 := cellBelow hb l1 p1
  replace p2 := cellBelow hb l2 p2
  replace l1 := Nat.lt_of_lt_of_le l1 hb.size
  replace l2 := Nat.lt_of_lt_of_le l2 hb.size
  have A3 := Lib.hid (A2.out.keep hb)
  have G3 := Lib.hid (G2.out.keep hb)
  have B3 := Lib.hid (B2.out.trans (hb.mono B2.out.size))
  clear hb A2 G2 B2
  go_wp2_with fail
  refine (markDb_two gB 0 0 _ G3.out).mono ?_
  rintro e w4 ⟨rfl, o, hw4⟩
  have ha := (Below.refl w3.heap.size w3).alloc (Nat.le_refl _) o
  have A4 := Lib.hid (show TwoS w4 gA 0 0 from by rw [hw4]; exact ((A3.out.keep ha).set_other _ (by omega)).set_other _ (by omega))
  have G4 := Lib.hid (show TwoS w4 gB 1 2 from by rw [hw4]; exact (G3.out.keep ha).marked)
  replace p1 : w4.cell? ⟨P1, 0, none⟩ = some (.slice (some ⟨gA, 0, none⟩) 2 2) := by rw [hw4]; exact set_farD (set_farD (cellBelow ha l1 p1) (by omega)) (by omega)
  replace p2 : w4.cell? ⟨P2, 0, none⟩ = some (.slice (some ⟨gB, 0, none⟩) 2 2) := by rw [hw4]; exact set_farD (set_farD (cellBelow ha l2 p2) (by omega)) (by omega)
  have B4 := Lib.hid (show Below w.heap.size w w4 from by rw [hw4]; exact ((B3.out.trans (ha.mono B3.out.size)).setCell (p := ⟨gB, 0, none⟩) hwB _).setCell (p := ⟨gB, 2, none⟩) hwB _)
  replace l1 : P1 < w4.heap.size := World.block_lt_of_cell? _ _ p1
  replace l2 : P2 < w4.heap.size := World.block_lt_of_cell? _ _ p2
  clear hw4 ha A3 G3 B3
  go_wp2_with fail
  refine (heldDb_two gB _ G4.out).mono ?_
  rintro e w5 ⟨rfl, hb⟩
  replace p1 := cellBelow hb l1 p1
  replace p2 := cellBelow hb l2 p2
  replace l1 := Nat.lt_of_lt_of_le l1 hb.size
  replace l2 := Nat.lt_of_lt_of_le l2 hb.size
  have A5 := Lib.hid (A4.out.keep hb)
  have G5 := Lib.hid (G4.out.keep hb)
  have B5 := Lib.hid (B4.out.trans (hb.mono B4.out.size))
  clear hb A4 G4 B4
  go_wp2_with fail
  refine (DbNew_any _).mono ?_
  rintro e w6 ⟨gC, hgC, rfl, hC, hb⟩
  replace p1 := cellBelow hb l1 p1
  replace p2 := cellBelow hb l2 p2
  replace l1 := Nat.lt_of_lt_of_le l1 hb.size
  replace l2 := Nat.lt_of_lt_of_le l2 hb.size
  have A6 := Lib.hid (A5.out.keep hb)
  have G6 := Lib.hid (G5.out.keep hb)
  have B6 := Lib.hid (B5.out.trans (hb.mono B5.out.size))
  have C6 := Lib.hid hC
  clear hb A5 G5 B5 hC
  go_wp2_with fail
  generalize hW : w6.alloc _ = W6
  have hB6 : Below w6.heap.size w6 W6 := by rw [← hW]; exact (Below.refl _ _).alloc (Nat.le_refl _) _
  replace p1 := cellBelow hB6 l1 p1
  replace p2 := cellBelow hB6 l2 p2
  replace l1 := Nat.lt_of_lt_of_le l1 hB6.size
  replace l2 := Nat.lt_of_lt_of_le l2 hB6.size
  have A7 := Lib.hid (A6.out.keep hB6)
  have G7 := Lib.hid (G6.out.keep hB6)
  have C7 := Lib.hid (C6.out.keep hB6)
  have B7 := Lib.hid (B6.out.trans (hB6.mono B6.out.size))
  clear hW hB6 A6 G6 C6 B6
  refine (eqDb_two gC gA 0 0 _ C7.out A7.out).mono ?_
  rintro e w8 ⟨rfl, hb⟩
  replace p2 := cellBelow hb l2 p2
  replace l2 := Nat.lt_of_lt_of_le l2 hb.size
  have G8 := Lib.hid (G7.out.keep hb)
  have B8 := Lib.hid (B7.out.trans (hb.mono B7.out.size))
  clear hb A7 G7 B7 C7 p1 l1
  go_wp2_with fail
  refine (heldDb_two gB _ G8.out).mono ?_
  rintro e w9 ⟨rfl, hb⟩
  have B9 := Lib.hid (B8.out.trans (hb.mono B8.out.size))
  clear hb
  go_wp2
  go_ret
  exact ⟨rfl, B9.out⟩
end Go.Proofs.Ytgclmldhdjmabab
