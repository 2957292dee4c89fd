/-
  Walks: the intersection of two spans.
-/
import Derived.Test.YtmfpojminbkojaaBase
import Derived.Test.YtmfpojminbkojaaFlat
import Derived.Deep.RegionHeld3
import Derived.Deep.DeepCutAuto
namespace Go.Proofs.Ytmfpojminbkojaa
open Go.RowKit

theorem cell_set_far {w : World} {g i b o : Nat} {u v : Value} (hne : b ≠ g) (hc : w.cell? ⟨b, o, none⟩ = some v) : (w.setCell ⟨g, i, none⟩ u).cell? ⟨b, o, none⟩ = some v :=
  (World.cell?_setCell_other w ⟨g, i, none⟩ ⟨b, o, none⟩ u (fun e => hne (by injection e with e; exact e.symm))).trans hc
theorem cell_alloc_far {w : World} {b o : Nat} {v : Value} {x : Obj} (hc : w.cell? ⟨b, o, none⟩ = some v) : (w.alloc x).cell? ⟨b, o, none⟩ = some v :=
  (World.cell?_alloc_lt w x ⟨b, o, none⟩ (World.block_lt_of_cell? w _ hc)).trans hc
theorem cell_alloc_swap {w : World} {b o : Nat} {v : Value} {x y : Obj} (hc : (w.alloc y).cell? ⟨b, o, none⟩ = some v) (h : b < w.heap.size) : (w.alloc x).cell? ⟨b, o, none⟩ = some v := by
  rw [World.cell?_alloc_lt w x ⟨b, o, none⟩ h]; rwa [World.cell?_alloc_lt w y ⟨b, o, none⟩ h] at hc
theorem below_alloc_swap {n : Nat} {w w1 : World} {x y : Obj} (hb : Below n w (w1.alloc y)) (h : n ≤ w1.heap.size) : Below n w (w1.alloc x) :=
  ⟨hb.os, hb.tape, hb.output, by have := hb.size; simp at this ⊢; omega, fun k hk => by
    rw [Below.heap_alloc w1 x k (by omega), ← hb.block k hk, Below.heap_alloc w1 y k (by omega)]⟩
theorem cell_drew {w : World} {b o : Nat} {v : Value} (hc : w.cell? ⟨b, o, none⟩ = some v) : w.drew.cell? ⟨b, o, none⟩ = some v := hc

def gB (a b c d : Int) : Bool := okB a b && okB c d && mB a b c d
def gF (a b c d : Int) : Int := if okB a b && okB c d then mF a b c d else 0
def gT (a b c d : Int) : Int := if okB a b && okB c d then mT a b c d else 0

theorem g_bad1 {a b c d : Int} (h : okB a b = false) : false = gB a b c d ∧ 0 = gF a b c d ∧ 0 = gT a b c d := by simp [gB, gF, gT, h]
theorem g_bad2 {a b c d : Int} (h : okB c d = false) : false = gB a b c d ∧ 0 = gF a b c d ∧ 0 = gT a b c d := by simp [gB, gF, gT, h]
theorem g_ok {a b c d : Int} (h : okB a b = true) (h' : okB c d = true) : mB a b c d = gB a b c d ∧ mF a b c d = gF a b c d ∧ mT a b c d = gT a b c d := by simp [gB, gF, gT, h, h']
theorem g_no {a b c d : Int} (h : okB a b = true) (h' : okB c d = true) (hm : mB a b c d = false) : false = gB a b c d ∧ 0 = gF a b c d ∧ 0 = gT a b c d := by
  have : ¬ max a c < min b d := by simpa [mB] using hm
  simp [gB, gF, gT, h, h', hm, mF, mT, this]
theorem g_yes {a b c d : Int} (h : okB a b = true) (h' : okB c d = true) (hm : mB a b c d = true) : true = gB a b c d ∧ max a c = gF a b c d ∧ min b d = gT a b c d := by
  have : max a c < min b d := by simpa [mB] using hm
  simp [gB, gF, gT, h, h', hm, mF, mT, this]

theorem bz3 {n m : Nat} (h : n + 2 < m) : n < m ∧ n + 1 < m ∧ n + 1 + 1 < m := by omega

set_option maxHeartbeats 400000 in
theorem SpanMeet_any (a b c d : Int) (w : World) :
    Calls Try.prog 32 #[.agg #[.int .i64 a, .int .i64 b], .agg #[.int .i64 c, .int .i64 d]] w fun e w' =>
      e = .returned (.tuple #[.agg #[.int .i64 (gF a b c d), .int .i64 (gT a b c d)], .bool (gB a b c d)]) ∧ Below w.heap.size w w' := by
  obtain ⟨x, hx⟩ : ∃ x, okB a b = x := ⟨_, rfl⟩
  obtain ⟨y, hy⟩ : ∃ x, okB c d = x := ⟨_, rfl⟩
  have Hx := Lib.hid hx
  have Hy := Lib.hid hy
  clear hx hy
  go_enter Try.func32, Try.ntmps32
  go_wp2_with fail
  refine (ok_any _ _ _).mono ?_
  rintro e w1 ⟨rfl, hb1⟩
  obtain ⟨hc1, hf1⟩ := bcell hb1
  have hz1 : w.heap.size + 2 < w1.heap.size := by have := hb1.size; simp at this; omega
  obtain ⟨hz1a, hz1b, hz1c⟩ := bz3 hz1
  rw [Hx.out]
  cases x
  · go_wp2_with fail
    refine bodyPost_ret (v := .tuple #[.agg #[.int .i64 0, .int .i64 0], .bool false]) (by simp [results, Try.results32, go_sem, hc1]) rfl ⟨ret_meet (g_bad1 Hx.out), ?_⟩
    refine Below.setCell (Below.setCell ?_ (by simp; try omega) _) (by simp; try omega) _
    refine Below.trans ?_ (hb1.mono (by simp; try omega))
    repeat (first | exact Below.refl _ _ | refine Below.alloc ?_ (by simp; try omega) _)
  · go_wp2_with fail
    refine (ok_any _ _ _).mono ?_
    rintro e w2 ⟨rfl, hb2⟩
    obtain ⟨hc2, hf2⟩ := bcell hb2
    have hz2 : w.heap.size + 2 < w2.heap.size := by have := hb2.size; omega
    obtain ⟨hz2a, hz2b, hz2c⟩ := bz3 hz2
    rw [Hy.out]
    cases y
    · go_wp2_with fail
      refine bodyPost_ret (v := .tuple #[.agg #[.int .i64 0, .int .i64 0], .bool false]) (by simp [results, Try.results32, go_sem, hc1, hc2, hz1c]) rfl ⟨ret_meet (g_bad2 Hy.out), ?_⟩
      refine Below.setCell (Below.setCell ?_ (by simp; try omega) _) (by simp; try omega) _
      refine Below.trans ?_ (hb2.mono (by omega))
      refine Below.trans ?_ (hb1.mono (by simp; try omega))
      repeat (first | exact Below.refl _ _ | refine Below.alloc ?_ (by simp; try omega) _)
    · go_wp2_with fail
      refine (meet_any _ _ _ _ _).mono ?_
      rintro e w3 ⟨rfl, hb3⟩
      obtain ⟨hc3, hf3⟩ := bcell hb3
      have hz3 : w.heap.size + 2 < w3.heap.size := by have := hb3.size; omega
      obtain ⟨hz3a, hz3b, hz3c⟩ := bz3 hz3
      go_wp2_with fail
      refine bodyPost_ret (v := .tuple #[.agg #[.int .i64 (mF a b c d), .int .i64 (mT a b c d)], .bool (mB a b c d)]) (by simp [results, Try.results32, go_sem, hc1, hc2, hc3, hz1c, hz2c]) rfl ⟨ret_meet (g_ok Hx.out Hy.out), ?_⟩
      refine Below.setCell (Below.setCell ?_ (by simp; try omega) _) (by simp; try omega) _
      refine Below.trans ?_ (hb3.mono (by omega))
      refine Below.trans ?_ (hb2.mono (by omega))
      refine Below.trans ?_ (hb1.mono (by simp; try omega))
      repeat (first | exact Below.refl _ _ | refine Below.alloc ?_ (by simp; try omega) _)

set_option maxHeartbeats 400000 in
theorem eqSpan_same (a b : Int) (w : World) :
    Calls Try.prog 78 #[.agg #[.int .i64 a, .int .i64 b], .agg #[.int .i64 a, .int .i64 b]] w fun e w' =>
      e = .returned (.bool true) ∧ Below w.heap.size w w' := by
  go_enter Try.func78, Try.ntmps78
  go_wp2
  go_ret
  refine ⟨rfl, ?_⟩
  repeat (first | exact Below.refl _ _ | refine Below.alloc ?_ (by simp; try omega) _)

theorem bcell3 {W w1 : World} {n : Nat} (hb : Below n W w1) : (∀ b o, b < n → w1.cell? ⟨b, o, none⟩ = W.cell? ⟨b, o, none⟩) ∧ (∀ b o, b < n → w1.frozen? ⟨b, o, none⟩ = W.frozen? ⟨b, o, none⟩) ∧ (∀ b, b < W.heap.size → b < w1.heap.size) :=
  ⟨fun b o h => hb.cell (p := ⟨b, o, none⟩) h, fun b o h => hb.frozen (p := ⟨b, o, none⟩) h, fun _ h => Nat.lt_of_lt_of_le h hb.size⟩

def AtCut (w : World) (a b c d : Int) (s5 s6 : Value) (wx : World) : Prop :=
  ∃ g : Nat, s5 = .pointer (some ⟨g, 0, none⟩) ∧ s6 = .bool (gB a b c d) ∧ wx.cell? ⟨g, 0, none⟩ = some (.int .i64 (gF a b c d)) ∧ wx.cell? ⟨g, 1, none⟩ = some (.int .i64 (gT a b c d)) ∧
    wx.cell? ⟨w.heap.size, 0, none⟩ = some (.int .i64 a) ∧ wx.cell? ⟨w.heap.size, 1, none⟩ = some (.int .i64 b) ∧ wx.cell? ⟨w.heap.size + 1, 0, none⟩ = some (.int .i64 c) ∧ wx.cell? ⟨w.heap.size + 1, 1, none⟩ = some (.int .i64 d) ∧
    w.heap.size + 1 < g ∧ Below w.heap.size w wx

def AtCut2 (w : World) (g : Nat) (a b c d : Int) (s5 s6 : Value) (wx : World) : Prop :=
  ∃ g' : Nat, s5 = .pointer (some ⟨g', 0, none⟩) ∧ s6 = .bool (gB a b c d) ∧ wx.cell? ⟨g', 0, none⟩ = some (.int .i64 (gF a b c d)) ∧ wx.cell? ⟨g', 1, none⟩ = some (.int .i64 (gT a b c d)) ∧
    wx.cell? ⟨g, 0, none⟩ = some (.int .i64 (gF a b c d)) ∧ wx.cell? ⟨g, 1, none⟩ = some (.int .i64 (gT a b c d)) ∧ Below w.heap.size w wx

end Go.Proofs.Ytmfpojminbkojaa
