/-
  Walks: the intersection of two spans.
-/
import Derived.Test.YtlbehkdhngeipaaBase
import Derived.Test.YtlbehkdhngeipaaFlat
import Derived.Deep.RegionHeld3
import Derived.Deep.DeepCutAuto
namespace Go.Proofs.Ytlbehkdhngeipaa
open Go.RowKit

theorem cell_set_far {w : World} {g i b o : Nat} {u v : Value} (hne : b ≠ g) (hc : w.cell? ⟨b, o, none⟩ = some v) : (w.setCell ⟨g, i, none⟩ u).cell? ⟨b, o, none⟩ = some v :=
  (World.cell?_setCell_other w ⟨g, i, none⟩ ⟨b, o, none⟩ u (fun e => hne (by injection e with e; exact e.symm))).trans hc
theorem cell_alloc_far {w : World} {b o : Nat} {v : Value} {x : Obj} (hc : w.cell? ⟨b, o, none⟩ = some v) : (w.alloc x).cell? ⟨b, o, none⟩ = some v :=
  (World.cell?_alloc_lt w x ⟨b, o, none⟩ (World.block_lt_of_cell? w _ hc)).trans hc
theorem cell_alloc_swap {w : World} {b o : Nat} {v : Value} {x y : Obj} (hc : (w.alloc y).cell? ⟨b, o, none⟩ = some v) (h : b < w.heap.size) : (w.alloc x).cell? ⟨b, o, none⟩ = some v := by
  rw [World.cell?_alloc_lt w x ⟨b, o, none⟩ h]; rwa [World.cell?_alloc_lt w y ⟨b, o, none⟩ h] at hc
theorem below_alloc_swap {n : Nat} {w w1 : World} {x y : Obj} (hb : Below n w (w1.alloc y)) (h : n ≤ w1.heap.size) : Below n w (w1.alloc x) :=
  ⟨hb.os, hb.tape, hb.output, by have := hb.size; simp at this ⊢; omega, fun k hk => by
    rw [Below.heap_alloc w1 x k (by omega), ← hb.block k hk, Below.heap_alloc w1 y k (by omega)]⟩
theorem cell_drew {w : World} {b o : Nat} {v : Value} (hc : w.cell? ⟨b, o, none⟩ = some v) : w.drew.cell? ⟨b, o, none⟩ = some v := hc

def gB (a b c d : Int) : Bool := okB a b && okB c d && mB a b c d
def gF (a b c d : Int) : Int := if okB a b && okB c d then mF a b c d else 0
def gT (a b c d : Int) : Int := if okB a b && okB c d then mT a b c d else 0

theorem g_bad1 {a b c d : Int} (h : okB a b = false) : false = gB a b c d ∧ 0 = gF a b c d ∧ 0 = gT a b c d := by simp [gB, gF, gT, h]
theorem g_bad2 {a b c d : Int} (h : okB c d = false) : false = gB a b c d ∧ 0 = gF a b c d ∧ 0 = gT a b c d := by simp [gB, gF, gT, h]
theorem g_ok {a b c d : Int} (h : okB a b = true) (h' : okB c d = true) : mB a b c d = gB a b c d ∧ mF a b c d = gF a b c d ∧ mT a b c d = gT a b c d := by simp [gB, gF, gT, h, h']
theorem g_no {a b c d : Int} (h : okB a b = true) (h' : okB c d = true) (hm : mB a b c d = false) : false = gB a b c d ∧ 0 = gF a b c d ∧ 0 = gT a b c d := by
  have : ¬ max a c < min b d := by simpa [mB] using hm
  simp [gB, gF, gT, h, h', hm, mF, mT, this]
theorem g_yes {a b c d : Int} (h : okB a b = true) (h' : okB c d = true) (hm : mB a b c d = true) : true = gB a b c d ∧ max a c = gF a b c d ∧ min b d = gT a b c d := by
  have : max a c < min b d := by simpa [mB] using hm
  simp [gB, gF, gT, h, h', hm, mF, mT, this]

theorem bz3 {n m : Nat} (h : n + 2 < m) : n < m ∧ n + 1 < m ∧ n + 1 + 1 < m := by omega

set_option maxHeartbeats 400000 in
theorem SpanMeet_any (a b c d : Int) (w : World) :
    Calls Try.prog 22 #[.agg #[.int .i64 a, .int .i64 b], .agg #[.int .i64 c, .int .i64 d]] w fun e w' =>
      e = .returned (.tuple #[.agg #[.int .i64 (gF a b c d), .int .i64 (gT a b c d)], .bool (gB a b c d)]) ∧ Below w.heap.size w w' := by
  obtain ⟨x, hx⟩ : ∃ x, okB a b = x := ⟨_, rfl⟩
  obtain ⟨y, hy⟩ : ∃ x, okB c d = x := ⟨_, rfl⟩
  have Hx := Lib.hid hx
  have Hy := Lib.hid hy
  clear hx hy
  go_enter Try.func22, Try.ntmps22
  go_wp2_with fail
  refine (ok_any _ _ _).mono ?_
  rintro e w1 ⟨rfl, hb1⟩
  obtain ⟨hc1, hf1⟩ := bcell hb1
  have hz1 : w.heap.size + 2 < w1.heap.size := by have := hb1.size; simp at this; omega
  obtain ⟨hz1a, hz1b, hz1c⟩ := bz3 hz1
  rw [Hx.out]
  cases x
  · go_wp2_with fail
    refine bodyPost_ret (v := .tuple #[.agg #[.int .i64 0, .int .i64 0], .bool false]) (by simp [results, Try.results22, go_sem, hc1]) rfl ⟨ret_meet (g_bad1 Hx.out), ?_⟩
    refine Below.setCell (Below.setCell ?_ (by simp; try omega) _) (by simp; try omega) _
    refine Below.trans ?_ (hb1.mono (by simp; try omega))
    repeat (first | exact Below.refl _ _ | refine Below.alloc ?_ (by simp; try omega) _)
  · go_wp2_with fail
    refine (ok_any _ _ _).mono ?_
    rintro e w2 ⟨rfl, hb2⟩
    obtain ⟨hc2, hf2⟩ := bcell hb2
    have hz2 : w.heap.size + 2 < w2.heap.size := by have := hb2.size; omega
    obtain ⟨hz2a, hz2b, hz2c⟩ := bz3 hz2
    rw [Hy.out]
    cases y
    · go_wp2_with fail
      refine bodyPost_ret (v := .tuple #[.agg #[.int .i64 0, .int .i64 0], .bool false]) (by simp [results, Try.results22, go_sem, hc1, hc2, hz1c]) rfl ⟨ret_meet (g_bad2 Hy.out), ?_⟩
      refine Below.setCell (Below.setCell ?_ (by simp; try omega) _) (by simp; try omega) _
      refine Below.trans ?_ (hb2.mono (by omega))
      refine Below.trans ?_ (hb1.mono (by simp; try omega))
      repeat (first | exact Below.refl _ _ | refine Below.alloc ?_ (by simp; try omega) _)
    · go_wp2_with fail
      refine (meet_any _ _ _ _ _).mono ?_
      rintro e w3 ⟨rfl, hb3⟩
      obtain ⟨hc3, hf3⟩ := bcell hb3
      have hz3 : w.heap.size + 2 < w3.heap.size := by have := hb3.size; omega
      obtain ⟨hz3a, hz3b, hz3c⟩ := bz3 hz3
      go_wp2_with fail
      refine bodyPost_ret (v := .tuple #[.agg #[.int .i64 (mF a b c d), .int .i64 (mT a b c d)], .bool (mB a b c d)]) (by simp [results, Try.results22, go_sem, hc1, hc2, hc3, hz1c, hz2c]) rfl ⟨ret_meet (g_ok Hx.out Hy.out), ?_⟩
      refine Below.setCell (Below.setCell ?_ (by simp; try omega) _) (by simp; try omega) _
      refine Below.trans ?_ (hb3.mono (by omega))
      refine Below.trans ?_ (hb2.mono (by omega))
      refine Below.trans ?_ (hb1.mono (by simp; try omega))
      repeat (first | exact Below.refl _ _ | refine Below.alloc ?_ (by simp; try omega) _)

set_option maxHeartbeats 400000 in
theorem sSpanMeet_any (a b c d : Int) (w : World) :
    Calls Try.prog 23 #[.agg #[.int .i64 a, .int .i64 b], .agg #[.int .i64 c, .int .i64 d]] w fun e w' =>
      e = .returned (.tuple #[.agg #[.int .i64 (gF a b c d), .int .i64 (gT a b c d)], .bool (gB a b c d)]) ∧ Below w.heap.size w w' := by
  obtain ⟨x, hx⟩ : ∃ x, okB a b = x := ⟨_, rfl⟩
  obtain ⟨y, hy⟩ : ∃ x, okB c d = x := ⟨_, rfl⟩
  obtain ⟨z, hm⟩ : ∃ x, mB a b c d = x := ⟨_, rfl⟩
  have Hx := Lib.hid hx
  have Hy := Lib.hid hy
  have Hm := Lib.hid hm
  clear hx hy hm
  go_enter Try.func23, Try.ntmps23
  go_wp2_with fail
  refine (l1Ok_any _ _ _).mono ?_
  rintro e w1 ⟨rfl, hb1⟩
  obtain ⟨hc1, hf1⟩ := bcell hb1
  have hz1 : w.heap.size + 2 < w1.heap.size := by have := hb1.size; simp at this; omega
  obtain ⟨hz1a, hz1b, hz1c⟩ := bz3 hz1
  rw [Hx.out]
  cases x
  · go_wp2_with fail
    refine bodyPost_ret (v := .tuple #[.agg #[.int .i64 0, .int .i64 0], .bool false]) (by simp [results, Try.results23, go_sem, hc1]) rfl ⟨ret_meet (g_bad1 Hx.out), ?_⟩
    refine Below.setCell (Below.setCell ?_ (by simp; try omega) _) (by simp; try omega) _
    refine Below.trans ?_ (hb1.mono (by simp; try omega))
    repeat (first | exact Below.refl _ _ | refine Below.alloc ?_ (by simp; try omega) _)
  · go_wp2_with fail
    refine (l1Ok_any _ _ _).mono ?_
    rintro e w2 ⟨rfl, hb2⟩
    obtain ⟨hc2, hf2⟩ := bcell hb2
    have hz2 : w.heap.size + 2 < w2.heap.size := by have := hb2.size; omega
    obtain ⟨hz2a, hz2b, hz2c⟩ := bz3 hz2
    rw [Hy.out]
    cases y
    · go_wp2_with fail
      refine bodyPost_ret (v := .tuple #[.agg #[.int .i64 0, .int .i64 0], .bool false]) (by simp [results, Try.results23, go_sem, hc1, hc2, hz1c]) rfl ⟨ret_meet (g_bad2 Hy.out), ?_⟩
      refine Below.setCell (Below.setCell ?_ (by simp; try omega) _) (by simp; try omega) _
      refine Below.trans ?_ (hb2.mono (by omega))
      refine Below.trans ?_ (hb1.mono (by simp; try omega))
      repeat (first | exact Below.refl _ _ | refine Below.alloc ?_ (by simp; try omega) _)
    · go_wp2_with fail
      refine (l1Meet_any _ _ _ _ _).mono ?_
      rintro e w3 ⟨rfl, hb3⟩
      obtain ⟨hc3, hf3⟩ := bcell hb3
      have hz3 : w.heap.size + 2 < w3.heap.size := by have := hb3.size; omega
      obtain ⟨hz3a, hz3b, hz3c⟩ := bz3 hz3
      rw [Hm.out]
      cases z
      · go_wp2_with fail
        refine bodyPost_ret (v := .tuple #[.agg #[.int .i64 0, .int .i64 0], .bool false]) (by simp [results, Try.results23, go_sem, hc1, hc2, hc3, hz1c, hz2c, hz3c, World.cell?_alloc_lt, World.size_setCell]) rfl ⟨ret_meet (g_no Hx.out Hy.out Hm.out), ?_⟩
        repeat (first | exact Below.refl _ _ | refine Below.setCell ?_ (by simp; try omega) _ | refine Below.alloc ?_ (by simp; try omega) _ | refine Below.trans ?_ (hb3.mono (by omega)) | refine Below.trans ?_ (hb2.mono (by omega)) | refine Below.trans ?_ (hb1.mono (by simp; try omega)))
      · go_wp2_with fail
        refine bodyPost_ret (v := .tuple #[.agg #[.int .i64 (max a c), .int .i64 (min b d)], .bool true]) (by simp [results, Try.results23, go_sem, hc1, hc2, hc3, hz1c, hz2c, hz3c, World.cell?_alloc_lt, World.size_setCell]) rfl ⟨ret_meet (g_yes Hx.out Hy.out Hm.out), ?_⟩
        repeat (first | exact Below.refl _ _ | refine Below.setCell ?_ (by simp; try omega) _ | refine Below.alloc ?_ (by simp; try omega) _ | refine Below.trans ?_ (hb3.mono (by omega)) | refine Below.trans ?_ (hb2.mono (by omega)) | refine Below.trans ?_ (hb1.mono (by simp; try omega)))

set_option maxHeartbeats 400000 in
theorem eqSpan_same (a b : Int) (w : World) :
    Calls Try.prog 52 #[.agg #[.int .i64 a, .int .i64 b], .agg #[.int .i64 a, .int .i64 b]] w fun e w' =>
      e = .returned (.bool true) ∧ Below w.heap.size w w' := by
  go_enter Try.func52, Try.ntmps52
  go_wp2
  go_ret
  refine ⟨rfl, ?_⟩
  repeat (first | exact Below.refl _ _ | refine Below.alloc ?_ (by simp; try omega) _)

theorem bcell3 {W w1 : World} {n : Nat} (hb : Below n W w1) : (∀ b o, b < n → w1.cell? ⟨b, o, none⟩ = W.cell? ⟨b, o, none⟩) ∧ (∀ b o, b < n → w1.frozen? ⟨b, o, none⟩ = W.frozen? ⟨b, o, none⟩) ∧ (∀ b, b < W.heap.size → b < w1.heap.size) :=
  ⟨fun b o h => hb.cell (p := ⟨b, o, none⟩) h, fun b o h => hb.frozen (p := ⟨b, o, none⟩) h, fun _ h => Nat.lt_of_lt_of_le h hb.size⟩

def AtCut (w : World) (a b c d : Int) (s5 s6 : Value) (wx : World) : Prop :=
  ∃ g : Nat, s5 = .pointer (some ⟨g, 0, none⟩) ∧ s6 = .bool (gB a b c d) ∧ wx.cell? ⟨g, 0, none⟩ = some (.int .i64 (gF a b c d)) ∧ wx.cell? ⟨g, 1, none⟩ = some (.int .i64 (gT a b c d)) ∧
    wx.cell? ⟨w.heap.size, 0, none⟩ = some (.int .i64 a) ∧ wx.cell? ⟨w.heap.size, 1, none⟩ = some (.int .i64 b) ∧ wx.cell? ⟨w.heap.size + 1, 0, none⟩ = some (.int .i64 c) ∧ wx.cell? ⟨w.heap.size + 1, 1, none⟩ = some (.int .i64 d) ∧
    w.heap.size + 1 < g ∧ Below w.heap.size w wx

def AtCut2 (w : World) (g : Nat) (a b c d : Int) (s5 s6 : Value) (wx : World) : Prop :=
  ∃ g' : Nat, s5 = .pointer (some ⟨g', 0, none⟩) ∧ s6 = .bool (gB a b c d) ∧ wx.cell? ⟨g', 0, none⟩ = some (.int .i64 (gF a b c d)) ∧ wx.cell? ⟨g', 1, none⟩ = some (.int .i64 (gT a b c d)) ∧
    wx.cell? ⟨g, 0, none⟩ = some (.int .i64 (gF a b c d)) ∧ wx.cell? ⟨g, 1, none⟩ = some (.int .i64 (gT a b c d)) ∧ Below w.heap.size w wx

set_option maxHeartbeats 2000000 in
theorem FnExactSpanMeet_any (a b c d : Int) (w : World) :
    Calls Try.prog 12 #[.agg #[.int .i64 a, .int .i64 b], .agg #[.int .i64 c, .int .i64 d]] w fun e w' =>
      e = .returned (.bool true) ∧ Below w.heap.size w w' := by
  have hb0 : Below w.heap.size w ((w.alloc (Obj.cells #[Value.int IntKind.i64 a, Value.int IntKind.i64 b] 47)).alloc (Obj.cells #[Value.int IntKind.i64 c, Value.int IntKind.i64 d] 47)) :=
    ((Below.refl _ _).alloc (Nat.le_refl _) _).alloc (by simp) _
  have k0 : ((w.alloc (Obj.cells #[Value.int IntKind.i64 a, Value.int IntKind.i64 b] 47)).alloc (Obj.cells #[Value.int IntKind.i64 c, Value.int IntKind.i64 d] 47)).cell? ⟨w.heap.size, 0, none⟩ = some (.int .i64 a) := by simp
  have k1 : ((w.alloc (Obj.cells #[Value.int IntKind.i64 a, Value.int IntKind.i64 b] 47)).alloc (Obj.cells #[Value.int IntKind.i64 c, Value.int IntKind.i64 d] 47)).cell? ⟨w.heap.size, 1, none⟩ = some (.int .i64 b) := by simp
  have k2 : ((w.alloc (Obj.cells #[Value.int IntKind.i64 a, Value.int IntKind.i64 b] 47)).alloc (Obj.cells #[Value.int IntKind.i64 c, Value.int IntKind.i64 d] 47)).cell? ⟨w.heap.size + 1, 0, none⟩ = some (.int .i64 c) := by simp
  have k3 : ((w.alloc (Obj.cells #[Value.int IntKind.i64 a, Value.int IntKind.i64 b] 47)).alloc (Obj.cells #[Value.int IntKind.i64 c, Value.int IntKind.i64 d] 47)).cell? ⟨w.heap.size + 1, 1, none⟩ = some (.int .i64 d) := by simp
  go_enter Try.func12, Try.ntmps12
  go_upto_region 1 with fail
  go_cut [5, 6] (fun s5 s6 wx => AtCut w a b c d s5 s6 wx)
  case first =>
    go_region_held3 (fun w' => w'.cell? ⟨w.heap.size, 0, none⟩ = some (.int .i64 a) ∧ w'.cell? ⟨w.heap.size, 1, none⟩ = some (.int .i64 b) ∧ w'.cell? ⟨w.heap.size + 1, 0, none⟩ = some (.int .i64 c) ∧ w'.cell? ⟨w.heap.size + 1, 1, none⟩ = some (.int .i64 d) ∧ w.heap.size + 1 < w'.heap.size ∧ Below w.heap.size w w')
      (((try go_split_ands); refine ⟨?c0, ?c1, ?c2, ?c3, ?s, ?b⟩; (case c0 => (repeat (first | with_reducible assumption | with_reducible refine cell_below hb (by first | omega | (simp; done) | (simp; omega)) ?_ | with_reducible refine cell_set_far (by first | omega | (simp; done) | (simp; omega)) ?_ | with_reducible exact cell_alloc_swap (by with_reducible assumption) (by first | omega | (simp; done) | (simp; omega)) | with_reducible refine cell_alloc_far ?_ | with_reducible refine cell_drew ?_))); (case c1 => (repeat (first | with_reducible assumption | with_reducible refine cell_below hb (by first | omega | (simp; done) | (simp; omega)) ?_ | with_reducible refine cell_set_far (by first | omega | (simp; done) | (simp; omega)) ?_ | with_reducible exact cell_alloc_swap (by with_reducible assumption) (by first | omega | (simp; done) | (simp; omega)) | with_reducible refine cell_alloc_far ?_ | with_reducible refine cell_drew ?_))); (case c2 => (repeat (first | with_reducible assumption | with_reducible refine cell_below hb (by first | omega | (simp; done) | (simp; omega)) ?_ | with_reducible refine cell_set_far (by first | omega | (simp; done) | (simp; omega)) ?_ | with_reducible exact cell_alloc_swap (by with_reducible assumption) (by first | omega | (simp; done) | (simp; omega)) | with_reducible refine cell_alloc_far ?_ | with_reducible refine cell_drew ?_))); (case c3 => (repeat (first | with_reducible assumption | with_reducible refine cell_below hb (by first | omega | (simp; done) | (simp; omega)) ?_ | with_reducible refine cell_set_far (by first | omega | (simp; done) | (simp; omega)) ?_ | with_reducible exact cell_alloc_swap (by with_reducible assumption) (by first | omega | (simp; done) | (simp; omega)) | with_reducible refine cell_alloc_far ?_ | with_reducible refine cell_drew ?_))); (case s => (first | with_reducible assumption | (have := hb.size; omega) | omega | (simp; done) | (simp; omega) | (have := hb.size; simp at this ⊢; omega))); (case b => (repeat (first | with_reducible assumption | with_reducible exact hb0 | with_reducible refine Below.drew ?_ | with_reducible refine Below.trans ?_ (hb.mono (by first | omega | (simp; done) | (simp; omega))) | with_reducible refine Below.setCell ?_ (by first | omega | (simp; done) | (simp; omega)) _ | with_reducible exact below_alloc_swap (by with_reducible assumption) (by first | omega | (simp; done) | (simp; omega)) | with_reducible refine Below.alloc ?_ (by first | omega | (simp; done) | (simp; omega)) _)))))
      (first
      | (go_at_call 51; refine (toSpan_any _ _ _).mono ?_; rintro e w1 ⟨rfl, hb⟩; have hsz : w.heap.size + 1 < w1.heap.size := (by have := hb.size; first | omega | (simp at this; omega)); obtain ⟨hc, hf, hl⟩ := bcell3 hb; (try (have hz2 : w.heap.size + 1 + 1 < w1.heap.size := (by have := hb.size; first | omega | (simp at this; omega)))))
      | (go_at_call 23; refine (sSpanMeet_any _ _ _ _ _).mono ?_; rintro e w1 ⟨rfl, hb⟩; have hsz : w.heap.size + 1 < w1.heap.size := (by have := hb.size; first | omega | (simp at this; omega)); obtain ⟨hc, hf, hl⟩ := bcell3 hb; (try (have hz2 : w.heap.size + 1 + 1 < w1.heap.size := (by have := hb.size; first | omega | (simp at this; omega))))))
    all_goals (go_wp2_with fail; go_meet; unfold AtCut; rename_i hH; obtain ⟨q0, q1, q2, q3, q4, q5⟩ := hH; refine ⟨_, rfl, rfl, ?_, ?_, q0, q1, q2, q3, ?_, q5⟩)
    any_goals (first | omega | (simp; omega) | (go_simp; done) | (simp (maxDischargeDepth := 6) [*, go_sem]; done))
  case rest =>
    clear hb0 k0 k1 k2 k3
    obtain ⟨g, rfl, rfl, k4, k5, k0, k1, k2, k3, hg, hb0⟩ := hcut
    have hgx : g < wc.heap.size := World.block_lt_of_cell? _ _ k4
    have hs0 := hb0.size
    go_upto_region 2 with fail
    go_cut [7, 8] (fun s7 s8 wx => AtCut2 w g a b c d s7 s8 wx)
    case first =>
      go_region_held3 (fun w' => w'.cell? ⟨w.heap.size, 0, none⟩ = some (.int .i64 a) ∧ w'.cell? ⟨w.heap.size, 1, none⟩ = some (.int .i64 b) ∧ w'.cell? ⟨w.heap.size + 1, 0, none⟩ = some (.int .i64 c) ∧ w'.cell? ⟨w.heap.size + 1, 1, none⟩ = some (.int .i64 d) ∧ w'.cell? ⟨g, 0, none⟩ = some (.int .i64 (gF a b c d)) ∧ w'.cell? ⟨g, 1, none⟩ = some (.int .i64 (gT a b c d)) ∧ g < w'.heap.size ∧ Below w.heap.size w w')
        (((try go_split_ands); refine ⟨?c0, ?c1, ?c2, ?c3, ?c4, ?c5, ?s, ?b⟩; (case c0 => (repeat (first | with_reducible assumption | with_reducible refine cell_below hb (by first | omega | (simp; done) | (simp; omega)) ?_ | with_reducible refine cell_set_far (by first | omega | (simp; done) | (simp; omega)) ?_ | with_reducible exact cell_alloc_swap (by with_reducible assumption) (by first | omega | (simp; done) | (simp; omega)) | with_reducible refine cell_alloc_far ?_ | with_reducible refine cell_drew ?_))); (case c1 => (repeat (first | with_reducible assumption | with_reducible refine cell_below hb (by first | omega | (simp; done) | (simp; omega)) ?_ | with_reducible refine cell_set_far (by first | omega | (simp; done) | (simp; omega)) ?_ | with_reducible exact cell_alloc_swap (by with_reducible assumption) (by first | omega | (simp; done) | (simp; omega)) | with_reducible refine cell_alloc_far ?_ | with_reducible refine cell_drew ?_))); (case c2 => (repeat (first | with_reducible assumption | with_reducible refine cell_below hb (by first | omega | (simp; done) | (simp; omega)) ?_ | with_reducible refine cell_set_far (by first | omega | (simp; done) | (simp; omega)) ?_ | with_reducible exact cell_alloc_swap (by with_reducible assumption) (by first | omega | (simp; done) | (simp; omega)) | with_reducible refine cell_alloc_far ?_ | with_reducible refine cell_drew ?_))); (case c3 => (repeat (first | with_reducible assumption | with_reducible refine cell_below hb (by first | omega | (simp; done) | (simp; omega)) ?_ | with_reducible refine cell_set_far (by first | omega | (simp; done) | (simp; omega)) ?_ | with_reducible exact cell_alloc_swap (by with_reducible assumption) (by first | omega | (simp; done) | (simp; omega)) | with_reducible refine cell_alloc_far ?_ | with_reducible refine cell_drew ?_))); (case c4 => (repeat (first | with_reducible assumption | with_reducible refine cell_below hb (by first | omega | (simp; done) | (simp; omega)) ?_ | with_reducible refine cell_set_far (by first | omega | (simp; done) | (simp; omega)) ?_ | with_reducible exact cell_alloc_swap (by with_reducible assumption) (by first | omega | (simp; done) | (simp; omega)) | with_reducible refine cell_alloc_far ?_ | with_reducible refine cell_drew ?_))); (case c5 => (repeat (first | with_reducible assumption | with_reducible refine cell_below hb (by first | omega | (simp; done) | (simp; omega)) ?_ | with_reducible refine cell_set_far (by first | omega | (simp; done) | (simp; omega)) ?_ | with_reducible exact cell_alloc_swap (by with_reducible assumption) (by first | omega | (simp; done) | (simp; omega)) | with_reducible refine cell_alloc_far ?_ | with_reducible refine cell_drew ?_))); (case s => (first | with_reducible assumption | (have := hb.size; omega) | omega | (simp; done) | (simp; omega) | (have := hb.size; simp at this ⊢; omega))); (case b => (repeat (first | with_reducible assumption | with_reducible exact hb0 | with_reducible refine Below.drew ?_ | with_reducible refine Below.trans ?_ (hb.mono (by first | omega | (simp; done) | (simp; omega))) | with_reducible refine Below.setCell ?_ (by first | omega | (simp; done) | (simp; omega)) _ | with_reducible exact below_alloc_swap (by with_reducible assumption) (by first | omega | (simp; done) | (simp; omega)) | with_reducible refine Below.alloc ?_ (by first | omega | (simp; done) | (simp; omega)) _)))))
        (first
        | (go_at_call 51; refine (toSpan_any _ _ _).mono ?_; rintro e w1 ⟨rfl, hb⟩; have hsz : g < w1.heap.size := (by have := hb.size; first | omega | (simp at this; omega)); obtain ⟨hc, hf, hl⟩ := bcell3 hb; (try (have hz2 : wc.heap.size < w1.heap.size := (by have := hb.size; first | omega | (simp at this; omega)))))
        | (go_at_call 22; refine (SpanMeet_any _ _ _ _ _).mono ?_; rintro e w1 ⟨rfl, hb⟩; have hsz : g < w1.heap.size := (by have := hb.size; first | omega | (simp at this; omega)); obtain ⟨hc, hf, hl⟩ := bcell3 hb; (try (have hz2 : wc.heap.size < w1.heap.size := (by have := hb.size; first | omega | (simp at this; omega))))))
      all_goals (go_wp2_with fail; go_meet; unfold AtCut2; rename_i hH; obtain ⟨q0, q1, q2, q3, q4, q5, q6, q7⟩ := hH; refine ⟨_, rfl, rfl, ?_, ?_, q4, q5, q7⟩)
      any_goals (first | (go_simp; done) | (simp (maxDischargeDepth := 6) [*, go_sem]; done))
    case rest =>
      clear hb0 k0 k1 k2 k3 k4 k5 hgx hs0
      obtain ⟨g', rfl, rfl, k0, k1, k2, k3, hb0⟩ := hcut
      go_wp2_with fail
      refine (eqSpan_same _ _ _).mono ?_
      rintro e w1 ⟨rfl, hb⟩
      go_wp2
      go_ret
      exact ⟨rfl, hb0.trans (hb.mono hb0.size)⟩
end Go.Proofs.Ytlbehkdhngeipaa
