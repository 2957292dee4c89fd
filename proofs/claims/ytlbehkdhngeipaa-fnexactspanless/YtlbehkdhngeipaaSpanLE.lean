/-
  The walk of the exact law of SpanLess.
-/
import Derived.Test.YtlbehkdhngeipaaSpanLW
namespace Go.Proofs.Ytlbehkdhngeipaa
open Go.RowKit

theorem spanLessL_len (a b c d : Int) : (spanLessL a b c d).length ≤ 2 := by
  unfold spanLessL lessOne
  split
  · split
    · split <;> split <;> simp
    · simp
  · simp

def AtLess (wr : World) (a b c d : Int) (s : Value) (wx : World) : Prop :=
  ∃ A cap, s = .slice A (spanLessL a b c d).length cap ∧ wx.ownsRow wr.heap.size 24 2 (.slice A (spanLessL a b c d).length cap) (spanLessL a b c d).length (flat (spanLessL a b c d)) ∧ Below wr.heap.size wr wx

theorem SpanLess_val (a b c d : Int) (w : World) :
    Calls Try.prog 28 #[.agg #[.int .i64 a, .int .i64 b], .agg #[.int .i64 c, .int .i64 d]] w (Gets w (spanLessL a b c d)) := by
  have := SpanLess_any a b c d w
  rwa [spanLess_eq] at this

set_option maxRecDepth 100000 in
set_option maxHeartbeats 4000000 in
theorem FnExactSpanLess_any (a b c d : Int) (w : World) :
    Calls Try.prog 13 #[.agg #[.int .i64 a, .int .i64 b], .agg #[.int .i64 c, .int .i64 d]] w fun e w' =>
      e = .returned (.bool true) ∧ Below w.heap.size w w' := by
  have hb0 : Below w.heap.size w ((w.alloc (Obj.cells #[Value.int IntKind.i64 a, Value.int IntKind.i64 b] 47)).alloc (Obj.cells #[Value.int IntKind.i64 c, Value.int IntKind.i64 d] 47)) :=
    ((Below.refl _ _).alloc (Nat.le_refl _) _).alloc (by simp) _
  have k0 : ((w.alloc (Obj.cells #[Value.int IntKind.i64 a, Value.int IntKind.i64 b] 47)).alloc (Obj.cells #[Value.int IntKind.i64 c, Value.int IntKind.i64 d] 47)).cell? ⟨w.heap.size, 0, none⟩ = some (.int .i64 a) := by first | (simp; done) | (simp [go_sem]; done)
  have k1 : ((w.alloc (Obj.cells #[Value.int IntKind.i64 a, Value.int IntKind.i64 b] 47)).alloc (Obj.cells #[Value.int IntKind.i64 c, Value.int IntKind.i64 d] 47)).cell? ⟨w.heap.size, 1, none⟩ = some (.int .i64 b) := by first | (simp; done) | (simp [go_sem]; done)
  have k2 : ((w.alloc (Obj.cells #[Value.int IntKind.i64 a, Value.int IntKind.i64 b] 47)).alloc (Obj.cells #[Value.int IntKind.i64 c, Value.int IntKind.i64 d] 47)).cell? ⟨w.heap.size + 1, 0, none⟩ = some (.int .i64 c) := by first | (simp; done) | (simp [go_sem]; done)
  have k3 : ((w.alloc (Obj.cells #[Value.int IntKind.i64 a, Value.int IntKind.i64 b] 47)).alloc (Obj.cells #[Value.int IntKind.i64 c, Value.int IntKind.i64 d] 47)).cell? ⟨w.heap.size + 1, 1, none⟩ = some (.int .i64 d) := by first | (simp; done) | (simp [go_sem]; done)
  have hs0 : w.heap.size + 1 < ((w.alloc (Obj.cells #[Value.int IntKind.i64 a, Value.int IntKind.i64 b] 47)).alloc (Obj.cells #[Value.int IntKind.i64 c, Value.int IntKind.i64 d] 47)).heap.size := by simp
  go_enter Try.func13, Try.ntmps13
  go_wp2_with fail
  generalize (w.alloc (Obj.cells #[Value.int IntKind.i64 a, Value.int IntKind.i64 b] 47)).alloc (Obj.cells #[Value.int IntKind.i64 c, Value.int IntKind.i64 d] 47) = W0 at *
  go_upto_region 1 with fail
  go_cut [5] (fun s wx => AtLess W0 a b c d s wx)
  case first =>
    have hq0 : Below W0.heap.size W0 W0 := Below.refl _ _
    go_region_held3 (fun w' => w'.cell? ⟨w.heap.size, 0, none⟩ = some (.int .i64 a) ∧ w'.cell? ⟨w.heap.size, 1, none⟩ = some (.int .i64 b) ∧ w'.cell? ⟨w.heap.size + 1, 0, none⟩ = some (.int .i64 c) ∧ w'.cell? ⟨w.heap.size + 1, 1, none⟩ = some (.int .i64 d) ∧ W0.heap.size ≤ w'.heap.size ∧ Below W0.heap.size W0 w')
      (((try go_split_ands); refine ⟨?c0, ?c1, ?c2, ?c3, ?s, ?b⟩; (case c0 => (repeat (first | with_reducible assumption | with_reducible refine cell_below hb (by first | omega | (simp; done) | (simp; omega)) ?_ | with_reducible refine cell_set_far (by first | omega | (simp; done) | (simp; omega)) ?_ | with_reducible exact cell_alloc_swap (by with_reducible assumption) (by first | omega | (simp; done) | (simp; omega)) | with_reducible refine cell_alloc_far ?_ | with_reducible refine cell_drew ?_))); (case c1 => (repeat (first | with_reducible assumption | with_reducible refine cell_below hb (by first | omega | (simp; done) | (simp; omega)) ?_ | with_reducible refine cell_set_far (by first | omega | (simp; done) | (simp; omega)) ?_ | with_reducible exact cell_alloc_swap (by with_reducible assumption) (by first | omega | (simp; done) | (simp; omega)) | with_reducible refine cell_alloc_far ?_ | with_reducible refine cell_drew ?_))); (case c2 => (repeat (first | with_reducible assumption | with_reducible refine cell_below hb (by first | omega | (simp; done) | (simp; omega)) ?_ | with_reducible refine cell_set_far (by first | omega | (simp; done) | (simp; omega)) ?_ | with_reducible exact cell_alloc_swap (by with_reducible assumption) (by first | omega | (simp; done) | (simp; omega)) | with_reducible refine cell_alloc_far ?_ | with_reducible refine cell_drew ?_))); (case c3 => (repeat (first | with_reducible assumption | with_reducible refine cell_below hb (by first | omega | (simp; done) | (simp; omega)) ?_ | with_reducible refine cell_set_far (by first | omega | (simp; done) | (simp; omega)) ?_ | with_reducible exact cell_alloc_swap (by with_reducible assumption) (by first | omega | (simp; done) | (simp; omega)) | with_reducible refine cell_alloc_far ?_ | with_reducible refine cell_drew ?_))); (case s => (first | with_reducible assumption | (have := hb.size; omega) | omega | (simp; done) | (simp; omega) | (have := hb.size; simp at this ⊢; omega))); (case b => (repeat (first | with_reducible assumption | with_reducible exact hq0 | with_reducible refine Below.drew ?_ | with_reducible refine Below.trans ?_ (hb.mono (by first | omega | (simp; done) | (simp; omega))) | with_reducible refine Below.setCell ?_ (by first | omega | (simp; done) | (simp; omega)) _ | with_reducible exact below_alloc_swap (by with_reducible assumption) (by first | omega | (simp; done) | (simp; omega)) | with_reducible refine Below.alloc ?_ (by first | omega | (simp; done) | (simp; omega)) _)))))
      (first
      | (go_at_call 51; refine (toSpan_any _ _ _).mono ?_; rintro e w1 ⟨rfl, hb⟩; have hsz : W0.heap.size ≤ w1.heap.size := (by have := hb.size; first | omega | (simp at this; omega)); obtain ⟨hc, hf, hl⟩ := bcell3 hb)
      | (go_at_call 30; refine (sSpanLess_any _ _ _ _ _).mono ?_; rintro e w1 ⟨A3, c3, rfl, ho3, hb⟩; have O3 := Lib.hid (owns_base (base' := W0.heap.size) ho3 (by first | omega | (simp; omega))); clear ho3; have hsz : W0.heap.size ≤ w1.heap.size := (by have := hb.size; first | omega | (simp at this; omega)); obtain ⟨hc, hf, hl⟩ := bcell3 hb))
    all_goals (go_wp2_with fail; go_meet; unfold AtLess; rename_i hH; obtain ⟨q0, q1, q2, q3, q4, q5⟩ := hH; exact ⟨A3, c3, rfl, O3.out, q5⟩)
  case rest =>
    obtain ⟨A1, c1, rfl, ho1, hb1⟩ := hcut
    have O1 := Lib.hid ho1
    have m0 := (hb1.cell (p := ⟨w.heap.size, 0, none⟩) (by simp only []; omega)).trans k0
    have m1 := (hb1.cell (p := ⟨w.heap.size, 1, none⟩) (by simp only []; omega)).trans k1
    have m2 := (hb1.cell (p := ⟨w.heap.size + 1, 0, none⟩) (by simp only []; omega)).trans k2
    have m3 := (hb1.cell (p := ⟨w.heap.size + 1, 1, none⟩) (by simp only []; omega)).trans k3
    have hB1 : Below w.heap.size w wc := hb0.trans (hb1.mono hb0.size)
    have hs1 : w.heap.size + 1 < wc.heap.size := Nat.lt_of_lt_of_le hs0 hb1.size
    clear ho1 k0 k1 k2 k3 hb1 hb0 hs0
    obtain ⟨W1, hW1⟩ : ∃ W1, wc = W1 := ⟨_, rfl⟩
    rw [hW1] at O1 m0 m1 m2 m3 hB1 hs1 ⊢
    clear hW1
    go_upto_region 2 with fail
    go_cut [6] (fun s wx => AtLess W1 a b c d s wx)
    case first =>
      have hq0 : Below W1.heap.size W1 W1 := Below.refl _ _
      go_region_held3 (fun w' => w'.cell? ⟨w.heap.size, 0, none⟩ = some (.int .i64 a) ∧ w'.cell? ⟨w.heap.size, 1, none⟩ = some (.int .i64 b) ∧ w'.cell? ⟨w.heap.size + 1, 0, none⟩ = some (.int .i64 c) ∧ w'.cell? ⟨w.heap.size + 1, 1, none⟩ = some (.int .i64 d) ∧ W1.heap.size ≤ w'.heap.size ∧ Below W1.heap.size W1 w')
        (((try go_split_ands); refine ⟨?c0, ?c1, ?c2, ?c3, ?s, ?b⟩; (case c0 => (repeat (first | with_reducible assumption | with_reducible refine cell_below hb (by first | omega | (simp; done) | (simp; omega)) ?_ | with_reducible refine cell_set_far (by first | omega | (simp; done) | (simp; omega)) ?_ | with_reducible exact cell_alloc_swap (by with_reducible assumption) (by first | omega | (simp; done) | (simp; omega)) | with_reducible refine cell_alloc_far ?_ | with_reducible refine cell_drew ?_))); (case c1 => (repeat (first | with_reducible assumption | with_reducible refine cell_below hb (by first | omega | (simp; done) | (simp; omega)) ?_ | with_reducible refine cell_set_far (by first | omega | (simp; done) | (simp; omega)) ?_ | with_reducible exact cell_alloc_swap (by with_reducible assumption) (by first | omega | (simp; done) | (simp; omega)) | with_reducible refine cell_alloc_far ?_ | with_reducible refine cell_drew ?_))); (case c2 => (repeat (first | with_reducible assumption | with_reducible refine cell_below hb (by first | omega | (simp; done) | (simp; omega)) ?_ | with_reducible refine cell_set_far (by first | omega | (simp; done) | (simp; omega)) ?_ | with_reducible exact cell_alloc_swap (by with_reducible assumption) (by first | omega | (simp; done) | (simp; omega)) | with_reducible refine cell_alloc_far ?_ | with_reducible refine cell_drew ?_))); (case c3 => (repeat (first | with_reducible assumption | with_reducible refine cell_below hb (by first | omega | (simp; done) | (simp; omega)) ?_ | with_reducible refine cell_set_far (by first | omega | (simp; done) | (simp; omega)) ?_ | with_reducible exact cell_alloc_swap (by with_reducible assumption) (by first | omega | (simp; done) | (simp; omega)) | with_reducible refine cell_alloc_far ?_ | with_reducible refine cell_drew ?_))); (case s => (first | with_reducible assumption | (have := hb.size; omega) | omega | (simp; done) | (simp; omega) | (have := hb.size; simp at this ⊢; omega))); (case b => (repeat (first | with_reducible assumption | with_reducible exact hq0 | with_reducible refine Below.drew ?_ | with_reducible refine Below.trans ?_ (hb.mono (by first | omega | (simp; done) | (simp; omega))) | with_reducible refine Below.setCell ?_ (by first | omega | (simp; done) | (simp; omega)) _ | with_reducible exact below_alloc_swap (by with_reducible assumption) (by first | omega | (simp; done) | (simp; omega)) | with_reducible refine Below.alloc ?_ (by first | omega | (simp; done) | (simp; omega)) _)))))
        (first
        | (go_at_call 51; refine (toSpan_any _ _ _).mono ?_; rintro e w1 ⟨rfl, hb⟩; have hsz : W1.heap.size ≤ w1.heap.size := (by have := hb.size; first | omega | (simp at this; omega)); obtain ⟨hc, hf, hl⟩ := bcell3 hb)
        | (go_at_call 28; refine (SpanLess_val _ _ _ _ _).mono ?_; rintro e w1 ⟨A3, c3, rfl, ho3, hb⟩; have O3 := Lib.hid (owns_base (base' := W1.heap.size) ho3 (by first | omega | (simp; omega))); clear ho3; have hsz : W1.heap.size ≤ w1.heap.size := (by have := hb.size; first | omega | (simp at this; omega)); obtain ⟨hc, hf, hl⟩ := bcell3 hb))
      all_goals (go_wp2_with fail; go_meet; unfold AtLess; rename_i hH; obtain ⟨q0, q1, q2, q3, q4, q5⟩ := hH; exact ⟨A3, c3, rfl, O3.out, q5⟩)
    case rest =>
      obtain ⟨A2, c2, rfl, ho2, hb2⟩ := hcut
      have hzl := spanLessL_len a b c d
      obtain ⟨zs, hzs⟩ : ∃ zs, spanLessL a b c d = zs := ⟨_, rfl⟩
      have HZ := Lib.hid hzs
      rw [hzs] at hzl ho2 O1 ⊢
      have O2 := Lib.hid ho2
      have P1 := Lib.hid (owns_keep O1.out hb2)
      have a12 := Lib.hid (owns_apart O1.out (Nat.le_refl _) (Nat.le_refl _) O2.out)
      have n0 := (hb2.cell (p := ⟨w.heap.size, 0, none⟩) (by simp only []; omega)).trans m0
      have n1 := (hb2.cell (p := ⟨w.heap.size, 1, none⟩) (by simp only []; omega)).trans m1
      have n2 := (hb2.cell (p := ⟨w.heap.size + 1, 0, none⟩) (by simp only []; omega)).trans m2
      have n3 := (hb2.cell (p := ⟨w.heap.size + 1, 1, none⟩) (by simp only []; omega)).trans m3
      have hB2 : Below w.heap.size w wc := hB1.trans (hb2.mono hB1.size)
      have hs2 : w.heap.size + 1 < wc.heap.size := Nat.lt_of_lt_of_le hs1 hb2.size
      clear ho2 hzs m0 m1 m2 m3 O1 hb2 hB1
      go_wp2_with fail
      refine (eqSpanS_same _ _ _ _ zs _ (owns_spans O2.out) (owns_spans P1.out) (by unfold maxLen; omega)).mono ?_
      rintro e w3 ⟨rfl, hb3⟩
      have Q1 := Lib.hid (owns_keep P1.out hb3)
      have Q2 := Lib.hid (owns_keep O2.out hb3)
      have r0 := (hb3.cell (p := ⟨w.heap.size, 0, none⟩) (by simp only []; omega)).trans n0
      have r1 := (hb3.cell (p := ⟨w.heap.size, 1, none⟩) (by simp only []; omega)).trans n1
      have r2 := (hb3.cell (p := ⟨w.heap.size + 1, 0, none⟩) (by simp only []; omega)).trans n2
      have r3 := (hb3.cell (p := ⟨w.heap.size + 1, 1, none⟩) (by simp only []; omega)).trans n3
      have hB3 : Below w.heap.size w w3 := hB2.trans (hb3.mono hB2.size)
      have hs3 : w.heap.size + 1 < w3.heap.size := Nat.lt_of_lt_of_le hs2 hb3.size
      clear P1 O2 n0 n1 n2 n3 hb3 hB2 hs2
      go_wp2_with fail
      refine (mark_any _ _ zs 1 _ Q2.out (by omega) (by omega) (by omega)).mono ?_
      rintro e w4 ⟨rfl, hm4, hg4⟩
      have M2 := Lib.hid (show w4.ownsRow _ 24 2 (.slice A2 (markL 1 zs.length).length c2) (markL 1 zs.length).length (flat (markL 1 zs.length)) from by rw [markL_length]; exact hm4)
      have R1 := Lib.hid (Q1.out.kept hg4 a12.out)
      have hfar : ∀ k, k ≤ w.heap.size + 1 → some k ≠ (Value.slice A2 zs.length c2).ownBlock := fun k hk e => by have := (Q2.out.lt k e.symm).1; omega
      have k0 := (World.cell?_of_block (a := ⟨w.heap.size, 0, none⟩) (hg4.block (w.heap.size) (by omega) (hfar (w.heap.size) (by omega)))).trans r0
      have k1 := (World.cell?_of_block (a := ⟨w.heap.size, 1, none⟩) (hg4.block (w.heap.size) (by omega) (hfar (w.heap.size) (by omega)))).trans r1
      have k2 := (World.cell?_of_block (a := ⟨w.heap.size + 1, 0, none⟩) (hg4.block (w.heap.size + 1) (by omega) (hfar (w.heap.size + 1) (by omega)))).trans r2
      have k3 := (World.cell?_of_block (a := ⟨w.heap.size + 1, 1, none⟩) (hg4.block (w.heap.size + 1) (by omega) (hfar (w.heap.size + 1) (by omega)))).trans r3
      have hB4 : Below w.heap.size w w4 := hB3.grown hg4 hB3.size (fun k e => by have := (Q2.out.lt k e).1; omega)
      have hs4 : w.heap.size + 1 < w4.heap.size := Nat.lt_of_lt_of_le hs3 hg4.size
      clear Q1 Q2 r0 r1 r2 r3 hm4 hg4 hB3 hs3 hfar
      go_wp2_with fail
      refine (held_any _ zs.length _ 1 _ (owns_spans M2.out) (by omega) (by omega) (by omega)).mono ?_
      rintro e w5 ⟨rfl, rfl⟩
      have hq : decide (1 + 2 * (zs.length : Int) < 0) = false := decide_eq_false (by omega)
      go_upto_region 13 with fail
      go_cut [9] (fun s wx => AtLess w5 a b c d s wx)
      case first =>
        have hq0 : Below w5.heap.size w5 w5 := Below.refl _ _
        go_region_held3 (fun w' => w'.cell? ⟨w.heap.size, 0, none⟩ = some (.int .i64 a) ∧ w'.cell? ⟨w.heap.size, 1, none⟩ = some (.int .i64 b) ∧ w'.cell? ⟨w.heap.size + 1, 0, none⟩ = some (.int .i64 c) ∧ w'.cell? ⟨w.heap.size + 1, 1, none⟩ = some (.int .i64 d) ∧ w5.heap.size ≤ w'.heap.size ∧ Below w5.heap.size w5 w')
          (((try go_split_ands); refine ⟨?c0, ?c1, ?c2, ?c3, ?s, ?b⟩; (case c0 => (repeat (first | with_reducible assumption | with_reducible refine cell_below hb (by first | omega | (simp; done) | (simp; omega)) ?_ | with_reducible refine cell_set_far (by first | omega | (simp; done) | (simp; omega)) ?_ | with_reducible exact cell_alloc_swap (by with_reducible assumption) (by first | omega | (simp; done) | (simp; omega)) | with_reducible refine cell_alloc_far ?_ | with_reducible refine cell_drew ?_))); (case c1 => (repeat (first | with_reducible assumption | with_reducible refine cell_below hb (by first | omega | (simp; done) | (simp; omega)) ?_ | with_reducible refine cell_set_far (by first | omega | (simp; done) | (simp; omega)) ?_ | with_reducible exact cell_alloc_swap (by with_reducible assumption) (by first | omega | (simp; done) | (simp; omega)) | with_reducible refine cell_alloc_far ?_ | with_reducible refine cell_drew ?_))); (case c2 => (repeat (first | with_reducible assumption | with_reducible refine cell_below hb (by first | omega | (simp; done) | (simp; omega)) ?_ | with_reducible refine cell_set_far (by first | omega | (simp; done) | (simp; omega)) ?_ | with_reducible exact cell_alloc_swap (by with_reducible assumption) (by first | omega | (simp; done) | (simp; omega)) | with_reducible refine cell_alloc_far ?_ | with_reducible refine cell_drew ?_))); (case c3 => (repeat (first | with_reducible assumption | with_reducible refine cell_below hb (by first | omega | (simp; done) | (simp; omega)) ?_ | with_reducible refine cell_set_far (by first | omega | (simp; done) | (simp; omega)) ?_ | with_reducible exact cell_alloc_swap (by with_reducible assumption) (by first | omega | (simp; done) | (simp; omega)) | with_reducible refine cell_alloc_far ?_ | with_reducible refine cell_drew ?_))); (case s => (first | with_reducible assumption | (have := hb.size; omega) | omega | (simp; done) | (simp; omega) | (have := hb.size; simp at this ⊢; omega))); (case b => (repeat (first | with_reducible assumption | with_reducible exact hq0 | with_reducible refine Below.drew ?_ | with_reducible refine Below.trans ?_ (hb.mono (by first | omega | (simp; done) | (simp; omega))) | with_reducible refine Below.setCell ?_ (by first | omega | (simp; done) | (simp; omega)) _ | with_reducible exact below_alloc_swap (by with_reducible assumption) (by first | omega | (simp; done) | (simp; omega)) | with_reducible refine Below.alloc ?_ (by first | omega | (simp; done) | (simp; omega)) _)))))
          (first
          | (go_at_call 51; refine (toSpan_any _ _ _).mono ?_; rintro e w1 ⟨rfl, hb⟩; have hsz : w5.heap.size ≤ w1.heap.size := (by have := hb.size; first | omega | (simp at this; omega)); obtain ⟨hc, hf, hl⟩ := bcell3 hb)
          | (go_at_call 28; refine (SpanLess_val _ _ _ _ _).mono ?_; rintro e w1 ⟨A3, c3, rfl, ho3, hb⟩; have O3 := Lib.hid (owns_base (base' := w5.heap.size) ho3 (by first | omega | (simp; omega))); clear ho3; have hsz : w5.heap.size ≤ w1.heap.size := (by have := hb.size; first | omega | (simp at this; omega)); obtain ⟨hc, hf, hl⟩ := bcell3 hb))
        all_goals (go_wp2_with fail; go_meet; unfold AtLess; rename_i hH; obtain ⟨q0, q1, q2, q3, q4, q5⟩ := hH; exact ⟨A3, c3, rfl, O3.out, q5⟩)
      case rest =>
        obtain ⟨A6, c6, rfl, ho6, hb6⟩ := hcut
        rw [HZ.out] at ho6 ⊢
        have O6 := Lib.hid ho6
        have S1 := Lib.hid (owns_keep R1.out hb6)
        have S2 := Lib.hid (owns_keep M2.out hb6)
        have hB6 : Below w.heap.size w wc := hB4.trans (hb6.mono hB4.size)
        clear ho6 R1 M2 k0 k1 k2 k3 hb6 hB4
        go_wp2_with fail
        refine (eqSpanS_same _ _ _ _ zs _ (owns_spans O6.out) (owns_spans S1.out) (by unfold maxLen; omega)).mono ?_
        rintro e w7 ⟨rfl, hb7⟩
        have T2 := Lib.hid (owns_keep S2.out hb7)
        have hB7 : Below w.heap.size w w7 := hB6.trans (hb7.mono hB6.size)
        clear O6 S1 S2 hb7 hB6
        go_wp2_with fail
        refine (held_any _ zs.length _ 1 _ (owns_spans T2.out) (by omega) (by omega) (by omega)).mono ?_
        rintro e w8 ⟨rfl, rfl⟩
        go_wp2
        go_ret
        exact ⟨rfl, hB7⟩
end Go.Proofs.Ytlbehkdhngeipaa
