/-
  The walk of the exact law of SpanLess.
-/
import Derived.Test.YtgclmldhdjmababSpanL
namespace Go.Proofs.Ytgclmldhdjmabab
open Go.RowKit

theorem has_out1 (c d p : Int) (h : 0 ≤ c ∧ c < d ∧ d ≤ 100) : has (outL [(c, d)]) p ↔ (0 ≤ p ∧ p < c) ∨ (d ≤ p ∧ p < 100) := by
  by_cases h1 : 0 < c <;> by_cases h2 : d ≤ 99 <;> simp [outL, outTo, h1, h2, has_cons, has_nil] <;> omega
theorem canon_out1 (c d : Int) (h : 0 ≤ c ∧ c < d ∧ d ≤ 100) : canon (-1) (outL [(c, d)]) := by
  by_cases h1 : 0 < c <;> by_cases h2 : d ≤ 99 <;> simp [outL, outTo, h1, h2, canon] <;> omega
theorem less_one {a b c d : Int} (h1 : okB a b = true) (h2 : okB c d = true) : meetL [(a, b)] (outL [(c, d)]) = lessOne (a, b) (c, d) := by
  simp only [okB, decide_eq_true_eq] at h1 h2
  have hx : canon (-1) [(a, b)] := by simp [canon]; omega
  have hl : canon (-1) (lessOne (a, b) (c, d)) := by
    by_cases hm : max a c < min b d <;> by_cases g1 : a < c <;> by_cases g2 : d < b <;> simp [lessOne, mB, hm, g1, g2, canon] <;> omega
  refine canon_same (canon_meetL (canon_out1 c d h2) hx) hl fun p => ?_
  rw [has_meetL, has_out1 c d p h2, has_cons]
  by_cases hm : max a c < min b d <;> by_cases g1 : a < c <;> by_cases g2 : d < b <;> simp [lessOne, mB, hm, g1, g2, has_cons, has_nil] <;> omega
theorem setOk_one (a b : Int) : setOk [(a, b)] = okB a b := by simp [setOk, okAt]
def spanLessL (a b c d : Int) : List (Int × Int) := if okB a b && okB c d then lessOne (a, b) (c, d) else []
theorem spanLess_eq (a b c d : Int) : setLessL [(a, b)] [(c, d)] = spanLessL a b c d := by
  unfold setLessL spanLessL
  rw [setOk_one, setOk_one]
  by_cases h : (okB a b && okB c d) = true
  · rw [if_pos h, if_pos h]
    simp only [Bool.and_eq_true] at h
    exact less_one h.1 h.2
  · rw [if_neg h, if_neg h]

set_option maxRecDepth 100000 in
set_option maxHeartbeats 1000000 in
theorem sSpanLess_any (a b c d : Int) (w : World) :
    Calls Try.prog 15 #[.agg #[.int .i64 a, .int .i64 b], .agg #[.int .i64 c, .int .i64 d]] w (Gets w (spanLessL a b c d)) := by
  obtain ⟨o, ho⟩ : ∃ o, okB a b = o := ⟨_, rfl⟩
  obtain ⟨o', ho'⟩ : ∃ o, okB c d = o := ⟨_, rfl⟩
  have Ho := Lib.hid ho
  have Ho' := Lib.hid ho'
  clear ho ho'
  have hb0 : Below w.heap.size w ((w.alloc (Obj.cells #[Value.int IntKind.i64 a, Value.int IntKind.i64 b] 24)).alloc (Obj.cells #[Value.int IntKind.i64 c, Value.int IntKind.i64 d] 24)) :=
    ((Below.refl _ _).alloc (Nat.le_refl _) _).alloc (by simp) _
  go_enter Try.func15, Try.ntmps15
  go_wp2_with fail
  refine (l1Ok_val a b _ _ Ho.out).mono ?_
  rintro e w1 ⟨rfl, hb1⟩
  have q2 : ((w.alloc (Obj.cells #[Value.int IntKind.i64 a, Value.int IntKind.i64 b] 24)).alloc (Obj.cells #[Value.int IntKind.i64 c, Value.int IntKind.i64 d] 24)).cell? ⟨w.heap.size + 1, 0, none⟩ = some (.int .i64 c) := by first | (simp; done) | (simp [go_sem]; done)
  have q3 : ((w.alloc (Obj.cells #[Value.int IntKind.i64 a, Value.int IntKind.i64 b] 24)).alloc (Obj.cells #[Value.int IntKind.i64 c, Value.int IntKind.i64 d] 24)).cell? ⟨w.heap.size + 1, 1, none⟩ = some (.int .i64 d) := by first | (simp; done) | (simp [go_sem]; done)
  have q0 : ((w.alloc (Obj.cells #[Value.int IntKind.i64 a, Value.int IntKind.i64 b] 24)).alloc (Obj.cells #[Value.int IntKind.i64 c, Value.int IntKind.i64 d] 24)).cell? ⟨w.heap.size, 0, none⟩ = some (.int .i64 a) := by first | (simp; done) | (simp [go_sem]; done)
  have q1 : ((w.alloc (Obj.cells #[Value.int IntKind.i64 a, Value.int IntKind.i64 b] 24)).alloc (Obj.cells #[Value.int IntKind.i64 c, Value.int IntKind.i64 d] 24)).cell? ⟨w.heap.size, 1, none⟩ = some (.int .i64 b) := by first | (simp; done) | (simp [go_sem]; done)
  have k0 := (hb1.cell (p := ⟨w.heap.size, 0, none⟩) (by simp; try omega)).trans q0
  have k1 := (hb1.cell (p := ⟨w.heap.size, 1, none⟩) (by simp; try omega)).trans q1
  have k2 := (hb1.cell (p := ⟨w.heap.size + 1, 0, none⟩) (by simp; try omega)).trans q2
  have k3 := (hb1.cell (p := ⟨w.heap.size + 1, 1, none⟩) (by simp; try omega)).trans q3
  have hB1 : Below w.heap.size w w1 := hb0.trans (hb1.mono hb0.size)
  have hs1 : w.heap.size + 1 < w1.heap.size := by have := hb1.size; simp at this; omega
  clear q0 q1 q2 q3 hb0 hb1
  cases o
  · go_wp2
    go_ret
    have : spanLessL a b c d = [] := by simp [spanLessL, Ho.out]
    rw [this]
    exact gets_nil _ _ hB1
  · go_wp2_with fail
    refine (l1Ok_val c d _ _ Ho'.out).mono ?_
    rintro e w2 ⟨rfl, hb2⟩
    have m0 := (hb2.cell (p := ⟨w.heap.size, 0, none⟩) (by simp; omega)).trans k0
    have m1 := (hb2.cell (p := ⟨w.heap.size, 1, none⟩) (by simp; omega)).trans k1
    have m2 := (hb2.cell (p := ⟨w.heap.size + 1, 0, none⟩) (by simp; omega)).trans k2
    have m3 := (hb2.cell (p := ⟨w.heap.size + 1, 1, none⟩) (by simp; omega)).trans k3
    have hB2 : Below w.heap.size w w2 := hB1.trans (hb2.mono hB1.size)
    clear k0 k1 k2 k3 hb2 hB1
    cases o'
    · go_wp2
      go_ret
      have : spanLessL a b c d = [] := by simp [spanLessL, Ho'.out]
      rw [this]
      exact gets_nil _ _ hB2
    · have hL := Lib.hid (show spanLessL a b c d = lessOne (a, b) (c, d) from by simp [spanLessL, Ho.out, Ho'.out])
      go_wp2_with fail
      refine (l1Less_any a b c d _).mono ?_
      rintro e w3 h3
      obtain ⟨A3, c3, rfl, h3'⟩ := gets_after (gets_of_made h3) hB2
      have H3 := Lib.hid h3'
      clear h3 h3' m0 m1 m2 m3 hB2
      go_wp2
      go_ret
      rw [hL.out]
      exact ⟨A3, c3, rfl, H3.out⟩
end Go.Proofs.Ytgclmldhdjmabab
