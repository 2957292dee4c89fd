/-
  The walk of the exact law of SpanLess.
-/
import Derived.Test.YtgclmldhdjmabaaGreatSpanL
namespace Go.Proofs.YtgclmldhdjmabaaGreat
open Go.RowKit

theorem has_out1 (c d p : Int) (h : 0 ≤ c ∧ c < d ∧ d ≤ 100) : has (outL [(c, d)]) p ↔ (0 ≤ p ∧ p < c) ∨ (d ≤ p ∧ p < 100) := by
  by_cases h1 : 0 < c <;> by_cases h2 : d ≤ 99 <;> simp [outL, outTo, h1, h2, has_cons, has_nil] <;> omega
theorem canon_out1 (c d : Int) (h : 0 ≤ c ∧ c < d ∧ d ≤ 100) : canon (-1) (outL [(c, d)]) := by
  by_cases h1 : 0 < c <;> by_cases h2 : d ≤ 99 <;> simp [outL, outTo, h1, h2, canon] <;> omega
theorem less_one {a b c d : Int} (h1 : okB a b = true) (h2 : okB c d = true) : meetL [(a, b)] (outL [(c, d)]) = lessOne (a, b) (c, d) := by
  simp only [okB, decide_eq_true_eq] at h1 h2
  have hx : canon (-1) [(a, b)] := by simp [canon]; omega
  have hl : canon (-1) (lessOne (a, b) (c, d)) := by
    by_cases hm : max a c < min b d <;> by_cases g1 : a < c <;> by_cases g2 : d < b <;> simp [lessOne, mB, hm, g1, g2, canon] <;> omega
  refine canon_same (canon_meetL (canon_out1 c d h2) hx) hl fun p => ?_
  rw [has_meetL, has_out1 c d p h2, has_cons]
  by_cases hm : max a c < min b d <;> by_cases g1 : a < c <;> by_cases g2 : d < b <;> simp [lessOne, mB, hm, g1, g2, has_cons, has_nil] <;> omega
theorem setOk_one (a b : Int) : setOk [(a, b)] = okB a b := by simp [setOk, okAt]
def spanLessL (a b c d : Int) : List (Int × Int) := if okB a b && okB c d then lessOne (a, b) (c, d) else []
theorem spanLess_eq (a b c d : Int) : setLessL [(a, b)] [(c, d)] = spanLessL a b c d := by
  unfold setLessL spanLessL
  rw [setOk_one, setOk_one]
  by_cases h : (okB a b && okB c d) = true
  · rw [if_pos h, if_pos h]
    simp only [Bool.and_eq_true] at h
    exact less_one h.1 h.2
  · rw [if_neg h, if_neg h]

end Go.Proofs.YtgclmldhdjmabaaGreat
namespace Go.Proofs.YtgclmldhdjmabaaGreat
open Go.RowKit

theorem spanLessL_len (a b c d : Int) : (spanLessL a b c d).length ≤ 2 := by
  unfold spanLessL lessOne
  split
  · split
    · split <;> split <;> simp
    · simp
  · simp

def AtLess (wr : World) (a b c d : Int) (s : Value) (wx : World) : Prop :=
  ∃ A cap, s = .slice A (spanLessL a b c d).length cap ∧ wx.ownsRow wr.heap.size 25 2 (.slice A (spanLessL a b c d).length cap) (spanLessL a b c d).length (flat (spanLessL a b c d)) ∧ Below wr.heap.size wr wx

theorem SpanLess_val (a b c d : Int) (w : World) :
    Calls Tryz.prog 58 #[.agg #[.int .i64 a, .int .i64 b], .agg #[.int .i64 c, .int .i64 d]] w (Gets w (spanLessL a b c d)) := by
  have := SpanLess_any a b c d w
  rwa [spanLess_eq] at this

end Go.Proofs.YtgclmldhdjmabaaGreat
