/-
  The walk of the exact law of SpanLess.
-/
import Derived.Test.YtphinkcfmdnpfaaSpanL
namespace Go.Proofs.Ytphinkcfmdnpfaa
open Go.RowKit

theorem has_out1 (c d p : Int) (h : 0 ≤ c ∧ c < d ∧ d ≤ 100) : has (outL [(c, d)]) p ↔ (0 ≤ p ∧ p < c) ∨ (d ≤ p ∧ p < 100) := by
  by_cases h1 : 0 < c <;> by_cases h2 : d ≤ 99 <;> simp [outL, outTo, h1, h2, has_cons, has_nil] <;> omega
theorem canon_out1 (c d : Int) (h : 0 ≤ c ∧ c < d ∧ d ≤ 100) : canon (-1) (outL [(c, d)]) := by
  by_cases h1 : 0 < c <;> by_cases h2 : d ≤ 99 <;> simp [outL, outTo, h1, h2, canon] <;> omega
theorem setOk_one (a b : Int) : setOk [(a, b)] = okB a b := by simp [setOk, okAt]
def spanLessL (a b c d : Int) : List (Int × Int) := if okB a b && okB c d then lessOne (a, b) (c, d) else []
end Go.Proofs.Ytphinkcfmdnpfaa
namespace Go.Proofs.Ytphinkcfmdnpfaa
open Go.RowKit

theorem spanLessL_len (a b c d : Int) : (spanLessL a b c d).length ≤ 2 := by
  unfold spanLessL lessOne
  split
  · split
    · split <;> split <;> simp
    · simp
  · simp

def AtLess (wr : World) (a b c d : Int) (s : Value) (wx : World) : Prop :=
  ∃ A cap, s = .slice A (spanLessL a b c d).length cap ∧ wx.ownsRow wr.heap.size 29 2 (.slice A (spanLessL a b c d).length cap) (spanLessL a b c d).length (flat (spanLessL a b c d)) ∧ Below wr.heap.size wr wx

end Go.Proofs.Ytphinkcfmdnpfaa
