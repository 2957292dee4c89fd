/-
  Walks: what is left of a set, and of a span.
-/
import Derived.Test.YtfolppahdmkaoaaOut
namespace Go.Proofs.Ytfolppahdmkaoaa
open Go.RowKit Go.Shelf

def setLessL (xs ys : List (Int × Int)) : List (Int × Int) := if setOk xs && setOk ys then meetL xs (outL ys) else []
theorem setLessL_len (xs ys : List (Int × Int)) : (setLessL xs ys).length ≤ 10100 := by
  unfold setLessL
  by_cases h : (setOk xs && setOk ys) = true
  · rw [if_pos h]
    simp only [Bool.and_eq_true] at h
    have h1 := meetL_len (outL ys) xs
    have h3 := outL_len ys
    have h4 := setOk_len h.2
    have h2 : xs.length * (outL ys).length ≤ 100 * 101 := Nat.mul_le_mul (setOk_len h.1) (by omega)
    omega
  · rw [if_neg h]; simp

end Go.Proofs.Ytfolppahdmkaoaa
