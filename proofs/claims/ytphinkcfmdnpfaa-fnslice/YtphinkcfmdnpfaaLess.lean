/-
  Walks: what is left of a set, and of a span.
-/
import Derived.Test.YtphinkcfmdnpfaaCanon
import Derived.Test.YtphinkcfmdnpfaaCommonN
namespace Go.Proofs.Ytphinkcfmdnpfaa
open Go.RowKit Go.Shelf

attribute [local go_sem] Oper.semAt_some

def outTo (zs : List (Int × Int)) : Nat → List (Int × Int) × Int
  | 0 => ([], 0)
  | k + 1 => ((outTo zs k).1 ++ (if (outTo zs k).2 < (zs.getD k (0, 0)).1 then [((outTo zs k).2, (zs.getD k (0, 0)).1)] else []), (zs.getD k (0, 0)).2)
def outL (zs : List (Int × Int)) : List (Int × Int) := (outTo zs zs.length).1 ++ (if (outTo zs zs.length).2 ≤ 99 then [((outTo zs zs.length).2, 100)] else [])
theorem outTo_pre (zs : List (Int × Int)) (k : Nat) : ∀ d, (outTo zs k).1 <+: (outTo zs (k + d)).1
  | 0 => List.prefix_refl _
  | d + 1 => (outTo_pre zs k d).trans ⟨_, rfl⟩
theorem outTo_all (zs : List (Int × Int)) (k : Nat) (hk : k ≤ zs.length) : (outTo zs k).1 <+: outL zs := by
  have := outTo_pre zs k (zs.length - k)
  rw [show k + (zs.length - k) = zs.length from by omega] at this
  exact this.trans ⟨_, rfl⟩
theorem outTo_len (zs : List (Int × Int)) : ∀ k, (outTo zs k).1.length ≤ k
  | 0 => by simp [outTo]
  | k + 1 => by
    have := outTo_len zs k
    simp only [outTo, List.length_append]
    split <;> simp <;> omega
theorem outL_len (zs : List (Int × Int)) : (outL zs).length ≤ zs.length + 1 := by
  have := outTo_len zs zs.length
  simp only [outL, List.length_append]
  split <;> simp <;> omega

theorem outTo_room (zs : List (Int × Int)) (k : Nat) (hk : k < zs.length) (h : (outTo zs k).2 < (zs.getD k (0, 0)).1) : (outTo zs k).1.length < (outL zs).length := by
  have h1 := (outTo_all zs (k + 1) hk).length_le
  simp only [outTo, if_pos h, List.length_append, List.length_cons, List.length_nil] at h1
  omega
theorem outL_room (zs : List (Int × Int)) (h : (outTo zs zs.length).2 ≤ 99) : (outTo zs zs.length).1.length < (outL zs).length := by
  simp [outL, if_pos h]

end Go.Proofs.Ytphinkcfmdnpfaa
namespace Go.Proofs.Ytphinkcfmdnpfaa
open Go.RowKit Go.Shelf

def setLessL (xs ys : List (Int × Int)) : List (Int × Int) := if setOk xs && setOk ys then meetL xs (outL ys) else []
theorem setLessL_len (xs ys : List (Int × Int)) : (setLessL xs ys).length ≤ 10100 := by
  unfold setLessL
  by_cases h : (setOk xs && setOk ys) = true
  · rw [if_pos h]
    simp only [Bool.and_eq_true] at h
    have h1 := meetL_len (outL ys) xs
    have h3 := outL_len ys
    have h4 := setOk_len h.2
    have h2 : xs.length * (outL ys).length ≤ 100 * 101 := Nat.mul_le_mul (setOk_len h.1) (by omega)
    omega
  · rw [if_neg h]; simp

end Go.Proofs.Ytphinkcfmdnpfaa
