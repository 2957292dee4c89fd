/-
  Walks: what is left of a set, and of a span.
-/
import Derived.Test.YtphinkcfmdnpfaaJoinL
import Derived.Test.YtphinkcfmdnpfaaCommonN
namespace Go.Proofs.Ytphinkcfmdnpfaa
open Go.RowKit Go.Shelf

attribute [local go_sem] Oper.semAt_some

def outTo (zs : List (Int × Int)) : Nat → List (Int × Int) × Int
  | 0 => ([], 0)
  | k + 1 => ((outTo zs k).1 ++ (if (outTo zs k).2 < (zs.getD k (0, 0)).1 then [((outTo zs k).2, (zs.getD k (0, 0)).1)] else []), (zs.getD k (0, 0)).2)
def outL (zs : List (Int × Int)) : List (Int × Int) := (outTo zs zs.length).1 ++ (if (outTo zs zs.length).2 ≤ 99 then [((outTo zs zs.length).2, 100)] else [])
theorem outTo_pre (zs : List (Int × Int)) (k : Nat) : ∀ d, (outTo zs k).1 <+: (outTo zs (k + d)).1
  | 0 => List.prefix_refl _
  | d + 1 => (outTo_pre zs k d).trans ⟨_, rfl⟩
theorem outTo_all (zs : List (Int × Int)) (k : Nat) (hk : k ≤ zs.length) : (outTo zs k).1 <+: outL zs := by
  have := outTo_pre zs k (zs.length - k)
  rw [show k + (zs.length - k) = zs.length from by omega] at this
  exact this.trans ⟨_, rfl⟩
theorem outTo_len (zs : List (Int × Int)) : ∀ k, (outTo zs k).1.length ≤ k
  | 0 => by simp [outTo]
  | k + 1 => by
    have := outTo_len zs k
    simp only [outTo, List.length_append]
    split <;> simp <;> omega
theorem outL_len (zs : List (Int × Int)) : (outL zs).length ≤ zs.length + 1 := by
  have := outTo_len zs zs.length
  simp only [outL, List.length_append]
  split <;> simp <;> omega

theorem outTo_room (zs : List (Int × Int)) (k : Nat) (hk : k < zs.length) (h : (outTo zs k).2 < (zs.getD k (0, 0)).1) : (outTo zs k).1.length < (outL zs).length := by
  have h1 := (outTo_all zs (k + 1) hk).length_le
  simp only [outTo, if_pos h, List.length_append, List.length_cons, List.length_nil] at h1
  omega
theorem outL_room (zs : List (Int × Int)) (h : (outTo zs zs.length).2 ≤ 99) : (outTo zs zs.length).1.length < (outL zs).length := by
  simp [outL, if_pos h]

end Go.Proofs.Ytphinkcfmdnpfaa
namespace Go.Proofs.Ytphinkcfmdnpfaa

def outF : Int → List (Int × Int) → List (Int × Int)
  | f, [] => if f ≤ 99 then [(f, 100)] else []
  | f, z :: l => (if f < z.1 then [(f, z.1)] else []) ++ outF z.2 l
theorem outF_to (zs : List (Int × Int)) : ∀ k, k ≤ zs.length → (outTo zs k).1 ++ outF (outTo zs k).2 (zs.drop k) = outF 0 zs
  | 0, _ => by simp [outTo]
  | k + 1, hk => by
    have hd : zs.drop k = zs[k] :: zs.drop (k + 1) := List.drop_eq_getElem_cons (by omega)
    rw [← outF_to zs k (by omega), hd, outF]
    simp only [outTo, show zs.getD k (0, 0) = zs[k] from by simp [show k < zs.length by omega], List.append_assoc]
theorem outL_eq (zs : List (Int × Int)) : outL zs = outF 0 zs := by
  rw [← outF_to zs zs.length (Nat.le_refl _), List.drop_length]
  rfl
theorem has_outF (p : Int) : ∀ (zs : List (Int × Int)) (f : Int), canon (f - 1) zs → f ≤ 100 → (has (outF f zs) p ↔ f ≤ p ∧ p < 100 ∧ ¬ has zs p)
  | [], f, _, hf => by
    by_cases h : f ≤ 99 <;> simp [outF, h, has_cons, has_nil] <;> omega
  | z :: l, f, hc, hf => by
    obtain ⟨c1, c2, c3, c4⟩ := hc
    rw [outF, has_append, has_outF p l z.2 (canon_weak (by omega) c4) c3, has_cons]
    have hl : has l p → z.2 < p := fun h => canon_lo c4 h
    by_cases h : f < z.1
    · rw [if_pos h, has_cons]
      by_cases hp : has l p
      · have := hl hp
        simp only [hp, has_nil, not_true, and_false, or_false, or_true, iff_false]
        omega
      · simp only [hp, has_nil, not_false_iff, and_true, or_false]
        omega
    · rw [if_neg h]
      by_cases hp : has l p
      · simp only [hp, has_nil, not_true, and_false, or_false, or_true]
      · simp only [hp, has_nil, not_false_iff, and_true, or_false, false_or]
        omega
theorem canon_outF : ∀ (zs : List (Int × Int)) (f : Int), canon (f - 1) zs → f ≤ 100 → canon (f - 1) (outF f zs)
  | [], f, _, hf => by
    by_cases h : f ≤ 99 <;> simp [outF, h, canon] <;> omega
  | z :: l, f, hc, hf => by
    obtain ⟨c1, c2, c3, c4⟩ := hc
    have ih := canon_outF l z.2 (canon_weak (by omega) c4) c3
    rw [outF]
    by_cases h : f < z.1
    · rw [if_pos h]
      exact ⟨by simp only []; omega, h, by simp only []; omega, canon_weak (by simp only []; omega) ih⟩
    · rw [if_neg h]
      exact canon_weak (by omega) ih
theorem has_outL {zs : List (Int × Int)} (h : setOk zs = true) (p : Int) : has (outL zs) p ↔ 0 ≤ p ∧ p < 100 ∧ ¬ has zs p := by
  rw [outL_eq]
  exact has_outF p zs 0 (by simpa using (setOk_iff zs).1 h) (by omega)
theorem canon_outL {zs : List (Int × Int)} (h : setOk zs = true) : canon (-1) (outL zs) := by
  rw [outL_eq]
  simpa using canon_outF zs 0 (by simpa using (setOk_iff zs).1 h) (by omega)
end Go.Proofs.Ytphinkcfmdnpfaa
namespace Go.Proofs.Ytphinkcfmdnpfaa
open Go.RowKit Go.Shelf

def setLessL (xs ys : List (Int × Int)) : List (Int × Int) := if setOk xs && setOk ys then meetL xs (outL ys) else []
theorem setLessL_len (xs ys : List (Int × Int)) : (setLessL xs ys).length ≤ 10100 := by
  unfold setLessL
  by_cases h : (setOk xs && setOk ys) = true
  · rw [if_pos h]
    simp only [Bool.and_eq_true] at h
    have h1 := meetL_len (outL ys) xs
    have h3 := outL_len ys
    have h4 := setOk_len h.2
    have h2 : xs.length * (outL ys).length ≤ 100 * 101 := Nat.mul_le_mul (setOk_len h.1) (by omega)
    omega
  · rw [if_neg h]; simp

end Go.Proofs.Ytphinkcfmdnpfaa
