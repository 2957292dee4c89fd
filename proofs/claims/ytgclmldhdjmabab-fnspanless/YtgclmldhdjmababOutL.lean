/-
  The points that a set lacks. No program is named here.
-/
import Derived.Test.YtgclmldhdjmababOut
namespace Go.Proofs.Ytgclmldhdjmabab

def outF : Int → List (Int × Int) → List (Int × Int)
  | f, [] => if f ≤ 99 then [(f, 100)] else []
  | f, z :: l => (if f < z.1 then [(f, z.1)] else []) ++ outF z.2 l
theorem outF_to (zs : List (Int × Int)) : ∀ k, k ≤ zs.length → (outTo zs k).1 ++ outF (outTo zs k).2 (zs.drop k) = outF 0 zs
  | 0, _ => by simp [outTo]
  | k + 1, hk => by
    have hd : zs.drop k = zs[k] :: zs.drop (k + 1) := List.drop_eq_getElem_cons (by omega)
    rw [← outF_to zs k (by omega), hd, outF]
    simp only [outTo, show zs.getD k (0, 0) = zs[k] from by simp [show k < zs.length by omega], List.append_assoc]
theorem outL_eq (zs : List (Int × Int)) : outL zs = outF 0 zs := by
  rw [← outF_to zs zs.length (Nat.le_refl _), List.drop_length]
  rfl
theorem has_outF (p : Int) : ∀ (zs : List (Int × Int)) (f : Int), canon (f - 1) zs → f ≤ 100 → (has (outF f zs) p ↔ f ≤ p ∧ p < 100 ∧ ¬ has zs p)
  | [], f, _, hf => by
    by_cases h : f ≤ 99 <;> simp [outF, h, has_cons, has_nil] <;> omega
  | z :: l, f, hc, hf => by
    obtain ⟨c1, c2, c3, c4⟩ := hc
    rw [outF, has_append, has_outF p l z.2 (canon_weak (by omega) c4) c3, has_cons]
    have hl : has l p → z.2 < p := fun h => canon_lo c4 h
    by_cases h : f < z.1
    · rw [if_pos h, has_cons]
      by_cases hp : has l p
      · have := hl hp
        simp only [hp, has_nil, not_true, and_false, or_false, or_true, iff_false]
        omega
      · simp only [hp, has_nil, not_false_iff, and_true, or_false]
        omega
    · rw [if_neg h]
      by_cases hp : has l p
      · simp only [hp, has_nil, not_true, and_false, or_false, or_true]
      · simp only [hp, has_nil, not_false_iff, and_true, or_false, false_or]
        omega
theorem canon_outF : ∀ (zs : List (Int × Int)) (f : Int), canon (f - 1) zs → f ≤ 100 → canon (f - 1) (outF f zs)
  | [], f, _, hf => by
    by_cases h : f ≤ 99 <;> simp [outF, h, canon] <;> omega
  | z :: l, f, hc, hf => by
    obtain ⟨c1, c2, c3, c4⟩ := hc
    have ih := canon_outF l z.2 (canon_weak (by omega) c4) c3
    rw [outF]
    by_cases h : f < z.1
    · rw [if_pos h]
      exact ⟨by simp only []; omega, h, by simp only []; omega, canon_weak (by simp only []; omega) ih⟩
    · rw [if_neg h]
      exact canon_weak (by omega) ih
theorem has_outL {zs : List (Int × Int)} (h : setOk zs = true) (p : Int) : has (outL zs) p ↔ 0 ≤ p ∧ p < 100 ∧ ¬ has zs p := by
  rw [outL_eq]
  exact has_outF p zs 0 (by simpa using (setOk_iff zs).1 h) (by omega)
theorem canon_outL {zs : List (Int × Int)} (h : setOk zs = true) : canon (-1) (outL zs) := by
  rw [outL_eq]
  simpa using canon_outF zs 0 (by simpa using (setOk_iff zs).1 h) (by omega)
end Go.Proofs.Ytgclmldhdjmabab
