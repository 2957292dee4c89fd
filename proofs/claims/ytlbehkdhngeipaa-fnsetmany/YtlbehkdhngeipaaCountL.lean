/-
  Plain lemmas: a set has as many points as its spans are long.
-/
import Derived.Test.YtlbehkdhngeipaaHas
namespace Go.Proofs.Ytlbehkdhngeipaa

theorem setOk_next {zs : List (Int × Int)} (h : setOk zs = true) (k : Nat) (hk : k + 1 < zs.length) : (zs.getD k (0, 0)).2 < (zs.getD (k + 1) (0, 0)).1 := by
  rw [setOk, List.all_eq_true] at h
  have := h (k + 1) (by simpa using hk)
  rw [okAt, Bool.and_eq_true] at this
  have h2 := this.2
  simp at h2
  simpa using h2
theorem setOk_far {zs : List (Int × Int)} (h : setOk zs = true) (i : Nat) : ∀ d, i + 1 + d < zs.length → (zs.getD i (0, 0)).2 < (zs.getD (i + 1 + d) (0, 0)).1
  | 0, hd => setOk_next h i hd
  | d + 1, hd => by
    have h1 := setOk_far h i d (by omega)
    have h2 := setOk_at h (i + 1 + d) (by omega)
    have h3 := setOk_next h (i + 1 + d) (by omega)
    rw [show i + 1 + (d + 1) = i + 1 + d + 1 from by omega]
    omega

/-- How far a span is covered ahead of m. -/
def cl (zs : List (Int × Int)) (i : Nat) (m : Int) : Int := if m ≤ (zs.getD i (0, 0)).1 then 0 else if m ≤ (zs.getD i (0, 0)).2 then m - (zs.getD i (0, 0)).1 else (zs.getD i (0, 0)).2 - (zs.getD i (0, 0)).1
def clTo (zs : List (Int × Int)) (m : Int) : Nat → Int
  | 0 => 0
  | k + 1 => clTo zs m k + cl zs k m
def oneTo (zs : List (Int × Int)) (m : Int) : Nat → Int
  | 0 => 0
  | k + 1 => oneTo zs m k + (if hasAt zs m k then 1 else 0)

theorem cl_step {zs : List (Int × Int)} (i : Nat) (m : Int) (h : (zs.getD i (0, 0)).1 < (zs.getD i (0, 0)).2) : cl zs i (m + 1) = cl zs i m + (if hasAt zs m i then 1 else 0) := by
  unfold cl hasAt hasB
  generalize (zs.getD i (0, 0)).1 = f at *
  generalize (zs.getD i (0, 0)).2 = t at *
  simp only [decide_eq_true_eq]
  split <;> split <;> (try split) <;> (try split) <;> (try split) <;> omega
theorem clTo_step {zs : List (Int × Int)} (h : setOk zs = true) (m : Int) : ∀ k, k ≤ zs.length → clTo zs (m + 1) k = clTo zs m k + oneTo zs m k
  | 0, _ => rfl
  | k + 1, hk => by
    rw [clTo, clTo, oneTo, clTo_step h m k (by omega), cl_step k m (setOk_at h k (by omega)).2.1]
    omega
theorem one_at {zs : List (Int × Int)} (h : setOk zs = true) (m : Int) : ∀ k, k ≤ zs.length → oneTo zs m k = if (List.range k).any (hasAt zs m) then 1 else 0
  | 0, _ => rfl
  | k + 1, hk => by
    rw [oneTo, one_at h m k (by omega), List.range_succ, List.any_append]
    by_cases h1 : (List.range k).any (hasAt zs m) = true
    · rw [h1]
      obtain ⟨i, hi, hh⟩ := List.any_eq_true.1 h1
      have hi' : i < k := by simpa using hi
      have hno : hasAt zs m k = false := by
        have hf := setOk_far h i (k - i - 1) (by omega)
        rw [show i + 1 + (k - i - 1) = k from by omega] at hf
        have h2 : (zs.getD i (0, 0)).1 ≤ m ∧ m < (zs.getD i (0, 0)).2 := of_decide_eq_true hh
        unfold hasAt hasB
        rw [decide_eq_false_iff_not]
        omega
      simp [hno]
    · have h1' : (List.range k).any (hasAt zs m) = false := by simpa using h1
      rw [h1']
      simp
theorem clTo_zero {zs : List (Int × Int)} (h : setOk zs = true) : ∀ k, k ≤ zs.length → clTo zs 0 k = 0
  | 0, _ => rfl
  | k + 1, hk => by
    have := setOk_at h k (by omega)
    rw [clTo, clTo_zero h k (by omega), cl, if_pos this.1]
    rfl
theorem clTo_all {zs : List (Int × Int)} (h : setOk zs = true) : ∀ k, k ≤ zs.length → clTo zs 100 k = sumTo zs k
  | 0, _ => rfl
  | k + 1, hk => by
    have := setOk_at h k (by omega)
    rw [clTo, clTo_all h k (by omega), sumTo, cl, if_neg (by omega)]
    split <;> omega

/-- How many points ahead of m are in the set. -/
def cntTo (zs : List (Int × Int)) : Nat → Int
  | 0 => 0
  | m + 1 => cntTo zs m + (if setHas zs m then 1 else 0)
theorem cnt_cl {zs : List (Int × Int)} (h : setOk zs = true) : ∀ m : Nat, cntTo zs m = clTo zs m zs.length
  | 0 => (clTo_zero h _ (Nat.le_refl _)).symm
  | m + 1 => by
    rw [cntTo, cnt_cl h m, show ((m + 1 : Nat) : Int) = (m : Int) + 1 from by omega, clTo_step h m _ (Nat.le_refl _), one_at h m _ (Nat.le_refl _)]
    simp [setHas, h]
theorem cnt_many {zs : List (Int × Int)} (h : setOk zs = true) : cntTo zs 100 = setMany zs := by
  rw [cnt_cl h 100, setMany, h]
  exact clTo_all h _ (Nat.le_refl _)
theorem cnt_bd (zs : List (Int × Int)) : ∀ m : Nat, 0 ≤ cntTo zs m ∧ cntTo zs m ≤ m
  | 0 => by simp [cntTo]
  | m + 1 => by
    have := cnt_bd zs m
    rw [cntTo]
    split <;> omega
end Go.Proofs.Ytlbehkdhngeipaa
