/-
  Plain: what is told stamp by stamp: stamps rise, texts change, and at each stamp it is what was told last.
-/
import Derived.Test.YtkalanjgjeijbaaTrcC
namespace Go.Proofs.Ytkalanjgjeijbaa
open Go.RowKit

theorem trUp_stamps (f : Nat → ByteArray) : ∀ n, ∀ x ∈ trUp f n, 1 ≤ x.k ∧ x.k ≤ n
  | 0, x, h => by cases h
  | n + 1, x, h => by
    rw [trUp_next] at h
    have ih := trUp_stamps f n
    by_cases hq : ((f (n + 1)).toList == (lastF f n).toList) = true
    · rw [if_pos hq] at h
      have := ih x h
      omega
    · rw [if_neg hq] at h
      rcases List.mem_append.1 h with h | h
      · have := ih x h
        omega
      · obtain rfl := List.mem_singleton.1 h
        show 1 ≤ ((n + 1 : Nat) : Int) ∧ ((n + 1 : Nat) : Int) ≤ _
        omega
theorem trUp_rise (f : Nat → ByteArray) : ∀ n, (trUp f n).Pairwise (fun x y => x.k < y.k)
  | 0 => List.Pairwise.nil
  | n + 1 => by
    rw [trUp_next]
    have ih := trUp_rise f n
    by_cases hq : ((f (n + 1)).toList == (lastF f n).toList) = true
    · rw [if_pos hq]; exact ih
    · rw [if_neg hq, List.pairwise_append]
      refine ⟨ih, List.pairwise_singleton _ _, fun x hx y hy => ?_⟩
      obtain rfl := List.mem_singleton.1 hy
      have := trUp_stamps f n x hx
      show x.k < ((n + 1 : Nat) : Int)
      omega
theorem trUp_last {f : Nat → ByteArray} {n : Nat} {l : List TraV} {z : TraV} (h : trUp f n = l ++ [z]) : z.t = lastF f n := by
  have hz := trUp_stamps f n z (by rw [h]; simp)
  have h1 := trUp_at f n n (Int.le_refl _)
  rw [h, traAt_snoc, if_pos hz.2] at h1
  exact h1
theorem trUp_differ (f : Nat → ByteArray) : ∀ (n k : Nat) (x y : TraV), (trUp f n)[k]? = some x → (trUp f n)[k + 1]? = some y → x.t ≠ y.t
  | 0, k, x, y, hx, _ => by simp [trUp] at hx
  | n + 1, k, x, y, hx, hy => by
    rw [trUp_next] at hx hy
    by_cases hq : ((f (n + 1)).toList == (lastF f n).toList) = true
    · rw [if_pos hq] at hx hy
      exact trUp_differ f n k x y hx hy
    · rw [if_neg hq] at hx hy
      by_cases hk : k + 1 < (trUp f n).length
      · rw [List.getElem?_append_left (by omega)] at hx
        rw [List.getElem?_append_left hk] at hy
        exact trUp_differ f n k x y hx hy
      · rw [List.getElem?_append_right (by omega)] at hy
        have hkl : k + 1 = (trUp f n).length := by
          have := (List.getElem?_eq_some_iff.1 hy).1
          simp at this
          omega
        rw [show k + 1 - (trUp f n).length = 0 from by omega] at hy
        obtain rfl : (⟨((n + 1 : Nat) : Int), f (n + 1)⟩ : TraV) = y := by simpa using hy
        rw [List.getElem?_append_left (by omega)] at hx
        have hl : trUp f n = (trUp f n).take k ++ [x] := by
          have := List.take_succ_eq_append_getElem (show k < (trUp f n).length from by omega)
          rw [List.take_of_length_le (by omega)] at this
          rw [← (List.getElem?_eq_some_iff.1 hx).2]
          exact this
        have ht := trUp_last hl
        intro e
        exact hq (same_key.2 (by rw [← ht, e]))
theorem trUp_rises {f : Nat → ByteArray} {n k : Nat} {x y : TraV} (hx : (trUp f n)[k]? = some x) (hy : (trUp f n)[k + 1]? = some y) : x.k < y.k := by
  obtain ⟨h1, rfl⟩ := List.getElem?_eq_some_iff.1 hx
  obtain ⟨h2, rfl⟩ := List.getElem?_eq_some_iff.1 hy
  exact List.pairwise_iff_getElem.1 (trUp_rise f n) k (k + 1) h1 h2 (by omega)
theorem trUp_told (f : Nat → ByteArray) : ∀ (n m : Nat), m ≤ n → traAt (trUp f n) m = lastF f m
  | 0, m, h => by
    obtain rfl : m = 0 := (by omega)
    rfl
  | n + 1, m, h => by
    by_cases hm : m = n + 1
    · subst hm; exact trUp_at f (n + 1) _ (Int.le_refl _)
    · rw [trUp_next]
      by_cases hq : ((f (n + 1)).toList == (lastF f n).toList) = true
      · rw [if_pos hq]; exact trUp_told f n m (by omega)
      · rw [if_neg hq, traAt_snoc, if_neg (by show ¬ ((n + 1 : Nat) : Int) ≤ (m : Int); omega)]
        exact trUp_told f n m (by omega)
theorem trUp_at_own {f : Nat → ByteArray} {n k : Nat} {x : TraV} (hx : (trUp f n)[k]? = some x) : traAt (trUp f n) x.k = x.t := by
  refine traAt_hit hx (Int.le_refl _) fun y hy => ?_
  obtain ⟨hk, rfl⟩ := List.getElem?_eq_some_iff.1 hx
  obtain ⟨j, hj, rfl⟩ := List.mem_iff_getElem.1 hy
  rw [List.getElem_drop]
  rw [List.length_drop] at hj
  have := List.pairwise_iff_getElem.1 (trUp_rise f n) k (k + 1 + j) hk (by omega) (by omega)
  omega
theorem trUp_zero (f : Nat → ByteArray) (n : Nat) : traAt (trUp f n) 0 = ⟨#[]⟩ := traAt_none fun y hy => by
  have := trUp_stamps f n y hy
  omega
end Go.Proofs.Ytkalanjgjeijbaa
