/-
  What is left of a set, span by span: the same as what is common with the points that the other lacks. No program is named here.
-/
import Derived.Test.YtphinkcfmdnpfaaLess
import Derived.Test.YtphinkcfmdnpfaaSpanK
namespace Go.Proofs.Ytphinkcfmdnpfaa
open Go.RowKit Go.Shelf

theorem spans_one {w : World} {g : Nat} {a b : Int} (h0 : w.cell? ⟨g, 0, none⟩ = some (.int .i64 a)) (h1 : w.cell? ⟨g, 1, none⟩ = some (.int .i64 b)) : Spans w (some ⟨g, 0, none⟩) [(a, b)] := fun _ =>
  ⟨g, 0, rfl, fun i hi => by
    obtain rfl : i = 0 := by simp at hi; omega
    exact ⟨by simpa using h0, by simpa using h1⟩⟩

end Go.Proofs.Ytphinkcfmdnpfaa
namespace Go.Proofs.Ytphinkcfmdnpfaa

def subOne (y : Int × Int) (xs : List (Int × Int)) : List (Int × Int) := xs.flatMap fun x => lessOne x y
def subL (xs ys : List (Int × Int)) : List (Int × Int) := ys.foldl (fun acc y => subOne y acc) xs

theorem has_lessOne (x y : Int × Int) (p : Int) (hx : x.1 < x.2) (hy : y.1 < y.2) : has (lessOne x y) p ↔ (x.1 ≤ p ∧ p < x.2) ∧ ¬ (y.1 ≤ p ∧ p < y.2) := by
  by_cases hm : max x.1 y.1 < min x.2 y.2 <;> by_cases g1 : x.1 < y.1 <;> by_cases g2 : y.2 < x.2 <;> simp [lessOne, mB, hm, g1, g2, has_cons, has_nil] <;> omega
theorem canon_lessOne (x y : Int × Int) (lo : Int) (h0 : lo < x.1) (hx : x.1 < x.2) (hx' : x.2 ≤ 100) (hy : y.1 < y.2) : canon lo (lessOne x y) := by
  by_cases hm : max x.1 y.1 < min x.2 y.2 <;> by_cases g1 : x.1 < y.1 <;> by_cases g2 : y.2 < x.2 <;> simp [lessOne, mB, hm, g1, g2, canon] <;> omega
theorem lessOne_to (x y : Int × Int) : ∀ z ∈ lessOne x y, z.2 ≤ x.2 := by
  intro z hz
  by_cases hm : max x.1 y.1 < min x.2 y.2 <;> by_cases g1 : x.1 < y.1 <;> by_cases g2 : y.2 < x.2 <;> simp [lessOne, mB, hm, g1, g2] at hz
  all_goals first | (rcases hz with rfl | rfl <;> simp only [] <;> omega) | (subst hz; simp only []; omega) | (subst hz; omega) | omega
theorem subOne_cons (y x : Int × Int) (xs : List (Int × Int)) : subOne y (x :: xs) = lessOne x y ++ subOne y xs := by simp [subOne]
theorem has_subOne (y : Int × Int) (p : Int) (hy : y.1 < y.2) : ∀ (xs : List (Int × Int)) (lo : Int), canon lo xs → (has (subOne y xs) p ↔ has xs p ∧ ¬ (y.1 ≤ p ∧ p < y.2))
  | [], _, _ => by simp [subOne, has_nil]
  | x :: xs, lo, hc => by
    obtain ⟨c1, c2, c3, c4⟩ := hc
    rw [subOne_cons, has_append, has_lessOne x y p c2 hy, has_subOne y p hy xs x.2 c4, has_cons]
    constructor
    · rintro (⟨h1, h2⟩ | ⟨h1, h2⟩)
      · exact ⟨.inl h1, h2⟩
      · exact ⟨.inr h1, h2⟩
    · rintro ⟨h1 | h1, h2⟩
      · exact .inl ⟨h1, h2⟩
      · exact .inr ⟨h1, h2⟩
theorem canon_subOne (y : Int × Int) (hy : y.1 < y.2) : ∀ (xs : List (Int × Int)) (lo : Int), canon lo xs → canon lo (subOne y xs)
  | [], _, _ => by simp [subOne, canon]
  | x :: xs, lo, hc => by
    obtain ⟨c1, c2, c3, c4⟩ := hc
    rw [subOne_cons]
    exact canon_append (canon_subOne y hy xs x.2 c4) (canon_lessOne x y lo c1 c2 c3 hy) (lessOne_to x y) (by omega)
theorem has_subL (p : Int) : ∀ (ys xs : List (Int × Int)) (lo lo' : Int), canon lo xs → canon lo' ys → (has (subL xs ys) p ↔ has xs p ∧ ¬ has ys p) ∧ canon lo (subL xs ys)
  | [], xs, lo, _, hx, _ => by simp [subL, has_nil, hx]
  | y :: ys, xs, lo, lo', hx, hy => by
    have e : subL xs (y :: ys) = subL (subOne y xs) ys := rfl
    obtain ⟨h1, h2⟩ := has_subL p ys (subOne y xs) lo y.2 (canon_subOne y hy.2.1 xs lo hx) hy.2.2.2
    rw [e]
    refine ⟨?_, h2⟩
    rw [h1, has_subOne y p hy.2.1 xs lo hx, has_cons]
    constructor
    · rintro ⟨⟨h3, h4⟩, h5⟩
      exact ⟨h3, fun h => h.elim h4 h5⟩
    · rintro ⟨h3, h4⟩
      exact ⟨⟨h3, fun h => h4 (.inl h)⟩, fun h => h4 (.inr h)⟩
theorem canon_hi {p : Int} : ∀ {zs : List (Int × Int)} {lo : Int}, canon lo zs → has zs p → p < 100
  | [], _, _, h => absurd h (has_nil p)
  | z :: l, lo, hc, h => by
    obtain ⟨c1, c2, c3, c4⟩ := hc
    rcases (has_cons _ _ _).1 h with h1 | h1
    · omega
    · exact canon_hi c4 h1
/-- The two ways to say what is left of a set. -/
theorem less_eq {xs ys : List (Int × Int)} (hx : setOk xs = true) (hy : setOk ys = true) : meetL xs (outL ys) = subL xs ys := by
  have cx := (setOk_iff xs).1 hx
  have cy := (setOk_iff ys).1 hy
  refine canon_same (canon_meetL (canon_outL hy) cx) (has_subL 0 ys xs _ _ cx cy).2 fun p => ?_
  rw [has_meetL, has_outL hy, (has_subL p ys xs _ _ cx cy).1]
  constructor
  · rintro ⟨h1, _, _, h4⟩; exact ⟨h1, h4⟩
  · rintro ⟨h1, h2⟩
    have h3 := canon_lo cx h1
    have h4 := canon_hi cx h1
    exact ⟨h1, by omega, h4, h2⟩
end Go.Proofs.Ytphinkcfmdnpfaa
