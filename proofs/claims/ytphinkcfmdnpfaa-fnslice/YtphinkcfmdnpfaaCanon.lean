/-
  Sets of spans: what is in them, and that those with the same points are the same. No program is named here.
-/
import Derived.Test.YtphinkcfmdnpfaaGets
import Derived.Test.YtphinkcfmdnpfaaHas
namespace Go.Proofs.Ytphinkcfmdnpfaa

def canon : Int → List (Int × Int) → Prop
  | _, [] => True
  | lo, z :: l => lo < z.1 ∧ z.1 < z.2 ∧ z.2 ≤ 100 ∧ canon z.2 l
def has (zs : List (Int × Int)) (p : Int) : Prop := ∃ z ∈ zs, z.1 ≤ p ∧ p < z.2

theorem canon_iff : ∀ (zs : List (Int × Int)) (lo : Int), canon lo zs ↔ ∀ k, k < zs.length → (if k = 0 then lo else (zs.getD (k - 1) (0, 0)).2) < (zs.getD k (0, 0)).1 ∧ (zs.getD k (0, 0)).1 < (zs.getD k (0, 0)).2 ∧ (zs.getD k (0, 0)).2 ≤ 100
  | [], lo => by simp [canon]
  | z :: l, lo => by
    rw [canon, canon_iff l z.2]
    constructor
    · rintro ⟨h1, h2, h3, h4⟩ k hk
      match k with
      | 0 => simpa using ⟨h1, h2, h3⟩
      | 1 => simpa using h4 0 (by simp at hk; omega)
      | k + 2 => simpa using h4 (k + 1) (by simp at hk; omega)
    · intro h
      have h0 := h 0 (by simp)
      simp at h0
      refine ⟨h0.1, h0.2.1, h0.2.2, fun k hk => ?_⟩
      match k with
      | 0 => simpa using h 1 (by simp; omega)
      | k + 1 => simpa using h (k + 2) (by simp; omega)

theorem setOk_iff (zs : List (Int × Int)) : setOk zs = true ↔ canon (-1) zs := by
  rw [canon_iff]
  constructor
  · intro h k hk
    have h1 := setOk_from h k hk
    have h2 := setOk_each h hk
    simp only [okAt, okB, Bool.and_eq_true, Bool.or_eq_true, decide_eq_true_eq, beq_iff_eq] at h2
    refine ⟨?_, h1.2⟩
    split
    · omega
    · omega
  · intro h
    have h0 : ∀ k, k < zs.length → 0 ≤ (zs.getD k (0, 0)).1 := by
      intro k
      induction k with
      | zero => intro hk; have := (h 0 hk).1; simp only [if_true] at this; omega
      | succ k ih => intro hk; have h1 := (h (k + 1) hk).1; have h2 := h k (by omega); have h3 := ih (by omega); simp only [Nat.add_eq_zero_iff, Nat.one_ne_zero, and_false, if_false, Nat.add_sub_cancel] at h1; omega
    refine (setOk_yes fun k hk => ?_).symm
    have h1 := h k hk
    have h2 := h0 k hk
    simp only [okAt, okB, Bool.and_eq_true, Bool.or_eq_true, decide_eq_true_eq, beq_iff_eq]
    refine ⟨⟨h2, h1.2⟩, ?_⟩
    by_cases e : k = 0
    · exact .inl e
    · rw [if_neg e] at h1; exact .inr h1.1

theorem canon_weak {lo lo' : Int} (h : lo' ≤ lo) : ∀ {zs : List (Int × Int)}, canon lo zs → canon lo' zs
  | [], _ => trivial
  | z :: l, hc => ⟨by have := hc.1; omega, hc.2⟩
theorem canon_lo {p : Int} : ∀ {zs : List (Int × Int)} {lo : Int}, canon lo zs → has zs p → lo < p
  | [], _, _, h => by obtain ⟨z, hz, _⟩ := h; simp at hz
  | z :: l, lo, hc, ⟨y, hy, h1, h2⟩ => by
    obtain ⟨c1, c2, c3, c4⟩ := hc
    rcases List.mem_cons.1 hy with rfl | hy
    · omega
    · have := canon_lo c4 ⟨y, hy, h1, h2⟩; omega
theorem has_cons (z : Int × Int) (l : List (Int × Int)) (p : Int) : has (z :: l) p ↔ (z.1 ≤ p ∧ p < z.2) ∨ has l p := by
  simp [has]
theorem has_nil (p : Int) : ¬ has [] p := by simp [has]
theorem has_append (l m : List (Int × Int)) (p : Int) : has (l ++ m) p ↔ has l p ∨ has m p := by
  simp only [has, List.mem_append]
  constructor
  · rintro ⟨z, h | h, hz⟩
    · exact .inl ⟨z, h, hz⟩
    · exact .inr ⟨z, h, hz⟩
  · rintro (⟨z, h, hz⟩ | ⟨z, h, hz⟩)
    · exact ⟨z, .inl h, hz⟩
    · exact ⟨z, .inr h, hz⟩

/-- Sets with the same points are the same. -/
theorem canon_same : ∀ {xs ys : List (Int × Int)} {lo lo' : Int}, canon lo xs → canon lo' ys → (∀ p, has xs p ↔ has ys p) → xs = ys
  | [], [], _, _, _, _, _ => rfl
  | [], y :: m, _, _, _, hy, h => absurd ((h y.1).2 ((has_cons _ _ _).2 (.inl ⟨Int.le_refl _, hy.2.1⟩))) (has_nil _)
  | x :: l, [], _, _, hx, _, h => absurd ((h x.1).1 ((has_cons _ _ _).2 (.inl ⟨Int.le_refl _, hx.2.1⟩))) (has_nil _)
  | (a, b) :: l, (c, d) :: m, lo, lo', hx, hy, h => by
    obtain ⟨x1, x2, x3, x4⟩ := hx
    obtain ⟨y1, y2, y3, y4⟩ := hy
    simp only [] at x1 x2 x3 x4 y1 y2 y3 y4
    have hac : c ≤ a := by
      rcases (has_cons _ _ _).1 ((h a).1 ((has_cons _ _ _).2 (.inl ⟨Int.le_refl _, x2⟩))) with h1 | h1
      · exact h1.1
      · have := canon_lo y4 h1; omega
    have hca : a ≤ c := by
      rcases (has_cons _ _ _).1 ((h c).2 ((has_cons _ _ _).2 (.inl ⟨Int.le_refl _, y2⟩))) with h1 | h1
      · exact h1.1
      · have := canon_lo x4 h1; omega
    obtain rfl : a = c := by omega
    have hbd : d ≤ b := by
      rcases Int.lt_or_le b d with hlt | hge
      · rcases (has_cons _ _ _).1 ((h b).2 ((has_cons _ _ _).2 (.inl ⟨by simp only []; omega, hlt⟩))) with h1 | h1
        · have := h1.2; simp only [] at this; omega
        · have := canon_lo x4 h1; omega
      · exact hge
    have hdb : b ≤ d := by
      rcases Int.lt_or_le d b with hlt | hge
      · rcases (has_cons _ _ _).1 ((h d).1 ((has_cons _ _ _).2 (.inl ⟨by simp only []; omega, hlt⟩))) with h1 | h1
        · have := h1.2; simp only [] at this; omega
        · have := canon_lo y4 h1; omega
      · exact hge
    obtain rfl : b = d := by omega
    rw [canon_same x4 y4 fun p => ?_]
    constructor
    · intro hp
      have h1 := canon_lo x4 hp
      rcases (has_cons _ _ _).1 ((h p).1 ((has_cons _ _ _).2 (.inr hp))) with h2 | h2
      · have := h2.2; simp only [] at this; omega
      · exact h2
    · intro hp
      have h1 := canon_lo y4 hp
      rcases (has_cons _ _ _).1 ((h p).2 ((has_cons _ _ _).2 (.inr hp))) with h2 | h2
      · have := h2.2; simp only [] at this; omega
      · exact h2

theorem has_meetOne (x : Int × Int) (p : Int) : ∀ ys : List (Int × Int), has (meetOne x ys) p ↔ (x.1 ≤ p ∧ p < x.2) ∧ has ys p
  | [] => by simp [meetOne, has]
  | y :: ys => by
    rw [has_cons, meetOne]
    by_cases h : mB x.1 x.2 y.1 y.2 = true
    · rw [if_pos h, has_cons, has_meetOne x p ys]
      simp only [mB, decide_eq_true_eq] at h
      simp only [mF, mT, if_pos h]
      constructor
      · rintro (h1 | ⟨h1, h2⟩)
        · exact ⟨by omega, .inl (by omega)⟩
        · exact ⟨h1, .inr h2⟩
      · rintro ⟨h1, h2 | h2⟩
        · exact .inl (by omega)
        · exact .inr ⟨h1, h2⟩
    · rw [if_neg h, has_meetOne x p ys]
      simp only [mB, decide_eq_true_eq] at h
      constructor
      · rintro ⟨h1, h2⟩; exact ⟨h1, .inr h2⟩
      · rintro ⟨h1, h2 | h2⟩
        · exact absurd (show max x.1 y.1 < min x.2 y.2 by omega) h
        · exact ⟨h1, h2⟩
theorem has_meetL (ys : List (Int × Int)) (p : Int) : ∀ xs : List (Int × Int), has (meetL xs ys) p ↔ has xs p ∧ has ys p
  | [] => by simp [meetL, has]
  | x :: xs => by
    have e : meetL (x :: xs) ys = meetOne x ys ++ meetL xs ys := by simp [meetL]
    rw [e, has_append, has_meetOne, has_meetL ys p xs, has_cons]
    constructor
    · rintro (⟨h1, h2⟩ | ⟨h1, h2⟩)
      · exact ⟨.inl h1, h2⟩
      · exact ⟨.inr h1, h2⟩
    · rintro ⟨h1 | h1, h2⟩
      · exact .inl ⟨h1, h2⟩
      · exact .inr ⟨h1, h2⟩

theorem canon_meetOne (x : Int × Int) (hx : x.2 ≤ 100) : ∀ (ys : List (Int × Int)) (lo m : Int), canon lo ys → (m < x.1 ∨ m ≤ lo) → canon m (meetOne x ys)
  | [], _, _, _, _ => trivial
  | y :: ys, lo, m, hy, hm => by
    obtain ⟨y1, y2, y3, y4⟩ := hy
    rw [meetOne]
    by_cases h : mB x.1 x.2 y.1 y.2 = true
    · rw [if_pos h]
      simp only [mB, decide_eq_true_eq] at h
      simp only [mF, mT, if_pos h]
      exact ⟨by simp only []; omega, by simp only []; omega, by simp only []; omega, canon_meetOne x hx ys y.2 _ y4 (.inr (by simp only []; omega))⟩
    · rw [if_neg h]
      exact canon_meetOne x hx ys y.2 m y4 (by omega)
theorem meetOne_to (x : Int × Int) : ∀ (ys : List (Int × Int)), ∀ z ∈ meetOne x ys, z.2 ≤ x.2
  | [], z, hz => by simp [meetOne] at hz
  | y :: ys, z, hz => by
    rw [meetOne] at hz
    by_cases h : mB x.1 x.2 y.1 y.2 = true
    · rw [if_pos h] at hz
      rcases List.mem_cons.1 hz with rfl | hz
      · simp only [mB, decide_eq_true_eq] at h
        simp only [mT, if_pos h]
        omega
      · exact meetOne_to x ys z hz
    · rw [if_neg h] at hz
      exact meetOne_to x ys z hz
theorem canon_append {u : Int} {m : List (Int × Int)} (hm : canon u m) : ∀ {l : List (Int × Int)} {lo : Int}, canon lo l → (∀ z ∈ l, z.2 ≤ u) → lo ≤ u → canon lo (l ++ m)
  | [], _, _, _, h => canon_weak h hm
  | z :: _, _, hl, hz, _ => ⟨hl.1, hl.2.1, hl.2.2.1, canon_append hm hl.2.2.2 (fun y hy => hz y (List.mem_cons_of_mem _ hy)) (hz z (List.mem_cons_self ..))⟩
theorem canon_meetL {ys : List (Int × Int)} {lo' : Int} (hy : canon lo' ys) : ∀ {xs : List (Int × Int)} {lo : Int}, canon lo xs → canon lo (meetL xs ys)
  | [], _, _ => by simp [meetL, canon]
  | x :: xs, lo, hx => by
    have e : meetL (x :: xs) ys = meetOne x ys ++ meetL xs ys := by simp [meetL]
    rw [e]
    exact canon_append (canon_meetL hy hx.2.2.2) (canon_meetOne x hx.2.2.1 ys lo' lo hy (.inl hx.1)) (meetOne_to x ys) (by have := hx.1; have := hx.2.1; omega)

theorem meetL_ok {xs ys : List (Int × Int)} (hx : setOk xs = true) (hy : setOk ys = true) : setOk (meetL xs ys) = true :=
  (setOk_iff _).2 (canon_meetL ((setOk_iff _).1 hy) ((setOk_iff _).1 hx))
theorem meetL_comm {xs ys : List (Int × Int)} (hx : setOk xs = true) (hy : setOk ys = true) : meetL ys xs = meetL xs ys :=
  canon_same ((setOk_iff _).1 (meetL_ok hy hx)) ((setOk_iff _).1 (meetL_ok hx hy)) fun p => by rw [has_meetL, has_meetL, and_comm]
theorem meetL_self {xs : List (Int × Int)} (hx : setOk xs = true) : meetL xs xs = xs :=
  canon_same ((setOk_iff _).1 (meetL_ok hx hx)) ((setOk_iff _).1 hx) fun p => by rw [has_meetL, and_self]
theorem setHas_iff {zs : List (Int × Int)} (h : setOk zs = true) (p : Int) : setHas zs p = true ↔ has zs p := by
  rw [setHas, h, Bool.true_and, List.any_eq_true]
  constructor
  · rintro ⟨k, hk, hh⟩
    have hk' : k < zs.length := by simpa using hk
    simp only [hasAt, hasB, decide_eq_true_eq] at hh
    exact ⟨zs.getD k (0, 0), by simp [hk'], hh⟩
  · rintro ⟨z, hz, hh⟩
    obtain ⟨k, hk, rfl⟩ := List.mem_iff_getElem.1 hz
    exact ⟨k, by simpa using hk, by simp [hasAt, hasB, hk]; exact hh⟩
theorem setHas_meetL {xs ys : List (Int × Int)} (hx : setOk xs = true) (hy : setOk ys = true) (p : Int) : setHas (meetL xs ys) p = (setHas xs p && setHas ys p) := by
  rw [Bool.eq_iff_iff, Bool.and_eq_true, setHas_iff (meetL_ok hx hy), setHas_iff hx, setHas_iff hy, has_meetL]
end Go.Proofs.Ytphinkcfmdnpfaa
