/-
  Plain lemmas: spans in order become a set; a span put into a set. No program is named here.
-/
import Derived.Test.YtphinkcfmdnpfaaGets
import Derived.Test.YtphinkcfmdnpfaaHas
import Derived.Test.YtphinkcfmdnpfaaAddL
namespace Go.Proofs.Ytphinkcfmdnpfaa

def canon : Int → List (Int × Int) → Prop
  | _, [] => True
  | lo, z :: l => lo < z.1 ∧ z.1 < z.2 ∧ z.2 ≤ 100 ∧ canon z.2 l
def has (zs : List (Int × Int)) (p : Int) : Prop := ∃ z ∈ zs, z.1 ≤ p ∧ p < z.2

theorem canon_iff : ∀ (zs : List (Int × Int)) (lo : Int), canon lo zs ↔ ∀ k, k < zs.length → (if k = 0 then lo else (zs.getD (k - 1) (0, 0)).2) < (zs.getD k (0, 0)).1 ∧ (zs.getD k (0, 0)).1 < (zs.getD k (0, 0)).2 ∧ (zs.getD k (0, 0)).2 ≤ 100
  | [], lo => by simp [canon]
  | z :: l, lo => by
    rw [canon, canon_iff l z.2]
    constructor
    · rintro ⟨h1, h2, h3, h4⟩ k hk
      match k with
      | 0 => simpa using ⟨h1, h2, h3⟩
      | 1 => simpa using h4 0 (by simp at hk; omega)
      | k + 2 => simpa using h4 (k + 1) (by simp at hk; omega)
    · intro h
      have h0 := h 0 (by simp)
      simp at h0
      refine ⟨h0.1, h0.2.1, h0.2.2, fun k hk => ?_⟩
      match k with
      | 0 => simpa using h 1 (by simp; omega)
      | k + 1 => simpa using h (k + 2) (by simp; omega)

theorem setOk_iff (zs : List (Int × Int)) : setOk zs = true ↔ canon (-1) zs := by
  rw [canon_iff]
  constructor
  · intro h k hk
    have h1 := setOk_from h k hk
    have h2 := setOk_each h hk
    simp only [okAt, okB, Bool.and_eq_true, Bool.or_eq_true, decide_eq_true_eq, beq_iff_eq] at h2
    refine ⟨?_, h1.2⟩
    split
    · omega
    · omega
  · intro h
    have h0 : ∀ k, k < zs.length → 0 ≤ (zs.getD k (0, 0)).1 := by
      intro k
      induction k with
      | zero => intro hk; have := (h 0 hk).1; simp only [if_true] at this; omega
      | succ k ih => intro hk; have h1 := (h (k + 1) hk).1; have h2 := h k (by omega); have h3 := ih (by omega); simp only [Nat.add_eq_zero_iff, Nat.one_ne_zero, and_false, if_false, Nat.add_sub_cancel] at h1; omega
    refine (setOk_yes fun k hk => ?_).symm
    have h1 := h k hk
    have h2 := h0 k hk
    simp only [okAt, okB, Bool.and_eq_true, Bool.or_eq_true, decide_eq_true_eq, beq_iff_eq]
    refine ⟨⟨h2, h1.2⟩, ?_⟩
    by_cases e : k = 0
    · exact .inl e
    · rw [if_neg e] at h1; exact .inr h1.1

theorem canon_weak {lo lo' : Int} (h : lo' ≤ lo) : ∀ {zs : List (Int × Int)}, canon lo zs → canon lo' zs
  | [], _ => trivial
  | z :: l, hc => ⟨by have := hc.1; omega, hc.2⟩
theorem canon_lo {p : Int} : ∀ {zs : List (Int × Int)} {lo : Int}, canon lo zs → has zs p → lo < p
  | [], _, _, h => by obtain ⟨z, hz, _⟩ := h; simp at hz
  | z :: l, lo, hc, ⟨y, hy, h1, h2⟩ => by
    obtain ⟨c1, c2, c3, c4⟩ := hc
    rcases List.mem_cons.1 hy with rfl | hy
    · omega
    · have := canon_lo c4 ⟨y, hy, h1, h2⟩; omega
theorem has_cons (z : Int × Int) (l : List (Int × Int)) (p : Int) : has (z :: l) p ↔ (z.1 ≤ p ∧ p < z.2) ∨ has l p := by
  simp [has]
theorem has_nil (p : Int) : ¬ has [] p := by simp [has]
theorem has_append (l m : List (Int × Int)) (p : Int) : has (l ++ m) p ↔ has l p ∨ has m p := by
  simp only [has, List.mem_append]
  constructor
  · rintro ⟨z, h | h, hz⟩
    · exact .inl ⟨z, h, hz⟩
    · exact .inr ⟨z, h, hz⟩
  · rintro (⟨z, h, hz⟩ | ⟨z, h, hz⟩)
    · exact ⟨z, .inl h, hz⟩
    · exact ⟨z, .inr h, hz⟩

/-- Sets with the same points are the same. -/
theorem canon_same : ∀ {xs ys : List (Int × Int)} {lo lo' : Int}, canon lo xs → canon lo' ys → (∀ p, has xs p ↔ has ys p) → xs = ys
  | [], [], _, _, _, _, _ => rfl
  | [], y :: m, _, _, _, hy, h => absurd ((h y.1).2 ((has_cons _ _ _).2 (.inl ⟨Int.le_refl _, hy.2.1⟩))) (has_nil _)
  | x :: l, [], _, _, hx, _, h => absurd ((h x.1).1 ((has_cons _ _ _).2 (.inl ⟨Int.le_refl _, hx.2.1⟩))) (has_nil _)
  | (a, b) :: l, (c, d) :: m, lo, lo', hx, hy, h => by
    obtain ⟨x1, x2, x3, x4⟩ := hx
    obtain ⟨y1, y2, y3, y4⟩ := hy
    simp only [] at x1 x2 x3 x4 y1 y2 y3 y4
    have hac : c ≤ a := by
      rcases (has_cons _ _ _).1 ((h a).1 ((has_cons _ _ _).2 (.inl ⟨Int.le_refl _, x2⟩))) with h1 | h1
      · exact h1.1
      · have := canon_lo y4 h1; omega
    have hca : a ≤ c := by
      rcases (has_cons _ _ _).1 ((h c).2 ((has_cons _ _ _).2 (.inl ⟨Int.le_refl _, y2⟩))) with h1 | h1
      · exact h1.1
      · have := canon_lo x4 h1; omega
    obtain rfl : a = c := by omega
    have hbd : d ≤ b := by
      rcases Int.lt_or_le b d with hlt | hge
      · rcases (has_cons _ _ _).1 ((h b).2 ((has_cons _ _ _).2 (.inl ⟨by simp only []; omega, hlt⟩))) with h1 | h1
        · have := h1.2; simp only [] at this; omega
        · have := canon_lo x4 h1; omega
      · exact hge
    have hdb : b ≤ d := by
      rcases Int.lt_or_le d b with hlt | hge
      · rcases (has_cons _ _ _).1 ((h d).1 ((has_cons _ _ _).2 (.inl ⟨by simp only []; omega, hlt⟩))) with h1 | h1
        · have := h1.2; simp only [] at this; omega
        · have := canon_lo y4 h1; omega
      · exact hge
    obtain rfl : b = d := by omega
    rw [canon_same x4 y4 fun p => ?_]
    constructor
    · intro hp
      have h1 := canon_lo x4 hp
      rcases (has_cons _ _ _).1 ((h p).1 ((has_cons _ _ _).2 (.inr hp))) with h2 | h2
      · have := h2.2; simp only [] at this; omega
      · exact h2
    · intro hp
      have h1 := canon_lo y4 hp
      rcases (has_cons _ _ _).1 ((h p).2 ((has_cons _ _ _).2 (.inr hp))) with h2 | h2
      · have := h2.2; simp only [] at this; omega
      · exact h2

theorem has_meetOne (x : Int × Int) (p : Int) : ∀ ys : List (Int × Int), has (meetOne x ys) p ↔ (x.1 ≤ p ∧ p < x.2) ∧ has ys p
  | [] => by simp [meetOne, has]
  | y :: ys => by
    rw [has_cons, meetOne]
    by_cases h : mB x.1 x.2 y.1 y.2 = true
    · rw [if_pos h, has_cons, has_meetOne x p ys]
      simp only [mB, decide_eq_true_eq] at h
      simp only [mF, mT, if_pos h]
      constructor
      · rintro (h1 | ⟨h1, h2⟩)
        · exact ⟨by omega, .inl (by omega)⟩
        · exact ⟨h1, .inr h2⟩
      · rintro ⟨h1, h2 | h2⟩
        · exact .inl (by omega)
        · exact .inr ⟨h1, h2⟩
    · rw [if_neg h, has_meetOne x p ys]
      simp only [mB, decide_eq_true_eq] at h
      constructor
      · rintro ⟨h1, h2⟩; exact ⟨h1, .inr h2⟩
      · rintro ⟨h1, h2 | h2⟩
        · exact absurd (show max x.1 y.1 < min x.2 y.2 by omega) h
        · exact ⟨h1, h2⟩
theorem has_meetL (ys : List (Int × Int)) (p : Int) : ∀ xs : List (Int × Int), has (meetL xs ys) p ↔ has xs p ∧ has ys p
  | [] => by simp [meetL, has]
  | x :: xs => by
    have e : meetL (x :: xs) ys = meetOne x ys ++ meetL xs ys := by simp [meetL]
    rw [e, has_append, has_meetOne, has_meetL ys p xs, has_cons]
    constructor
    · rintro (⟨h1, h2⟩ | ⟨h1, h2⟩)
      · exact ⟨.inl h1, h2⟩
      · exact ⟨.inr h1, h2⟩
    · rintro ⟨h1 | h1, h2⟩
      · exact .inl ⟨h1, h2⟩
      · exact .inr ⟨h1, h2⟩

theorem canon_meetOne (x : Int × Int) (hx : x.2 ≤ 100) : ∀ (ys : List (Int × Int)) (lo m : Int), canon lo ys → (m < x.1 ∨ m ≤ lo) → canon m (meetOne x ys)
  | [], _, _, _, _ => trivial
  | y :: ys, lo, m, hy, hm => by
    obtain ⟨y1, y2, y3, y4⟩ := hy
    rw [meetOne]
    by_cases h : mB x.1 x.2 y.1 y.2 = true
    · rw [if_pos h]
      simp only [mB, decide_eq_true_eq] at h
      simp only [mF, mT, if_pos h]
      exact ⟨by simp only []; omega, by simp only []; omega, by simp only []; omega, canon_meetOne x hx ys y.2 _ y4 (.inr (by simp only []; omega))⟩
    · rw [if_neg h]
      exact canon_meetOne x hx ys y.2 m y4 (by omega)
theorem meetOne_to (x : Int × Int) : ∀ (ys : List (Int × Int)), ∀ z ∈ meetOne x ys, z.2 ≤ x.2
  | [], z, hz => by simp [meetOne] at hz
  | y :: ys, z, hz => by
    rw [meetOne] at hz
    by_cases h : mB x.1 x.2 y.1 y.2 = true
    · rw [if_pos h] at hz
      rcases List.mem_cons.1 hz with rfl | hz
      · simp only [mB, decide_eq_true_eq] at h
        simp only [mT, if_pos h]
        omega
      · exact meetOne_to x ys z hz
    · rw [if_neg h] at hz
      exact meetOne_to x ys z hz
theorem canon_append {u : Int} {m : List (Int × Int)} (hm : canon u m) : ∀ {l : List (Int × Int)} {lo : Int}, canon lo l → (∀ z ∈ l, z.2 ≤ u) → lo ≤ u → canon lo (l ++ m)
  | [], _, _, _, h => canon_weak h hm
  | z :: _, _, hl, hz, _ => ⟨hl.1, hl.2.1, hl.2.2.1, canon_append hm hl.2.2.2 (fun y hy => hz y (List.mem_cons_of_mem _ hy)) (hz z (List.mem_cons_self ..))⟩
theorem canon_meetL {ys : List (Int × Int)} {lo' : Int} (hy : canon lo' ys) : ∀ {xs : List (Int × Int)} {lo : Int}, canon lo xs → canon lo (meetL xs ys)
  | [], _, _ => by simp [meetL, canon]
  | x :: xs, lo, hx => by
    have e : meetL (x :: xs) ys = meetOne x ys ++ meetL xs ys := by simp [meetL]
    rw [e]
    exact canon_append (canon_meetL hy hx.2.2.2) (canon_meetOne x hx.2.2.1 ys lo' lo hy (.inl hx.1)) (meetOne_to x ys) (by have := hx.1; have := hx.2.1; omega)

theorem meetL_ok {xs ys : List (Int × Int)} (hx : setOk xs = true) (hy : setOk ys = true) : setOk (meetL xs ys) = true :=
  (setOk_iff _).2 (canon_meetL ((setOk_iff _).1 hy) ((setOk_iff _).1 hx))
theorem meetL_comm {xs ys : List (Int × Int)} (hx : setOk xs = true) (hy : setOk ys = true) : meetL ys xs = meetL xs ys :=
  canon_same ((setOk_iff _).1 (meetL_ok hy hx)) ((setOk_iff _).1 (meetL_ok hx hy)) fun p => by rw [has_meetL, has_meetL, and_comm]
theorem meetL_self {xs : List (Int × Int)} (hx : setOk xs = true) : meetL xs xs = xs :=
  canon_same ((setOk_iff _).1 (meetL_ok hx hx)) ((setOk_iff _).1 hx) fun p => by rw [has_meetL, and_self]
theorem setHas_iff {zs : List (Int × Int)} (h : setOk zs = true) (p : Int) : setHas zs p = true ↔ has zs p := by
  rw [setHas, h, Bool.true_and, List.any_eq_true]
  constructor
  · rintro ⟨k, hk, hh⟩
    have hk' : k < zs.length := by simpa using hk
    simp only [hasAt, hasB, decide_eq_true_eq] at hh
    exact ⟨zs.getD k (0, 0), by simp [hk'], hh⟩
  · rintro ⟨z, hz, hh⟩
    obtain ⟨k, hk, rfl⟩ := List.mem_iff_getElem.1 hz
    exact ⟨k, by simpa using hk, by simp [hasAt, hasB, hk]; exact hh⟩
theorem setHas_meetL {xs ys : List (Int × Int)} (hx : setOk xs = true) (hy : setOk ys = true) (p : Int) : setHas (meetL xs ys) p = (setHas xs p && setHas ys p) := by
  rw [Bool.eq_iff_iff, Bool.and_eq_true, setHas_iff (meetL_ok hx hy), setHas_iff hx, setHas_iff hy, has_meetL]
end Go.Proofs.Ytphinkcfmdnpfaa
namespace Go.Proofs.Ytphinkcfmdnpfaa
open Go.RowKit

/-- One span more, behind all that begin ahead of it. -/
def jstep (acc : List (Int × Int)) (s : Int × Int) : List (Int × Int) :=
  if 0 < acc.length ∧ s.1 ≤ (acc.getD (acc.length - 1) (0, 0)).2 then acc.set (acc.length - 1) ((acc.getD (acc.length - 1) (0, 0)).1, max (acc.getD (acc.length - 1) (0, 0)).2 s.2) else acc ++ [s]
def joinL (l : List (Int × Int)) : List (Int × Int) := l.foldl jstep []
theorem joinL_snoc (l : List (Int × Int)) (s : Int × Int) : joinL (l ++ [s]) = jstep (joinL l) s := by simp [joinL]
theorem jstep_len (acc : List (Int × Int)) (s : Int × Int) : (jstep acc s).length ≤ acc.length + 1 := by
  unfold jstep
  split <;> simp
theorem foldl_len (l : List (Int × Int)) : ∀ acc : List (Int × Int), (l.foldl jstep acc).length ≤ acc.length + l.length := by
  induction l with
  | nil => intro acc; simp
  | cons s l ih =>
    intro acc
    have h1 := ih (jstep acc s)
    have h2 := jstep_len acc s
    simp only [List.foldl_cons, List.length_cons]
    omega
theorem joinL_len (l : List (Int × Int)) : (joinL l).length ≤ l.length := by
  have := foldl_len l []
  simpa [joinL] using this

def joinSp : Int × Int → List (Int × Int) → List (Int × Int)
  | p, [] => [p]
  | p, s :: l => if s.1 ≤ p.2 then joinSp (p.1, max p.2 s.2) l else p :: joinSp s l
theorem jstep_last (acc : List (Int × Int)) (p s : Int × Int) : jstep (acc ++ [p]) s = if s.1 ≤ p.2 then acc ++ [(p.1, max p.2 s.2)] else acc ++ [p] ++ [s] := by
  unfold jstep
  have h1 : (acc ++ [p]).length - 1 = acc.length := by simp
  have h2 : (acc ++ [p]).getD acc.length (0, 0) = p := by simp [List.getD]
  rw [h1, h2]
  by_cases h : s.1 ≤ p.2
  · rw [if_pos ⟨by simp, h⟩, if_pos h, List.set_append_right _ _ (Nat.le_refl _), Nat.sub_self]
    rfl
  · rw [if_neg (fun hh => h hh.2), if_neg h]
theorem foldl_join : ∀ (l : List (Int × Int)) (acc : List (Int × Int)) (p : Int × Int), l.foldl jstep (acc ++ [p]) = acc ++ joinSp p l
  | [], acc, p => rfl
  | s :: l, acc, p => by
    rw [List.foldl_cons, jstep_last, joinSp]
    by_cases h : s.1 ≤ p.2
    · rw [if_pos h, if_pos h, foldl_join l acc _]
    · rw [if_neg h, if_neg h, foldl_join l (acc ++ [p]) s]
      simp
theorem joinL_cons (s : Int × Int) (l : List (Int × Int)) : joinL (s :: l) = joinSp s l := by
  have h : jstep [] s = [] ++ [s] := by simp [jstep]
  rw [joinL, List.foldl_cons, h, foldl_join]
  rfl

/-- All are spans. -/
def allOk (l : List (Int × Int)) : Prop := ∀ s ∈ l, 0 ≤ s.1 ∧ s.1 < s.2 ∧ s.2 ≤ 100
/-- They begin one behind the other. -/
def inOrder : List (Int × Int) → Prop
  | [] => True
  | s :: l => (∀ t ∈ l, s.1 ≤ t.1) ∧ inOrder l

theorem canon_joinR : ∀ (l : List (Int × Int)) (p : Int × Int) (lo : Int), lo < p.1 → p.1 < p.2 → p.2 ≤ 100 → allOk l → canon lo (joinSp p l)
  | [], p, lo, h0, h1, h2, _ => ⟨h0, h1, h2, trivial⟩
  | s :: l, p, lo, h0, h1, h2, ha => by
    have hs := ha s (List.mem_cons_self ..)
    have hl : allOk l := fun t ht => ha t (List.mem_cons_of_mem _ ht)
    rw [joinSp]
    by_cases h : s.1 ≤ p.2
    · rw [if_pos h]
      exact canon_joinR l _ lo h0 (by simp only []; omega) (by simp only []; omega) hl
    · rw [if_neg h]
      exact ⟨h0, h1, h2, canon_joinR l s p.2 (by omega) hs.2.1 hs.2.2 hl⟩
theorem has_joinR (q : Int) : ∀ (l : List (Int × Int)) (p : Int × Int), p.1 < p.2 → allOk l → (∀ t ∈ l, p.1 ≤ t.1) → inOrder l → (has (joinSp p l) q ↔ (p.1 ≤ q ∧ q < p.2) ∨ has l q)
  | [], p, h1, _, _, _ => by simp [joinSp, has_cons, has_nil]
  | s :: l, p, h1, ha, hp, ho => by
    have hs := ha s (List.mem_cons_self ..)
    have hps := hp s (List.mem_cons_self ..)
    have hl : allOk l := fun t ht => ha t (List.mem_cons_of_mem _ ht)
    rw [joinSp]
    by_cases h : s.1 ≤ p.2
    · rw [if_pos h, has_joinR q l (p.1, max p.2 s.2) (by simp only []; omega) hl (fun t ht => hp t (List.mem_cons_of_mem _ ht)) ho.2, has_cons]
      simp only []
      constructor
      · rintro (h2 | h2)
        · by_cases h3 : q < p.2
          · exact .inl ⟨h2.1, h3⟩
          · exact .inr (.inl ⟨by omega, by omega⟩)
        · exact .inr (.inr h2)
      · rintro (h2 | h2 | h2)
        · exact .inl ⟨h2.1, by omega⟩
        · exact .inl ⟨by omega, by omega⟩
        · exact .inr h2
    · rw [if_neg h, has_cons, has_joinR q l s hs.2.1 hl ho.1 ho.2, has_cons]
theorem joinL_ok {l : List (Int × Int)} (ha : allOk l) : setOk (joinL l) = true := by
  rw [setOk_iff]
  cases l with
  | nil => exact trivial
  | cons s l =>
    have hs := ha s (List.mem_cons_self ..)
    rw [joinL_cons]
    exact canon_joinR l s (-1) (by omega) hs.2.1 hs.2.2 (fun t ht => ha t (List.mem_cons_of_mem _ ht))
theorem has_joinL {l : List (Int × Int)} (ha : allOk l) (ho : inOrder l) (q : Int) : has (joinL l) q ↔ has l q := by
  cases l with
  | nil => simp [joinL]
  | cons s l =>
    have hs := ha s (List.mem_cons_self ..)
    rw [joinL_cons, has_joinR q l s hs.2.1 (fun t ht => ha t (List.mem_cons_of_mem _ ht)) ho.1 ho.2, has_cons]

/-- A span put into a set. -/
def addR (s : Int × Int) : List (Int × Int) → List (Int × Int)
  | [] => [s]
  | z :: l => if z.2 < s.1 then z :: addR s l else if z.1 ≤ s.2 then addR (min z.1 s.1, max z.2 s.2) l else s :: z :: l
theorem canon_addR : ∀ (l : List (Int × Int)) (s : Int × Int) (lo : Int), canon lo l → lo < s.1 → s.1 < s.2 → s.2 ≤ 100 → canon lo (addR s l)
  | [], s, lo, _, h0, h1, h2 => ⟨h0, h1, h2, trivial⟩
  | z :: l, s, lo, hc, h0, h1, h2 => by
    obtain ⟨c1, c2, c3, c4⟩ := hc
    rw [addR]
    by_cases hz : z.2 < s.1
    · rw [if_pos hz]
      exact ⟨c1, c2, c3, canon_addR l s z.2 c4 hz h1 h2⟩
    · rw [if_neg hz]
      by_cases hz2 : z.1 ≤ s.2
      · rw [if_pos hz2]
        exact canon_addR l _ lo (canon_weak (by omega) c4) (by simp only []; omega) (by simp only []; omega) (by simp only []; omega)
      · rw [if_neg hz2]
        exact ⟨h0, h1, h2, by omega, c2, c3, c4⟩
theorem has_addR (q : Int) : ∀ (l : List (Int × Int)) (s : Int × Int) (lo : Int), canon lo l → s.1 < s.2 → (has (addR s l) q ↔ (s.1 ≤ q ∧ q < s.2) ∨ has l q)
  | [], s, lo, _, _ => by simp [addR, has_cons, has_nil]
  | z :: l, s, lo, hc, h1 => by
    obtain ⟨c1, c2, c3, c4⟩ := hc
    rw [addR]
    by_cases hz : z.2 < s.1
    · rw [if_pos hz, has_cons, has_addR q l s z.2 c4 h1, has_cons]
      constructor
      · rintro (h | h | h)
        · exact .inr (.inl h)
        · exact .inl h
        · exact .inr (.inr h)
      · rintro (h | h | h)
        · exact .inr (.inl h)
        · exact .inl h
        · exact .inr (.inr h)
    · rw [if_neg hz]
      by_cases hz2 : z.1 ≤ s.2
      · rw [if_pos hz2, has_addR q l _ z.2 c4 (by simp only []; omega), has_cons]
        simp only []
        constructor
        · rintro (h | h)
          · by_cases h3 : s.1 ≤ q ∧ q < s.2
            · exact .inl h3
            · exact .inr (.inl (by omega))
          · exact .inr (.inr h)
        · rintro (h | h | h)
          · exact .inl (by omega)
          · exact .inl (by omega)
          · exact .inr h
      · rw [if_neg hz2, has_cons, has_cons]

/-- The model's two loops, list by list. -/
def scanF (st : List (Int × Int) × Int × Int) (z : Int × Int) : List (Int × Int) × Int × Int :=
  if z.2 < st.2.1 then (st.1 ++ [(z.1, z.2)], st.2.1, st.2.2)
  else if z.1 ≤ st.2.2 then (st.1, (if z.1 < st.2.1 then z.1 else st.2.1), (if st.2.2 < z.2 then z.2 else st.2.2))
  else st
theorem scan_fold (zs : List (Int × Int)) (s : Int × Int) : ∀ k, k ≤ zs.length → scan zs s k = (zs.take k).foldl scanF ([], s.1, s.2)
  | 0, _ => rfl
  | k + 1, hk => by
    have h := scan_fold zs s k (by omega)
    have e : zs.getD k (0, 0) = zs[k]'(by omega) := by simp [List.getD, show k < zs.length by omega]
    rw [scan, h, List.take_succ_eq_append_getElem (by omega), List.foldl_append, List.foldl_cons, List.foldl_nil, e]
    rfl
theorem tail_filter (zs : List (Int × Int)) (y : Int) : ∀ k, k ≤ zs.length → tailTo zs y k = (zs.take k).filter fun z => decide (y < z.1)
  | 0, _ => rfl
  | k + 1, hk => by
    have h := tail_filter zs y k (by omega)
    have e : zs.getD k (0, 0) = zs[k]'(by omega) := by simp [List.getD, show k < zs.length by omega]
    rw [tailTo, h, List.take_succ_eq_append_getElem (by omega), List.filter_append, e]
    by_cases hy : y < (zs[k]'(by omega)).1 <;> simp [hy]
theorem fold_pre : ∀ (l o : List (Int × Int)) (x y : Int), l.foldl scanF (o, x, y) = (o ++ (l.foldl scanF ([], x, y)).1, (l.foldl scanF ([], x, y)).2.1, (l.foldl scanF ([], x, y)).2.2)
  | [], o, x, y => by simp
  | z :: l, o, x, y => by
    rw [List.foldl_cons, List.foldl_cons]
    by_cases h : z.2 < x
    · have e1 : scanF (o, x, y) z = (o ++ [(z.1, z.2)], x, y) := by simp [scanF, h]
      have e2 : scanF ([], x, y) z = ([(z.1, z.2)], x, y) := by simp [scanF, h]
      rw [e1, e2, fold_pre l _ x y, fold_pre l [(z.1, z.2)] x y]
      simp
    · by_cases h2 : z.1 ≤ y
      · have e1 : scanF (o, x, y) z = (o, (if z.1 < x then z.1 else x), (if y < z.2 then z.2 else y)) := by simp [scanF, h, h2]
        have e2 : scanF ([], x, y) z = ([], (if z.1 < x then z.1 else x), (if y < z.2 then z.2 else y)) := by simp [scanF, h, h2]
        rw [e1, e2]
        exact fold_pre l o _ _
      · have e1 : scanF (o, x, y) z = (o, x, y) := by simp [scanF, h, h2]
        have e2 : scanF ([], x, y) z = ([], x, y) := by simp [scanF, h, h2]
        rw [e1, e2]
        exact fold_pre l o x y
theorem fold_up : ∀ (l o : List (Int × Int)) (x y : Int), y ≤ (l.foldl scanF (o, x, y)).2.2
  | [], o, x, y => Int.le_refl _
  | z :: l, o, x, y => by
    rw [List.foldl_cons]
    by_cases h : z.2 < x
    · rw [show scanF (o, x, y) z = (o ++ [(z.1, z.2)], x, y) from by simp [scanF, h]]
      exact fold_up l _ x y
    · by_cases h2 : z.1 ≤ y
      · rw [show scanF (o, x, y) z = (o, (if z.1 < x then z.1 else x), (if y < z.2 then z.2 else y)) from by simp [scanF, h, h2]]
        have := fold_up l o (if z.1 < x then z.1 else x) (if y < z.2 then z.2 else y)
        have h3 : y ≤ (if y < z.2 then z.2 else y) := by split <;> omega
        omega
      · rw [show scanF (o, x, y) z = (o, x, y) from by simp [scanF, h, h2]]
        exact fold_up l o x y
theorem fold_far : ∀ (l : List (Int × Int)) (lo x y : Int), canon lo l → x ≤ lo → y ≤ lo → l.foldl scanF ([], x, y) = ([], x, y) ∧ (l.filter fun z => decide (y < z.1)) = l
  | [], _, _, _, _, _, _ => ⟨rfl, rfl⟩
  | z :: l, lo, x, y, hc, hx, hy => by
    obtain ⟨c1, c2, c3, c4⟩ := hc
    have ih := fold_far l z.2 x y c4 (by omega) (by omega)
    rw [List.foldl_cons, show scanF ([], x, y) z = ([], x, y) from by simp [scanF, show ¬ z.2 < x by omega, show ¬ z.1 ≤ y by omega], List.filter_cons, if_pos (by simp; omega), ih.2]
    exact ⟨ih.1, rfl⟩
def addF (s : Int × Int) (l : List (Int × Int)) : List (Int × Int) := (l.foldl scanF ([], s.1, s.2)).1 ++ [((l.foldl scanF ([], s.1, s.2)).2.1, (l.foldl scanF ([], s.1, s.2)).2.2)] ++ (l.filter fun z => decide ((l.foldl scanF ([], s.1, s.2)).2.2 < z.1))
theorem addF_eq : ∀ (l : List (Int × Int)) (s : Int × Int) (lo : Int), canon lo l → s.1 < s.2 → addF s l = addR s l
  | [], s, _, _, _ => by simp [addF, addR]
  | z :: l, s, lo, hc, h1 => by
    obtain ⟨c1, c2, c3, c4⟩ := hc
    obtain ⟨x, y⟩ := s
    simp only [] at h1
    rw [addR]
    by_cases hz : z.2 < x
    · rw [if_pos hz, ← addF_eq l (x, y) z.2 c4 h1]
      have e : (z :: l).foldl scanF ([], x, y) = (z :: (l.foldl scanF ([], x, y)).1, (l.foldl scanF ([], x, y)).2.1, (l.foldl scanF ([], x, y)).2.2) := by
        rw [List.foldl_cons, show scanF ([], x, y) z = ([(z.1, z.2)], x, y) from by simp [scanF, hz], fold_pre]
        rfl
      have hu := fold_up l [] x y
      simp only [addF, e]
      rw [List.filter_cons, if_neg (by simp; omega)]
      rfl
    · rw [if_neg hz]
      by_cases hz2 : z.1 ≤ y
      · rw [if_pos hz2]
        have e0 : scanF ([], x, y) z = ([], min z.1 x, max z.2 y) := by
          simp only [scanF, if_neg hz, if_pos hz2, Prod.mk.injEq, true_and]
          constructor
          · split <;> omega
          · split <;> omega
        rw [← addF_eq l (min z.1 x, max z.2 y) z.2 c4 (by simp only []; omega)]
        have hu := fold_up l [] (min z.1 x) (max z.2 y)
        simp only [addF, List.foldl_cons, e0]
        rw [List.filter_cons, if_neg (by simp; omega)]
      · rw [if_neg hz2]
        have hf := fold_far (z :: l) (z.1 - 1) x y ⟨by omega, c2, c3, c4⟩ (by omega) (by omega)
        simp only [addF, hf.1, hf.2]
        rfl
theorem addL_addF (zs : List (Int × Int)) (s : Int × Int) : addL zs s = addF s zs := by
  unfold addL addF
  rw [scan_fold zs s zs.length (Nat.le_refl _), List.take_length, tail_filter zs _ zs.length (Nat.le_refl _), List.take_length]
theorem addL_ok {zs : List (Int × Int)} {s : Int × Int} (hz : setOk zs = true) (h0 : 0 ≤ s.1) (h1 : s.1 < s.2) (h2 : s.2 ≤ 100) : setOk (addL zs s) = true := by
  have hc := (setOk_iff zs).1 hz
  rw [setOk_iff, addL_addF, addF_eq zs s (-1) hc h1]
  exact canon_addR zs s (-1) hc (by omega) h1 h2
theorem has_addL {zs : List (Int × Int)} {s : Int × Int} (hz : setOk zs = true) (h1 : s.1 < s.2) (q : Int) : has (addL zs s) q ↔ (s.1 ≤ q ∧ q < s.2) ∨ has zs q := by
  have hc := (setOk_iff zs).1 hz
  rw [addL_addF, addF_eq zs s (-1) hc h1, has_addR q zs s (-1) hc h1]
/-- The spans put in one after the other. -/
def addAll (l : List (Int × Int)) : List (Int × Int) := l.foldl addL []
theorem addAll_snoc (l : List (Int × Int)) (s : Int × Int) : addAll (l ++ [s]) = addL (addAll l) s := by simp [addAll]
theorem addAll_ok (q : Int) : ∀ (l acc : List (Int × Int)), setOk acc = true → allOk l → setOk (l.foldl addL acc) = true ∧ (has (l.foldl addL acc) q ↔ has acc q ∨ has l q)
  | [], acc, h, _ => by simp [h, has_nil]
  | s :: l, acc, h, ha => by
    have hs := ha s (List.mem_cons_self ..)
    have ih := addAll_ok q l (addL acc s) (addL_ok h hs.1 hs.2.1 hs.2.2) (fun t ht => ha t (List.mem_cons_of_mem _ ht))
    rw [List.foldl_cons]
    refine ⟨ih.1, ?_⟩
    rw [ih.2, has_addL h hs.2.1, has_cons]
    constructor
    · rintro ((h | h) | h)
      · exact .inr (.inl h)
      · exact .inl h
      · exact .inr (.inr h)
    · rintro (h | h | h)
      · exact .inl (.inr h)
      · exact .inl (.inl h)
      · exact .inr h
theorem setOk_nil : setOk [] = true := rfl
/-- Spans in order, as a set, two ways. -/
theorem join_add {l l' : List (Int × Int)} (ha : allOk l) (ha' : allOk l') (ho : inOrder l') (hp : ∀ q, has l' q ↔ has l q) : joinL l' = addAll l := by
  have h1 := joinL_ok ha'
  have h2 := fun q => addAll_ok q l [] setOk_nil ha
  exact canon_same ((setOk_iff _).1 h1) ((setOk_iff _).1 (h2 0).1) (fun q => by rw [has_joinL ha' ho, hp q, addAll, (h2 q).2]; simp [has_nil])
end Go.Proofs.Ytphinkcfmdnpfaa
