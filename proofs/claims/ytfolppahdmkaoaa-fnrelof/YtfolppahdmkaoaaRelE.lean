/-
  Plain: a table that is ok is known by what holds at each point.
-/
import Derived.Test.YtfolppahdmkaoaaRelGet
import Derived.Test.YtfolppahdmkaoaaRelQ
namespace Go.Proofs.Ytfolppahdmkaoaa
open Go.RowKit

/-- A key has a text at a point. -/
def held (l : List RowV) (k t : ByteArray) (c : Int) : Prop := ∃ x ∈ l, x.k = k ∧ x.t = t ∧ x.f ≤ c ∧ c < x.e
/-- One row ahead of another, and the two do not touch with the same text. -/
def lead (x y : RowV) : Prop := kl x.k y.k = true ∨ (x.k = y.k ∧ (x.e < y.f ∨ (x.e = y.f ∧ x.t ≠ y.t)))
def Tight (l : List RowV) : Prop := l.Pairwise lead
theorem lead_of {y x : RowV} (h : leadB y x = true) : lead y x := by
  unfold leadB at h
  by_cases hk : (y.k.toList == x.k.toList) = true
  · rw [if_pos hk, Bool.and_eq_true, decide_eq_true_eq] at h
    refine .inr ⟨same_key.1 hk, ?_⟩
    by_cases he : y.e = x.f
    · refine .inr ⟨he, fun ht => ?_⟩
      have h2 := h.2
      rw [same_key.2 ht] at h2
      simp [he] at h2
    · exact .inl (by omega)
  · rw [if_neg hk] at h
    exact .inl h
theorem lead_trans {x y z : RowV} (hy : y.f < y.e) (h1 : lead x y) (h2 : lead y z) : lead x z := by
  rcases h1 with h1 | ⟨h1, h1'⟩ <;> rcases h2 with h2 | ⟨h2, h2'⟩
  · exact .inl (kl_trans h1 h2)
  · exact .inl (h2 ▸ h1)
  · exact .inl (h1 ▸ h2)
  · refine .inr ⟨h1.trans h2, .inl ?_⟩
    rcases h1' with h1' | ⟨h1', _⟩ <;> rcases h2' with h2' | ⟨h2', _⟩ <;> omega
theorem tight_go : ∀ (l : List RowV) (y : RowV), leadsGo y l = true → (∀ x ∈ l, spanOk x) → Tight (y :: l)
  | [], y, _, _ => List.pairwise_singleton _ _
  | x :: l, y, h, hs => by
    rw [leadsGo, Bool.and_eq_true, Bool.and_eq_true] at h
    have hl := lead_of h.1.2
    have ht := tight_go l x h.2 (fun z hz => hs z (List.mem_cons_of_mem _ hz))
    refine List.pairwise_cons.2 ⟨fun z hz => ?_, ht⟩
    rcases List.mem_cons.1 hz with rfl | hz
    · exact hl
    · exact lead_trans (hs x (List.mem_cons_self ..)).2.1 hl ((List.pairwise_cons.1 ht).1 z hz)
theorem tight_rel {l : List RowV} (h : relOk l = true) : (∀ x ∈ l, spanOk x) ∧ Tight l := by
  have hs : ∀ x ∈ l, spanOk x := fun x hx => (rowOk_iff.1 ((rel_apart h).1 x hx)).2.2
  refine ⟨hs, ?_⟩
  have h2 := ((relOk_iff l).1 h).2
  cases l with
  | nil => exact List.Pairwise.nil
  | cons y l =>
    rw [relAll, Bool.and_eq_true] at h2
    exact tight_go l y h2.2 (fun x hx => hs x (List.mem_cons_of_mem _ hx))

theorem held_least {x : RowV} {l : List RowV} (t1 : ∀ z ∈ l, lead x z) (hx : x.f < x.e) {k t : ByteArray} {c : Int} (hh : held (x :: l) k t c) : kl x.k k = true ∨ (x.k = k ∧ x.f ≤ c) := by
  obtain ⟨z, hz, rfl, rfl, h1, h2⟩ := hh
  rcases List.mem_cons.1 hz with rfl | hz
  · exact .inr ⟨rfl, h1⟩
  · rcases t1 z hz with h | ⟨hk, h⟩
    · exact .inl h
    · exact .inr ⟨hk, by rcases h with h | ⟨h, _⟩ <;> omega⟩
theorem held_only {x : RowV} {l : List RowV} (t1 : ∀ z ∈ l, lead x z) {t : ByteArray} {c : Int} (hh : held (x :: l) x.k t c) (hc : c < x.e) : t = x.t := by
  obtain ⟨z, hz, hk, rfl, h1, h2⟩ := hh
  rcases List.mem_cons.1 hz with rfl | hz
  · rfl
  · rcases t1 z hz with h | ⟨_, h⟩
    · rw [hk, kl_irrefl] at h; cases h
    · exfalso
      rcases h with h | ⟨h, _⟩ <;> omega
theorem held_after {x : RowV} {l : List RowV} (t1 : ∀ z ∈ l, lead x z) : ¬ held (x :: l) x.k x.t x.e := by
  rintro ⟨z, hz, hk, ht, h1, h2⟩
  rcases List.mem_cons.1 hz with rfl | hz
  · omega
  · rcases t1 z hz with h | ⟨_, h⟩
    · rw [hk, kl_irrefl] at h; cases h
    · rcases h with h | ⟨h, hn⟩
      · omega
      · exact hn ht.symm
theorem held_tail {x : RowV} {l : List RowV} (t1 : ∀ z ∈ l, lead x z) {k t : ByteArray} {c : Int} : held l k t c ↔ held (x :: l) k t c ∧ ¬ (x.k = k ∧ x.f ≤ c ∧ c < x.e) := by
  constructor
  · rintro ⟨z, hz, rfl, rfl, h1, h2⟩
    refine ⟨⟨z, List.mem_cons_of_mem _ hz, rfl, rfl, h1, h2⟩, ?_⟩
    rintro ⟨hk, h3, h4⟩
    rcases t1 z hz with h | ⟨_, h⟩
    · rw [hk, kl_irrefl] at h; cases h
    · rcases h with h | ⟨h, _⟩ <;> omega
  · rintro ⟨⟨z, hz, hk, ht, h1, h2⟩, hn⟩
    rcases List.mem_cons.1 hz with rfl | hz
    · exact absurd ⟨hk, h1, h2⟩ hn
    · exact ⟨z, hz, hk, ht, h1, h2⟩
theorem known : ∀ (a b : List RowV), (∀ x ∈ a, spanOk x) → (∀ x ∈ b, spanOk x) → Tight a → Tight b → (∀ k t c, held a k t c ↔ held b k t c) → a = b
  | [], [], _, _, _, _, _ => rfl
  | [], y :: b, _, sb, _, _, h => by
    have hy := sb y (List.mem_cons_self ..)
    obtain ⟨z, hz, _⟩ := (h y.k y.t y.f).2 ⟨y, List.mem_cons_self .., rfl, rfl, Int.le_refl _, hy.2.1⟩
    cases hz
  | x :: a, [], sa, _, _, _, h => by
    have hx := sa x (List.mem_cons_self ..)
    obtain ⟨z, hz, _⟩ := (h x.k x.t x.f).1 ⟨x, List.mem_cons_self .., rfl, rfl, Int.le_refl _, hx.2.1⟩
    cases hz
  | x :: a, y :: b, sa, sb, ta, tb, h => by
    obtain ⟨ta1, ta2⟩ := List.pairwise_cons.1 ta
    obtain ⟨tb1, tb2⟩ := List.pairwise_cons.1 tb
    have hx := sa x (List.mem_cons_self ..)
    have hy := sb y (List.mem_cons_self ..)
    have ax := (h x.k x.t x.f).1 ⟨x, List.mem_cons_self .., rfl, rfl, Int.le_refl _, hx.2.1⟩
    have ay := (h y.k y.t y.f).2 ⟨y, List.mem_cons_self .., rfl, rfl, Int.le_refl _, hy.2.1⟩
    have h1 := held_least ta1 hx.2.1 ay
    have h2 := held_least tb1 hy.2.1 ax
    have hk : x.k = y.k ∧ x.f = y.f := by
      rcases h1 with h1 | ⟨h1, h1'⟩ <;> rcases h2 with h2 | ⟨h2, h2'⟩
      · rw [kl_asymm h1] at h2; cases h2
      · rw [h2, kl_irrefl] at h1; cases h1
      · rw [h1, kl_irrefl] at h2; cases h2
      · exact ⟨h1, by omega⟩
    obtain ⟨hk, hf⟩ := hk
    have ht : x.t = y.t := held_only tb1 (c := x.f) (by rw [← hk]; exact ax) (by have := hy.2.1; omega)
    have he : x.e = y.e := by
      rcases Int.lt_trichotomy x.e y.e with hl | hl | hl
      · have := (h y.k y.t x.e).2 ⟨y, List.mem_cons_self .., rfl, rfl, by have := hx.2.1; omega, hl⟩
        rw [← hk, ← ht] at this
        exact absurd this (held_after ta1)
      · exact hl
      · have := (h x.k x.t y.e).1 ⟨x, List.mem_cons_self .., rfl, rfl, by have := hy.2.1; omega, hl⟩
        rw [hk, ht] at this
        exact absurd this (held_after tb1)
    have hxy : x = y := by
      cases x
      cases y
      simp only at hk hf ht he
      subst hk hf ht he
      rfl
    subst hxy
    rw [known a b (fun z hz => sa z (List.mem_cons_of_mem _ hz)) (fun z hz => sb z (List.mem_cons_of_mem _ hz)) ta2 tb2 (fun k t c => by rw [held_tail ta1, held_tail tb1, h])]
theorem held_at {zs : List RowV} {k t : ByteArray} {c : Int} (h : relOk zs = true) : (⟨k, t⟩ : PairV) ∈ relAtL zs c ↔ held zs k t c := by
  rw [relAtL, if_pos h, atTo, List.take_length, List.mem_map]
  unfold held
  constructor
  · rintro ⟨x, hx, hp⟩
    obtain ⟨hx, hc⟩ := List.mem_filter.1 hx
    have hc' : x.f ≤ c ∧ c < x.e := by simpa [hasB] using hc
    have hp1 : x.k = k := congrArg PairV.k hp
    have hp2 : x.t = t := congrArg PairV.t hp
    exact ⟨x, hx, hp1, hp2, hc'⟩
  · rintro ⟨x, hx, rfl, rfl, hc⟩
    exact ⟨x, List.mem_filter.2 ⟨hx, by simpa [hasB] using hc⟩, rfl⟩
/-- Two tables that have the same at each point are the same. -/
theorem rel_known {a b : List RowV} (ha : relOk a = true) (hb : relOk b = true) (h : ∀ c, 0 ≤ c → c < 100 → relAtL a c = relAtL b c) : a = b := by
  obtain ⟨sa, ta⟩ := tight_rel ha
  obtain ⟨sb, tb⟩ := tight_rel hb
  refine known a b sa sb ta tb (fun k t c => ⟨fun hh => ?_, fun hh => ?_⟩)
  · have hc : 0 ≤ c ∧ c < 100 := by
      obtain ⟨x, hx, _, _, h1, h2⟩ := hh
      obtain ⟨s1, s2, s3⟩ := sa x hx
      omega
    rw [← held_at hb, ← h c hc.1 hc.2, held_at ha]
    exact hh
  · have hc : 0 ≤ c ∧ c < 100 := by
      obtain ⟨x, hx, _, _, h1, h2⟩ := hh
      obtain ⟨s1, s2, s3⟩ := sb x hx
      omega
    rw [← held_at ha, h c hc.1 hc.2, held_at hb]
    exact hh
end Go.Proofs.Ytfolppahdmkaoaa
