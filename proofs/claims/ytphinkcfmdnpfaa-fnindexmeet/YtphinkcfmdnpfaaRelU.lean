/-
  Plain: part of a table is a table.
-/
import Derived.Test.YtphinkcfmdnpfaaRelG
import Derived.Test.YtphinkcfmdnpfaaRelQ
namespace Go.Proofs.Ytphinkcfmdnpfaa
open Go.RowKit

theorem apart_ordered {m : List RowV} (h : Apart m) (hv : ∀ x ∈ m, x.f < x.e) : Ordered m := by
  refine List.Pairwise.imp_of_mem ?_ h
  intro x y hx hy hxy
  have h1 := adj_less (hv x hx) hxy
  cases hn : lessB y x with
  | false => rfl
  | true =>
    have := swoRow.trans _ _ _ h1 hn
    rw [swoRow.irrefl] at this
    cases this
/-- Rows of which no two of a key hold at once, in any order, laid. -/
theorem lay_of {l m : List RowV} (hm : Apart m) (hr : ∀ x ∈ m, rowOk x = true) (hp : m.Perm l) : layAll [] l = some m := by
  cases h : layAll [] l with
  | none => exact absurd hm (layAll_none l [] h m (by simpa using hp) hr)
  | some m' =>
    obtain ⟨h1, h2, h3⟩ := layAll_some l [] m' List.Pairwise.nil (by intro x hx; cases hx) h
    rw [List.append_nil] at h3
    have hv : ∀ x ∈ m, x.f < x.e := fun x hx => (rowOk_iff.1 (hr x hx)).2.2.2.1
    have hv' : ∀ x ∈ m', x.f < x.e := fun x hx => (rowOk_iff.1 (h2 x hx)).2.2.2.1
    rw [apart_unique m' m (apart_ordered h1 hv') hm hv (h3.trans hp.symm)]
theorem relOf_made {l : List RowV} (h : relOfL l ≠ []) : ∃ m, Apart m ∧ (∀ x ∈ m, rowOk x = true) ∧ m.Perm l ∧ relOfL l = joinRows m ∧ (joinRows m).length ≤ 24 := by
  unfold relOfL at h ⊢
  cases e : layAll [] l with
  | none => rw [e] at h; exact absurd rfl h
  | some m =>
    rw [e] at h
    obtain ⟨h1, h2, h3⟩ := layAll_some l [] m List.Pairwise.nil (by intro x hx; cases hx) e
    rw [List.append_nil] at h3
    by_cases hl : (joinRows m).length ≤ 24
    · exact ⟨m, h1, h2, h3, if_pos hl, hl⟩
    · exact absurd (if_neg hl) h
theorem relOf_table {l : List RowV} (h : relOfL l ≠ []) : relOk (relOfL l) = true := by
  obtain ⟨m, h1, h2, h3, h4, h5⟩ := relOf_made h
  rw [h4]
  exact (relOk_join m (fun x hx => (rowOk_iff.1 (h2 x hx)).2.2)).2 ⟨h5, h2, h1⟩
theorem relOf_held {l : List RowV} (h : relOfL l ≠ []) {k t : ByteArray} {c : Int} : held (relOfL l) k t c ↔ held l k t c := by
  obtain ⟨m, h1, h2, h3, h4, h5⟩ := relOf_made h
  rw [h4, held_join (fun x hx => (rowOk_iff.1 (h2 x hx)).2.2.2.1)]
  exact held_mem (fun x => h3.mem_iff)
theorem relOf_get {l : List RowV} (h : relOfL l ≠ []) {x : RowV} (hx : x ∈ l) {c : Int} (h1 : x.f ≤ c) (h2 : c < x.e) : relGetL (relOfL l) x.k c = x.t :=
  get_held (relOf_table h) (relOf_held h |>.2 ⟨x, hx, rfl, rfl, h1, h2⟩)
theorem relOf_rows {l : List RowV} (h : relOfL l ≠ []) : ∀ x ∈ l, rowOk x = true := fun x hx => by
  obtain ⟨m, h1, h2, h3, h4, h5⟩ := relOf_made h
  exact h2 x (h3.mem_iff.2 hx)
theorem relOf_perm {l l' : List RowV} (h : relOfL l ≠ []) (hp : l.Perm l') : relOfL l' = relOfL l := by
  obtain ⟨m, h1, h2, h3, h4, h5⟩ := relOf_made h
  rw [h4]
  unfold relOfL
  rw [lay_of h1 h2 (h3.trans hp)]
  exact if_pos h5
theorem relOf_self {t : List RowV} (h : relOk t = true) : relOfL t = t := by
  obtain ⟨h1, h2⟩ := rel_apart h
  have h3 := (relOk_iff t).1 h
  unfold relOfL
  rw [lay_of h2 h1 (List.Perm.refl _)]
  show (if (joinRows t).length ≤ 24 then joinRows t else []) = t
  rw [joinRows_rel t h3.2, if_pos h3.1]
theorem relOf_short {l : List RowV} (h : relOfL l ≠ []) : (relOfL l).length ≤ l.length := by
  obtain ⟨m, h1, h2, h3, h4, h5⟩ := relOf_made h
  rw [h4, ← h3.length_eq]
  exact joinRows_len m
end Go.Proofs.Ytphinkcfmdnpfaa
namespace Go.Proofs.Ytphinkcfmdnpfaa
open Go.RowKit

/-- One row ahead of another, and the two do not touch with the same text. -/
def leadPU (x y : RowV) : Prop := kl x.k y.k = true ∨ (x.k = y.k ∧ (x.e < y.f ∨ (x.e = y.f ∧ x.t ≠ y.t)))
def TightPU (l : List RowV) : Prop := l.Pairwise leadPU
theorem lead_ofPU {y x : RowV} (h : leadB y x = true) : leadPU y x := by
  unfold leadB at h
  by_cases hk : (y.k.toList == x.k.toList) = true
  · rw [if_pos hk, Bool.and_eq_true, decide_eq_true_eq] at h
    refine .inr ⟨same_key.1 hk, ?_⟩
    by_cases he : y.e = x.f
    · refine .inr ⟨he, fun ht => ?_⟩
      have h2 := h.2
      rw [same_key.2 ht] at h2
      simp [he] at h2
    · exact .inl (by omega)
  · rw [if_neg hk] at h
    exact .inl h
theorem lead_transPU {x y z : RowV} (hy : y.f < y.e) (h1 : leadPU x y) (h2 : leadPU y z) : leadPU x z := by
  rcases h1 with h1 | ⟨h1, h1'⟩ <;> rcases h2 with h2 | ⟨h2, h2'⟩
  · exact .inl (kl_trans h1 h2)
  · exact .inl (h2 ▸ h1)
  · exact .inl (h1 ▸ h2)
  · refine .inr ⟨h1.trans h2, .inl ?_⟩
    rcases h1' with h1' | ⟨h1', _⟩ <;> rcases h2' with h2' | ⟨h2', _⟩ <;> omega
theorem tight_goPU : ∀ (l : List RowV) (y : RowV), leadsGo y l = true → (∀ x ∈ l, spanOk x) → TightPU (y :: l)
  | [], y, _, _ => List.pairwise_singleton _ _
  | x :: l, y, h, hs => by
    rw [leadsGo, Bool.and_eq_true, Bool.and_eq_true] at h
    have hl := lead_ofPU h.1.2
    have ht := tight_goPU l x h.2 (fun z hz => hs z (List.mem_cons_of_mem _ hz))
    refine List.pairwise_cons.2 ⟨fun z hz => ?_, ht⟩
    rcases List.mem_cons.1 hz with rfl | hz
    · exact hl
    · exact lead_transPU (hs x (List.mem_cons_self ..)).2.1 hl ((List.pairwise_cons.1 ht).1 z hz)
theorem tight_relPU {l : List RowV} (h : relOk l = true) : (∀ x ∈ l, spanOk x) ∧ TightPU l := by
  have hs : ∀ x ∈ l, spanOk x := fun x hx => (rowOk_iff.1 ((rel_apart h).1 x hx)).2.2
  refine ⟨hs, ?_⟩
  have h2 := ((relOk_iff l).1 h).2
  cases l with
  | nil => exact List.Pairwise.nil
  | cons y l =>
    rw [relAll, Bool.and_eq_true] at h2
    exact tight_goPU l y h2.2 (fun x hx => hs x (List.mem_cons_of_mem _ hx))

theorem lead_BU {x y : RowV} (h : leadPU x y) : leadB x y = true := by
  unfold leadB
  by_cases hk : (x.k.toList == y.k.toList) = true
  · rw [if_pos hk]
    rcases h with h | ⟨_, h⟩
    · rw [same_key.1 hk] at h
      exact absurd h (by rw [kl_irrefl]; simp)
    · rcases h with h | ⟨h, ht⟩
      · rw [Bool.and_eq_true, decide_eq_true_eq]
        refine ⟨by omega, ?_⟩
        rw [decide_eq_false (show ¬ x.e = y.f by omega)]; simp
      · rw [Bool.and_eq_true, decide_eq_true_eq]
        refine ⟨by omega, ?_⟩
        have : (x.t.toList == y.t.toList) = false := by
          rw [← Bool.not_eq_true]; exact fun e => ht (same_key.1 e)
        rw [this]; simp
  · rw [if_neg hk]
    rcases h with h | ⟨h, _⟩
    · exact h
    · exact absurd (same_key.2 h) hk
theorem go_tightU : ∀ (l : List RowV) (y : RowV), TightPU (y :: l) → (∀ x ∈ l, rowOk x = true) → leadsGo y l = true
  | [], y, _, _ => rfl
  | x :: l, y, h, hr => by
    have hp := List.pairwise_cons.1 h
    rw [leadsGo, hr x (List.mem_cons_self ..), lead_BU (hp.1 x (List.mem_cons_self ..)), go_tightU l x hp.2 (fun z hz => hr z (List.mem_cons_of_mem _ hz))]
    rfl
/-- Part of a table is a table. -/
theorem rel_subU {l m : List RowV} (h : relOk l = true) (hs : m.Sublist l) : relOk m = true := by
  obtain ⟨hr, _⟩ := rel_apart h
  obtain ⟨_, ht⟩ := tight_relPU h
  have hl := ((relOk_iff l).1 h).1
  have hrm : ∀ x ∈ m, rowOk x = true := fun x hx => hr x (hs.subset hx)
  have htm : TightPU m := ht.sublist hs
  refine (relOk_iff m).2 ⟨Nat.le_trans hs.length_le hl, ?_⟩
  cases m with
  | nil => rfl
  | cons y m =>
    rw [relAll, hrm y (List.mem_cons_self ..), go_tightU m y htm (fun x hx => hrm x (List.mem_cons_of_mem _ hx))]
    rfl
end Go.Proofs.Ytphinkcfmdnpfaa
