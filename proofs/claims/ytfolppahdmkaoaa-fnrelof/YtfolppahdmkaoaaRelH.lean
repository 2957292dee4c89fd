/-
  Plain: the table of rows in any order: what it has at each point; the order does not matter.
-/
import Derived.Test.YtfolppahdmkaoaaRelG
namespace Go.Proofs.Ytfolppahdmkaoaa
open Go.RowKit

theorem apart_ordered {m : List RowV} (h : Apart m) (hv : ∀ x ∈ m, x.f < x.e) : Ordered m := by
  refine List.Pairwise.imp_of_mem ?_ h
  intro x y hx hy hxy
  have h1 := adj_less (hv x hx) hxy
  cases hn : lessB y x with
  | false => rfl
  | true =>
    have := swoRow.trans _ _ _ h1 hn
    rw [swoRow.irrefl] at this
    cases this
/-- Rows of which no two of a key hold at once, in any order, laid. -/
theorem lay_of {l m : List RowV} (hm : Apart m) (hr : ∀ x ∈ m, rowOk x = true) (hp : m.Perm l) : layAll [] l = some m := by
  cases h : layAll [] l with
  | none => exact absurd hm (layAll_none l [] h m (by simpa using hp) hr)
  | some m' =>
    obtain ⟨h1, h2, h3⟩ := layAll_some l [] m' List.Pairwise.nil (by intro x hx; cases hx) h
    rw [List.append_nil] at h3
    have hv : ∀ x ∈ m, x.f < x.e := fun x hx => (rowOk_iff.1 (hr x hx)).2.2.2.1
    have hv' : ∀ x ∈ m', x.f < x.e := fun x hx => (rowOk_iff.1 (h2 x hx)).2.2.2.1
    rw [apart_unique m' m (apart_ordered h1 hv') hm hv (h3.trans hp.symm)]
theorem relOf_made {l : List RowV} (h : relOfL l ≠ []) : ∃ m, Apart m ∧ (∀ x ∈ m, rowOk x = true) ∧ m.Perm l ∧ relOfL l = joinRows m ∧ (joinRows m).length ≤ 24 := by
  unfold relOfL at h ⊢
  cases e : layAll [] l with
  | none => rw [e] at h; exact absurd rfl h
  | some m =>
    rw [e] at h
    obtain ⟨h1, h2, h3⟩ := layAll_some l [] m List.Pairwise.nil (by intro x hx; cases hx) e
    rw [List.append_nil] at h3
    by_cases hl : (joinRows m).length ≤ 24
    · exact ⟨m, h1, h2, h3, if_pos hl, hl⟩
    · exact absurd (if_neg hl) h
theorem relOf_table {l : List RowV} (h : relOfL l ≠ []) : relOk (relOfL l) = true := by
  obtain ⟨m, h1, h2, h3, h4, h5⟩ := relOf_made h
  rw [h4]
  exact (relOk_join m (fun x hx => (rowOk_iff.1 (h2 x hx)).2.2)).2 ⟨h5, h2, h1⟩
theorem relOf_held {l : List RowV} (h : relOfL l ≠ []) {k t : ByteArray} {c : Int} : held (relOfL l) k t c ↔ held l k t c := by
  obtain ⟨m, h1, h2, h3, h4, h5⟩ := relOf_made h
  rw [h4, held_join (fun x hx => (rowOk_iff.1 (h2 x hx)).2.2.2.1)]
  exact held_mem (fun x => h3.mem_iff)
theorem relOf_get {l : List RowV} (h : relOfL l ≠ []) {x : RowV} (hx : x ∈ l) {c : Int} (h1 : x.f ≤ c) (h2 : c < x.e) : relGetL (relOfL l) x.k c = x.t :=
  get_held (relOf_table h) (relOf_held h |>.2 ⟨x, hx, rfl, rfl, h1, h2⟩)
theorem relOf_rows {l : List RowV} (h : relOfL l ≠ []) : ∀ x ∈ l, rowOk x = true := fun x hx => by
  obtain ⟨m, h1, h2, h3, h4, h5⟩ := relOf_made h
  exact h2 x (h3.mem_iff.2 hx)
theorem relOf_perm {l l' : List RowV} (h : relOfL l ≠ []) (hp : l.Perm l') : relOfL l' = relOfL l := by
  obtain ⟨m, h1, h2, h3, h4, h5⟩ := relOf_made h
  rw [h4]
  unfold relOfL
  rw [lay_of h1 h2 (h3.trans hp)]
  exact if_pos h5
theorem relOf_self {t : List RowV} (h : relOk t = true) : relOfL t = t := by
  obtain ⟨h1, h2⟩ := rel_apart h
  have h3 := (relOk_iff t).1 h
  unfold relOfL
  rw [lay_of h2 h1 (List.Perm.refl _)]
  show (if (joinRows t).length ≤ 24 then joinRows t else []) = t
  rw [joinRows_rel t h3.2, if_pos h3.1]
theorem relOf_short {l : List RowV} (h : relOfL l ≠ []) : (relOfL l).length ≤ l.length := by
  obtain ⟨m, h1, h2, h3, h4, h5⟩ := relOf_made h
  rw [h4, ← h3.length_eq]
  exact joinRows_len m
end Go.Proofs.Ytfolppahdmkaoaa
