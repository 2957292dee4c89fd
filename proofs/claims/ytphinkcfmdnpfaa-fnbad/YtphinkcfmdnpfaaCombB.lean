/-
  Plain: children whose text is no key of a parent.
-/
import Derived.Test.YtphinkcfmdnpfaaCombJ
import Derived.Test.YtphinkcfmdnpfaaRelSp
import Derived.Test.YtphinkcfmdnpfaaSubL
namespace Go.Proofs.Ytphinkcfmdnpfaa
open Go.RowKit

theorem canon_gaps : ∀ {zs : List (Int × Int)} {lo : Int}, canon lo zs → (∀ z ∈ zs, lo < z.1 ∧ z.1 < z.2 ∧ z.2 ≤ 100) ∧ zs.Pairwise fun p q => p.2 < q.1
  | [], _, _ => ⟨fun z hz => (by cases hz), List.Pairwise.nil⟩
  | z :: l, lo, h => by
    obtain ⟨c1, c2, c3, c4⟩ := h
    obtain ⟨h1, h2⟩ := canon_gaps c4
    refine ⟨fun y hy => ?_, List.pairwise_cons.2 ⟨fun y hy => (h1 y hy).1, h2⟩⟩
    rcases List.mem_cons.1 hy with rfl | hy
    · exact ⟨c1, c2, c3⟩
    · have := h1 y hy; exact ⟨by omega, this.2⟩
theorem has_spans {zs : List RowV} (hz : relOk zs = true) {key : ByteArray} {c : Int} : has (relSpansL zs key) c ↔ ∃ u, held zs key u c := by
  unfold relSpansL
  rw [if_pos hz, has_addAll (spansTo_ok hz key _)]
  unfold spansTo has
  rw [List.take_length]
  constructor
  · rintro ⟨s, hs, h1, h2⟩
    obtain ⟨x, hx, rfl⟩ := List.mem_map.1 hs
    obtain ⟨hx, hk⟩ := List.mem_filter.1 hx
    exact ⟨x.t, x, hx, same_key.1 hk, rfl, h1, h2⟩
  · rintro ⟨u, x, hx, hk, _, h1, h2⟩
    exact ⟨spanOf x, List.mem_map.2 ⟨x, List.mem_filter.2 ⟨hx, same_key.2 hk⟩, rfl⟩, h1, h2⟩
theorem one_canon {f e : Int} (h : 0 ≤ f ∧ f < e ∧ e ≤ 100) : canon (-1) [(f, e)] := ⟨by show -1 < f; omega, h.2.1, h.2.2, trivial⟩
/-- What of a child's span its parent does not hold. -/
def badS (parent : List RowV) (x : RowV) : List (Int × Int) := subL [(x.f, x.e)] (relSpansL parent x.t)
def badRow (parent : List RowV) (x : RowV) : List RowV := (badS parent x).map fun p => ⟨x.k, x.t, p.1, p.2⟩
def badAll (child parent : List RowV) : List RowV := child.flatMap (badRow parent)
theorem badS_facts {parent : List RowV} {x : RowV} (hx : spanOk x) : (∀ c, has (badS parent x) c ↔ (x.f ≤ c ∧ c < x.e) ∧ ¬ has (relSpansL parent x.t) c) ∧ canon (-1) (badS parent x) := by
  have h := fun p => has_subL p (relSpansL parent x.t) [(x.f, x.e)] (-1) (-1) (one_canon hx) ((setOk_iff _).1 (relSpansL_ok parent x.t))
  refine ⟨fun c => ?_, (h 0).2⟩
  unfold badS
  rw [(h c).1, has_cons]
  simp [has_nil]
theorem badS_in {parent : List RowV} {x : RowV} (hx : spanOk x) {p : Int × Int} (hp : p ∈ badS parent x) : x.f ≤ p.1 ∧ p.1 < p.2 ∧ p.2 ≤ x.e := by
  obtain ⟨h1, h2⟩ := badS_facts (parent := parent) hx
  obtain ⟨g1, g2, g3⟩ := (canon_gaps h2).1 p hp
  have e1 := ((h1 p.1).1 ⟨p, hp, Int.le_refl _, g2⟩).1
  have e2 := ((h1 (p.2 - 1)).1 ⟨p, hp, by omega, by omega⟩).1
  omega
theorem badRow_in {parent : List RowV} {x y : RowV} (hx : spanOk x) (h : y ∈ badRow parent x) : y.k = x.k ∧ y.t = x.t ∧ x.f ≤ y.f ∧ y.f < y.e ∧ y.e ≤ x.e := by
  obtain ⟨p, hp, rfl⟩ := List.mem_map.1 h
  exact ⟨rfl, rfl, badS_in hx hp⟩
theorem badAll_rel {child parent : List RowV} (hc : relOk child = true) : relAll (badAll child parent) = true := by
  obtain ⟨h1, h2⟩ := (relAll_pair child).1 ((relOk_iff child).1 hc).2
  have hs := (tight_rel hc).1
  refine (relAll_pair _).2 ⟨fun y hy => ?_, ?_⟩
  · obtain ⟨x, hx, hy⟩ := List.mem_flatMap.1 hy
    exact rowOk_in (h1 x hx) (badRow_in (hs x hx) hy)
  · unfold badAll
    rw [List.pairwise_flatMap]
    constructor
    · intro x hx
      unfold badRow
      rw [List.pairwise_map]
      refine (canon_gaps (badS_facts (parent := parent) (hs x hx)).2).2.imp fun {p q} h => ⟨.inr ⟨rfl, by show p.2 ≤ q.1; omega⟩, ?_⟩
      cases ht : touchB _ _ with
      | false => rfl
      | true =>
        have h3 : p.2 = q.1 := (touch_iff.1 ht).2.2
        omega
    · refine List.Pairwise.imp_of_mem ?_ h2
      intro x y mx my hxy x' hx' y' hy'
      obtain ⟨k1, k2, k3, k4, k5⟩ := badRow_in (hs x mx) hx'
      obtain ⟨j1, j2, j3, j4, j5⟩ := badRow_in (hs y my) hy'
      exact tadj_in hxy ⟨k1, k2, k5⟩ ⟨j1, j2, j3⟩
theorem bad_held {child parent : List RowV} (ha : relOk child = true) (hb : relOk parent = true) (k t : ByteArray) (c : Int) : held (badAll child parent) k t c ↔ (⟨k, t⟩ : PairV) ∈ badF (atR child c) (atR parent c) := by
  unfold badF
  rw [List.mem_filter, mem_at, noText_iff, at_get hb]
  constructor
  · rintro ⟨y, hy, e1, e2, h1, h2⟩
    obtain ⟨x, hx, hy⟩ := List.mem_flatMap.1 hy
    have hsx := (tight_rel ha).1 x hx
    obtain ⟨p, hp, rfl⟩ := List.mem_map.1 hy
    have hh := ((badS_facts (parent := parent) hsx).1 c).1 ⟨p, hp, h1, h2⟩
    have e1 : x.k = k := e1
    have e2 : x.t = t := e2
    subst e1 e2
    refine ⟨⟨x, hx, rfl, rfl, hh.1⟩, fun u hu => hh.2 ((has_spans hb).2 ⟨u, hu⟩)⟩
  · rintro ⟨⟨x, hx, rfl, rfl, h1⟩, h2⟩
    have hsx := (tight_rel ha).1 x hx
    obtain ⟨p, hp, q1, q2⟩ := ((badS_facts (parent := parent) hsx).1 c).2 ⟨h1, fun hh => by
      obtain ⟨u, hu⟩ := (has_spans hb).1 hh
      exact h2 u hu⟩
    exact ⟨⟨x.k, x.t, p.1, p.2⟩, List.mem_flatMap.2 ⟨x, hx, List.mem_map.2 ⟨p, hp, rfl⟩⟩, rfl, rfl, q1, q2⟩
theorem bad_comb {child parent s : List RowV} (ha : relOk child = true) (hb : relOk parent = true) (hs : Ordered s) (hp : s.Perm (combR badF child parent (stepsOf (child ++ parent)))) : joinRows s = badAll child parent := by
  obtain ⟨s1, t1⟩ := tight_all (badAll_rel (parent := parent) ha)
  exact comb_eq (ok_spans ha hb) rfl (fun c => (at_apart (rel_apart ha).2 c).sublist List.filter_sublist) hs hp s1 t1 (bad_held ha hb)
theorem badRow_len {parent : List RowV} {x : RowV} (hx : spanOk x) : (badRow parent x).length ≤ 100 := by
  unfold badRow
  rw [List.length_map]
  exact setOk_len ((setOk_iff _).2 (badS_facts hx).2)
end Go.Proofs.Ytphinkcfmdnpfaa
