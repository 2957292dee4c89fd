/-
  Plain: pairs of joins and of either, one by one.
-/
import Derived.Test.YtjopilcpmmfclaaCombI
namespace Go.Proofs.Ytjopilcpmmfclaa
open Go.RowKit

theorem comb_true {a b X xs : List RowV} (h : combS a b X = (xs, true)) : relOk a = true ∧ relOk b = true ∧ xs = X ∧ relOk X = true := by
  unfold combS at h
  by_cases ha : relOk a = true
  · rw [if_pos ha] at h
    by_cases hb : relOk b = true
    · rw [if_pos hb] at h
      unfold fullL at h
      by_cases hX : relOk X = true
      · rw [if_pos hX] at h
        injection h with h _
        exact ⟨ha, hb, h.symm, hX⟩
      · rw [if_neg hX] at h; injection h with _ h; cases h
    · rw [if_neg hb] at h; injection h with _ h; cases h
  · rw [if_neg ha] at h; injection h with _ h; cases h
theorem ok_short {zs : List RowV} (h : relOk zs = true) : Short zs := fun r hr => by
  have := ok_small h r hr
  unfold maxLen
  omega
theorem less_facts {a b xs : List RowV} (h : relLessS a b = (xs, true)) : relOk a = true ∧ relOk b = true ∧ relOk xs = true ∧ ∀ c, relAtL xs c = lessF (relAtL a c) (relAtL b c) := by
  obtain ⟨ha, hb, rfl, hX⟩ := comb_true h
  refine ⟨ha, hb, hX, fun c => ?_⟩
  rw [relAt_R ha, relAt_R hb]
  exact at_known hX (less_held ha hb) c ((at_keys (rel_apart ha).2 c).sublist List.filter_sublist)
theorem both_facts {a b xs : List RowV} (h : relBothS a b = (xs, true)) : relOk a = true ∧ relOk b = true ∧ relOk xs = true ∧ ∀ c, relAtL xs c = bothF (relAtL a c) (relAtL b c) := by
  obtain ⟨ha, hb, rfl, hX⟩ := comb_true h
  refine ⟨ha, hb, hX, fun c => ?_⟩
  rw [relAt_R ha, relAt_R hb]
  exact at_known hX (both_held ha hb) c ((at_keys (rel_apart ha).2 c).sublist List.filter_sublist)
theorem join_facts {a b xs : List RowV} (h : relJoinS a b = (xs, true)) : relOk a = true ∧ relOk b = true ∧ relOk xs = true ∧ ∀ c, relAtL xs c = joinF (relAtL a c) (relAtL b c) := by
  obtain ⟨ha, hb, rfl, hX⟩ := comb_true h
  refine ⟨ha, hb, hX, fun c => ?_⟩
  rw [relAt_R ha, relAt_R hb]
  refine at_known hX (join_held ha hb) c ?_
  unfold joinF
  rw [List.pairwise_filterMap]
  refine List.Pairwise.imp ?_ (at_keys (rel_apart ha).2 c)
  intro p q hpq p' hp' q' hq'
  by_cases h1 : noText (getP p.k (atR b c)) = true
  · rw [if_pos h1] at hp'; cases hp'
  · by_cases h2 : noText (getP q.k (atR b c)) = true
    · rw [if_pos h2] at hq'; cases hq'
    · rw [if_neg h1] at hp'
      rw [if_neg h2] at hq'
      injection hp' with hp'
      injection hq' with hq'
      subst hp' hq'
      exact hpq
theorem pick_facts {t : List RowV} {text : ByteArray} (ht : relOk t = true) : relOk (relPickL t text) = true ∧ ∀ c, relAtL (relPickL t text) c = (relAtL t c).filter fun p => p.t.toList == text.toList := by
  have e : relPickL t text = pickAll t text := if_pos ht
  rw [e]
  refine ⟨pick_rel ht, fun c => ?_⟩
  rw [relAt_R ht]
  exact at_known (F := pickF text) (b := []) (pick_rel ht) (pick_held []) c ((at_keys (rel_apart ht).2 c).sublist List.filter_sublist)
theorem less_none {a : List RowV} (ha : relOk a = true) : lessAll a a = [] := by
  have hr := ((relOk_iff a).1 ha).2
  obtain ⟨s1, t1⟩ := tight_all (lessAll_rel a a (rel_len ha) hr)
  refine known _ _ s1 (fun x hx => by cases hx) t1 List.Pairwise.nil fun k t c => ?_
  rw [held_lessAll a a (rel_len ha) hr]
  constructor
  · rintro ⟨h1, h2⟩; exact absurd h1 (h2 t)
  · rintro ⟨x, hx, _⟩; cases hx
theorem less_self {a : List RowV} (ha : relOk a = true) : relLessS a a = ([], true) := by
  unfold relLessS combS
  rw [if_pos ha, if_pos ha, less_none ha]
  rfl
theorem both_self {a : List RowV} (ha : relOk a = true) : relBothS a a = (a, true) := by
  unfold relBothS combS
  rw [if_pos ha, if_pos ha, less_none ha]
  show fullL a = _
  unfold fullL
  rw [if_pos ha]
theorem either_self {a : List RowV} (ha : relOk a = true) : relEitherS a a = (a, true) := by
  unfold relEitherS combS eitherAll
  rw [if_pos ha, if_pos ha, less_none ha]
  show fullL (joinRows a) = _
  rw [joinRows_rel _ ((relOk_iff a).1 ha).2]
  unfold fullL
  rw [if_pos ha]
theorem either_facts {a b xs : List RowV} (h : relEitherS a b = (xs, true)) : relOk a = true ∧ relOk b = true ∧ relOk xs = true ∧ ∀ c, (relAtL xs c).Perm (eitherF (relAtL a c) (relAtL b c)) := by
  obtain ⟨ha, hb, rfl, hX⟩ := comb_true h
  refine ⟨ha, hb, hX, fun c => ?_⟩
  rw [relAt_R ha, relAt_R hb, relAt_R hX]
  have n1 : (atR (joinRows (eitherAll a b)) c).Nodup := (at_apart (rel_apart hX).2 c).imp fun {p q} h e => h (by rw [e])
  have n2 : (eitherF (atR a c) (atR b c)).Nodup := (either_keys ha hb c).imp fun {p q} h e => h (by rw [e])
  rw [List.perm_ext_iff_of_nodup n1 n2]
  intro p
  rw [← either_held ha hb p.k p.t c, ← mem_at]
end Go.Proofs.Ytjopilcpmmfclaa
namespace Go.Proofs.Ytjopilcpmmfclaa
open Go.RowKit

theorem getP_of {ps : List PairV} (h : KeysApart ps) {p : PairV} (hp : p ∈ ps) : getP p.k ps = p.t := by
  obtain ⟨r, hr, e1, e2⟩ := getP_mem (key := p.k) ⟨p, hp, rfl⟩
  rw [e2]
  by_cases e : r = p
  · rw [e]
  · exfalso
    obtain ⟨i, hi, rfl⟩ := List.mem_iff_getElem.1 hr
    obtain ⟨j, hj, rfl⟩ := List.mem_iff_getElem.1 hp
    rcases Nat.lt_trichotomy i j with h1 | h1 | h1
    · exact List.pairwise_iff_getElem.1 h i j hi hj h1 e1
    · subst h1; exact e rfl
    · exact List.pairwise_iff_getElem.1 h j i hj hi h1 e1.symm
theorem relAt_keys {zs : List RowV} (h : relOk zs = true) (c : Int) : KeysApart (relAtL zs c) := by rw [relAt_R h]; exact at_apart (rel_apart h).2 c
theorem relAt_text {zs : List RowV} (h : relOk zs = true) {c : Int} {p : PairV} (hp : p ∈ relAtL zs c) : noText p.t = false := by
  rw [relAt_R h] at hp
  have h1 := held_text h (mem_at.1 (show (⟨p.k, p.t⟩ : PairV) ∈ _ from hp))
  rw [← Bool.not_eq_true, noText_iff]
  intro e
  rw [e] at h1
  exact absurd h1 (by decide)
theorem relAt_small {zs : List RowV} (h : relOk zs = true) (c : Int) : Small (relAtL zs c) := by rw [relAt_R h]; exact at_small (ok_small h) c
theorem getP_join {ps qs : List PairV} (h : KeysApart ps) {p : PairV} (hp : p ∈ ps) : getP p.k (joinF ps qs) = if noText (getP p.k qs) = true then ⟨#[]⟩ else joinT p.t (getP p.k qs) := by
  by_cases hn : noText (getP p.k qs) = true
  · rw [if_pos hn]
    refine getP_no fun r hr e => ?_
    obtain ⟨s, hs, hns, rfl⟩ := joinF_mem.1 hr
    rw [show s.k = p.k from e, hn] at hns
    cases hns
  · rw [if_neg hn]
    exact getP_of (joinF_apart h) (joinF_mem.2 ⟨p, hp, by simpa using hn, rfl⟩ : (⟨p.k, joinT p.t (getP p.k qs)⟩ : PairV) ∈ joinF ps qs)
theorem joinT_text (t u : ByteArray) : noText (joinT t u) = false := by
  rw [← Bool.not_eq_true, noText_iff]
  intro e
  have h : (joinT t u).size = 0 := by rw [e]; rfl
  unfold joinT at h
  rw [ByteArray.size_append, ByteArray.size_append] at h
  have : plusB.size = 1 := rfl
  omega
theorem either_one_of {a b xs : List RowV} (h : relEitherS a b = (xs, true)) {c : Int} {p : PairV} (hp : p ∈ relAtL xs c) :
    (noText (relGetL a p.k c) = false ∧ relGetL a p.k c = p.t) ∨ (noText (relGetL a p.k c) = true ∧ relGetL b p.k c = p.t) := by
  obtain ⟨ha, hb, hx, hf⟩ := either_facts h
  have hm := (hf c).subset hp
  unfold eitherF at hm
  rcases List.mem_append.1 hm with hm | hm
  · have e := getP_of (relAt_keys ha c) hm
    exact .inl ⟨by unfold relGetL; rw [e]; exact relAt_text ha hm, e⟩
  · obtain ⟨h1, h2⟩ := List.mem_filter.1 hm
    exact .inr ⟨h2, getP_of (relAt_keys hb c) h1⟩
theorem either_many {a b xs : List RowV} (h : relEitherS a b = (xs, true)) (c : Int) : (relAtL xs c).length = (relAtL a c).length + ((relAtL b c).filter fun p => noText (getP p.k (relAtL a c))).length := by
  rw [((either_facts h).2.2.2 c).length_eq]
  unfold eitherF lessF
  rw [List.length_append]
end Go.Proofs.Ytjopilcpmmfclaa
