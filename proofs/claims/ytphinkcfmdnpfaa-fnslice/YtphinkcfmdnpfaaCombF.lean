/-
  Plain: what tables made out of two tables have at each point.
-/
import Derived.Test.YtphinkcfmdnpfaaCombI
namespace Go.Proofs.Ytphinkcfmdnpfaa
open Go.RowKit

theorem comb_true {a b X xs : List RowV} (h : combS a b X = (xs, true)) : relOk a = true ∧ relOk b = true ∧ xs = X ∧ relOk X = true := by
  unfold combS at h
  by_cases ha : relOk a = true
  · rw [if_pos ha] at h
    by_cases hb : relOk b = true
    · rw [if_pos hb] at h
      unfold fullL at h
      by_cases hX : relOk X = true
      · rw [if_pos hX] at h
        injection h with h _
        exact ⟨ha, hb, h.symm, hX⟩
      · rw [if_neg hX] at h; injection h with _ h; cases h
    · rw [if_neg hb] at h; injection h with _ h; cases h
  · rw [if_neg ha] at h; injection h with _ h; cases h
theorem ok_short {zs : List RowV} (h : relOk zs = true) : Short zs := fun r hr => by
  have := ok_small h r hr
  unfold maxLen
  omega
theorem less_facts {a b xs : List RowV} (h : relLessS a b = (xs, true)) : relOk a = true ∧ relOk b = true ∧ relOk xs = true ∧ ∀ c, relAtL xs c = lessF (relAtL a c) (relAtL b c) := by
  obtain ⟨ha, hb, rfl, hX⟩ := comb_true h
  refine ⟨ha, hb, hX, fun c => ?_⟩
  rw [relAt_R ha, relAt_R hb]
  exact at_known hX (less_held ha hb) c ((at_keys (rel_apart ha).2 c).sublist List.filter_sublist)
theorem both_facts {a b xs : List RowV} (h : relBothS a b = (xs, true)) : relOk a = true ∧ relOk b = true ∧ relOk xs = true ∧ ∀ c, relAtL xs c = bothF (relAtL a c) (relAtL b c) := by
  obtain ⟨ha, hb, rfl, hX⟩ := comb_true h
  refine ⟨ha, hb, hX, fun c => ?_⟩
  rw [relAt_R ha, relAt_R hb]
  exact at_known hX (both_held ha hb) c ((at_keys (rel_apart ha).2 c).sublist List.filter_sublist)
theorem join_facts {a b xs : List RowV} (h : relJoinS a b = (xs, true)) : relOk a = true ∧ relOk b = true ∧ relOk xs = true ∧ ∀ c, relAtL xs c = joinF (relAtL a c) (relAtL b c) := by
  obtain ⟨ha, hb, rfl, hX⟩ := comb_true h
  refine ⟨ha, hb, hX, fun c => ?_⟩
  rw [relAt_R ha, relAt_R hb]
  refine at_known hX (join_held ha hb) c ?_
  unfold joinF
  rw [List.pairwise_filterMap]
  refine List.Pairwise.imp ?_ (at_keys (rel_apart ha).2 c)
  intro p q hpq p' hp' q' hq'
  by_cases h1 : noText (getP p.k (atR b c)) = true
  · rw [if_pos h1] at hp'; cases hp'
  · by_cases h2 : noText (getP q.k (atR b c)) = true
    · rw [if_pos h2] at hq'; cases hq'
    · rw [if_neg h1] at hp'
      rw [if_neg h2] at hq'
      injection hp' with hp'
      injection hq' with hq'
      subst hp' hq'
      exact hpq
theorem pick_facts {t : List RowV} {text : ByteArray} (ht : relOk t = true) : relOk (relPickL t text) = true ∧ ∀ c, relAtL (relPickL t text) c = (relAtL t c).filter fun p => p.t.toList == text.toList := by
  have e : relPickL t text = pickAll t text := if_pos ht
  rw [e]
  refine ⟨pick_rel ht, fun c => ?_⟩
  rw [relAt_R ht]
  exact at_known (F := pickF text) (b := []) (pick_rel ht) (pick_held []) c ((at_keys (rel_apart ht).2 c).sublist List.filter_sublist)
theorem less_none {a : List RowV} (ha : relOk a = true) : lessAll a a = [] := by
  have hr := ((relOk_iff a).1 ha).2
  obtain ⟨s1, t1⟩ := tight_all (lessAll_rel a a (rel_len ha) hr)
  refine known _ _ s1 (fun x hx => by cases hx) t1 List.Pairwise.nil fun k t c => ?_
  rw [held_lessAll a a (rel_len ha) hr]
  constructor
  · rintro ⟨h1, h2⟩; exact absurd h1 (h2 t)
  · rintro ⟨x, hx, _⟩; cases hx
theorem less_self {a : List RowV} (ha : relOk a = true) : relLessS a a = ([], true) := by
  unfold relLessS combS
  rw [if_pos ha, if_pos ha, less_none ha]
  rfl
theorem both_self {a : List RowV} (ha : relOk a = true) : relBothS a a = (a, true) := by
  unfold relBothS combS
  rw [if_pos ha, if_pos ha, less_none ha]
  show fullL a = _
  unfold fullL
  rw [if_pos ha]
theorem either_self {a : List RowV} (ha : relOk a = true) : relEitherS a a = (a, true) := by
  unfold relEitherS combS eitherAll
  rw [if_pos ha, if_pos ha, less_none ha]
  show fullL (joinRows a) = _
  rw [joinRows_rel _ ((relOk_iff a).1 ha).2]
  unfold fullL
  rw [if_pos ha]
theorem either_facts {a b xs : List RowV} (h : relEitherS a b = (xs, true)) : relOk a = true ∧ relOk b = true ∧ relOk xs = true ∧ ∀ c, (relAtL xs c).Perm (eitherF (relAtL a c) (relAtL b c)) := by
  obtain ⟨ha, hb, rfl, hX⟩ := comb_true h
  refine ⟨ha, hb, hX, fun c => ?_⟩
  rw [relAt_R ha, relAt_R hb, relAt_R hX]
  have n1 : (atR (joinRows (eitherAll a b)) c).Nodup := (at_apart (rel_apart hX).2 c).imp fun {p q} h e => h (by rw [e])
  have n2 : (eitherF (atR a c) (atR b c)).Nodup := (either_keys ha hb c).imp fun {p q} h e => h (by rw [e])
  rw [List.perm_ext_iff_of_nodup n1 n2]
  intro p
  rw [← either_held ha hb p.k p.t c, ← mem_at]
end Go.Proofs.Ytphinkcfmdnpfaa
