/-
  What the arguments hold: a slice of slices of rows.
-/
import Derived.Test.YtacddgipcafdlaaArgR
import Derived.Test.YtacddgipcafdlaaStoAs
namespace Go.Proofs.Ytacddgipcafdlaa
open Go.ChangeShapes Go.WideShapes Go.ChangeAt Go.RowKit Go.Deep

theorem Try.cellsRR81 : Try.prog.cellsOf 81 = 1 := by kernel_rfl

set_option maxRecDepth 100000 in
theorem rows_of_cells {H : Type} {enc : TypeId × Value → H} {W : World} {fuel : Nat} {cs : List Value} {x : DataW H × List MemPlace}
    (h : DataW.trod enc Try.prog W 0 (fun _ => true) true fuel 81 cs = some x) : ∃ (At : Option Addr) (ct : Nat) (t : List RowV), cs = [.slice At t.length ct] ∧ RowsA W At t ∧ t.length ≤ maxLen ∧ ∀ r ∈ t, r.k.size ≤ maxLen ∧ r.t.size ≤ maxLen := by
  rcases open_slice Try.underlying81 h with ⟨hcs, _⟩ | ⟨a, len', cap', m, n, D, Pl, hcs, _⟩
  · subst hcs
    obtain ⟨d, p⟩ := x
    obtain ⟨zs, h1, h2, h3, h4⟩ := rows_of_trod (ad := none) (len := 0) (cap := 0) (d := d) (p := p) ⟨fuel, h⟩
    exact ⟨none, 0, zs, by rw [h2], h1, by omega, h4⟩
  · subst hcs
    obtain ⟨d, p⟩ := x
    obtain ⟨zs, h1, h2, h3, h4⟩ := rows_of_trod (ad := some a) (len := len') (cap := cap') (d := d) (p := p) ⟨fuel, h⟩
    exact ⟨some a, cap', zs, by rw [h2], h1, by omega, h4⟩

set_option maxRecDepth 100000 in
theorem rowss_of_trod {H : Type} {enc : TypeId × Value → H} {W : World} {ad : Option Addr} {len cap : Nat} {d : DataW H} {p : List MemPlace}
    (h : DataW.Trod enc Try.prog W 0 (fun _ => true) true 22 (.slice ad len cap) d p) : ∃ tts, TabsA W ad tts ∧ tts.length = len ∧ len ≤ maxLen ∧ ∀ t ∈ tts, t.length ≤ maxLen ∧ ∀ r ∈ t, r.k.size ≤ maxLen ∧ r.t.size ≤ maxLen := by
  obtain ⟨fuel, hf⟩ := h
  rcases open_slice Try.underlying22 hf with ⟨hcs, _⟩ | ⟨a, len', cap', m, n, D, Pl, hcs, _, hl, hm, hmm, _, hc⟩
  · simp [Value.cells] at hcs
    obtain ⟨rfl, rfl, rfl⟩ := hcs
    exact ⟨[], fun i t h => by simp at h, rfl, Nat.zero_le _, fun r h => absurd h (by simp)⟩
  · simp [Value.cells] at hcs
    obtain ⟨rfl, rfl, rfl⟩ := hcs
    simp only [if_true] at hmm
    subst hmm
    by_cases hpos : 0 < len
    · obtain ⟨b, off, spot⟩ := a
      have hsp : spot = none := by
        obtain ⟨cs', hcells, ht⟩ := hc 0 (by omega)
        obtain ⟨At, ct, t, rfl, _⟩ := rows_of_cells ht
        rw [Try.cellsRR81] at hcells
        obtain ⟨_, _, hat⟩ := World.cells?_some hcells
        have h0 := hat 0 (by omega)
        have := World.cell?_spot (h0.trans (show [Value.slice At t.length ct][0]? = some (.slice At t.length ct) from rfl))
        simpa [Addr.add] using this
      subst hsp
      have key : ∀ i, ∃ q : Option Addr × Nat × List RowV, i < len → ((q.2.2.length ≤ maxLen ∧ ∀ r ∈ q.2.2, r.k.size ≤ maxLen ∧ r.t.size ≤ maxLen) ∧ b < W.heap.size ∧ W.cell? ⟨b, off + i, none⟩ = some (.slice q.1 q.2.2.length q.2.1) ∧ RowsA W q.1 q.2.2) := fun i => by
        by_cases hi : i < len
        · obtain ⟨cs', hcells, ht⟩ := hc i (by omega)
          obtain ⟨At, ct, t, rfl, h1, h2, h3⟩ := rows_of_cells ht
          rw [Try.cellsRR81] at hcells
          obtain ⟨_, _, hat⟩ := World.cells?_some hcells
          have hcell : W.cell? ⟨b, off + i, none⟩ = some (.slice At t.length ct) := by
            have e : ((Addr.add ⟨b, off, none⟩ (i * 1)).add 0) = ⟨b, off + i, none⟩ := by
              unfold Addr.add
              by_cases h1 : i = 0 <;> simp [h1]
            rw [← e]
            exact (hat 0 (by omega)).trans rfl
          exact ⟨(At, ct, t), fun _ => ⟨⟨h2, h3⟩, World.block_lt_of_cell? W ⟨b, off + i, none⟩ hcell, hcell, h1⟩⟩
        · exact ⟨(none, 0, []), fun h => absurd h hi⟩
      obtain ⟨R, hR⟩ := Classical.axiomOfChoice key
      refine ⟨(List.range len).map (fun i => (R i).2.2), fun i t ht => ?_, by simp, by omega, fun t ht => ?_⟩
      · have hi : i < len := by
          have := (List.getElem?_eq_some_iff.1 ht).1
          simpa using this
        have hx' : (R i).2.2 = t := by simpa [hi] using ht
        subst hx'
        obtain ⟨_, h2, h3, h4⟩ := hR i hi
        exact ⟨b, off, (R i).1, (R i).2.1, rfl, h2, h3, h4⟩
      · obtain ⟨i, hi, rfl⟩ := List.mem_map.1 ht
        exact (hR i (by simpa using hi)).1
    · have h0 : len = 0 := by omega
      subst h0
      exact ⟨[], fun i t h => by simp at h, rfl, Nat.zero_le _, fun r h => absurd h (by simp)⟩
end Go.Proofs.Ytacddgipcafdlaa
