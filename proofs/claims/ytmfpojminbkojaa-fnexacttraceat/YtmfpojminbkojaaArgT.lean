/-
  What the arguments hold: a slice of traces.
-/
import Derived.Test.YtmfpojminbkojaaElI
import Derived.Test.YtmfpojminbkojaaRows
import Derived.ProofKit
import Derived.Deep.Slices
import Derived.Deep.Fields
namespace Go.Proofs.Ytmfpojminbkojaa
open Go.ChangeShapes Go.WideShapes Go.ChangeAt Go.RowKit Go.Deep

theorem Try.cellsR83 : Try.prog.cellsOf 83 = 2 := by kernel_rfl

set_option maxRecDepth 100000 in
theorem tra_of_cells {H : Type} {enc : TypeId × Value → H} {W : World} {sp : Nat → Bool} {fuel : Nat} {cs : List Value} {x : DataW H × List MemPlace}
    (h : DataW.trod enc Try.prog W 0 sp true fuel 83 cs = some x) : ∃ r : TraV, cs = traC r ∧ r.t.size ≤ maxLen := by
  obtain ⟨xs, n, _, _, hl, hxl, hf⟩ := DataW.trod_struct Try.underlying83 h
  have hl2 : cs.length = 2 := hl.trans Try.cellsR83
  have hx2 : xs.length = 2 := hxl
  have h0 := hf 0 _ rfl
  have h1 := hf 1 _ rfl
  match cs, hl2, xs, hx2 with
  | [c0, c1], _, [y0, y1], _ =>
    have h0' : DataW.trod enc Try.prog W 0 sp true n 3 [c0] = some y0 := h0
    have h1' : DataW.trod enc Try.prog W 0 sp true n 9 [c1] = some y1 := h1
    obtain ⟨a, ea, _, _⟩ := DataW.trod_int Try.underlying3 h0'
    obtain ⟨s1, e1, _, b1⟩ := DataW.trod_string Try.underlying9 h1'
    simp at ea e1
    subst ea e1
    exact ⟨⟨a, s1⟩, rfl, b1⟩

set_option maxRecDepth 100000 in
theorem tras_of_trod {H : Type} {enc : TypeId × Value → H} {W : World} {ad : Option Addr} {len cap : Nat} {d : DataW H} {p : List MemPlace}
    (h : DataW.Trod enc Try.prog W 0 (fun _ => true) true 41 (.slice ad len cap) d p) : ∃ zs, TrasA W ad zs ∧ zs.length = len ∧ len ≤ maxLen ∧ ∀ r ∈ zs, r.t.size ≤ maxLen := by
  obtain ⟨fuel, hf⟩ := h
  rcases open_slice Try.underlying41 hf with ⟨hcs, _⟩ | ⟨a, len', cap', m, n, D, Pl, hcs, _, hl, hm, hmm, _, hc⟩
  · simp [Value.cells] at hcs
    obtain ⟨rfl, rfl, rfl⟩ := hcs
    exact ⟨[], ElAt.nil _ _, rfl, Nat.zero_le _, fun r h => absurd h (by simp)⟩
  · simp [Value.cells] at hcs
    obtain ⟨rfl, rfl, rfl⟩ := hcs
    simp only [if_true] at hmm
    subst hmm
    by_cases hpos : 0 < len
    · obtain ⟨b, off, spot⟩ := a
      have hsp : spot = none := by
        obtain ⟨cs', hcells, ht⟩ := hc 0 (by omega)
        obtain ⟨r, rfl, b1⟩ := tra_of_cells ht
        rw [Try.cellsR83] at hcells
        obtain ⟨_, _, hat⟩ := World.cells?_some hcells
        have h0 := hat 0 (by omega)
        have := World.cell?_spot (h0.trans (show (traC r)[0]? = some (.int .i64 r.k) from rfl))
        simpa [Addr.add] using this
      subst hsp
      have key : ∀ i, ∃ r : TraV, i < len → r.t.size ≤ maxLen ∧ b < W.heap.size ∧ ∀ j u, (traC r)[j]? = some u → W.cell? ⟨b, off + i * 2 + j, none⟩ = some u := fun i => by
        by_cases hi : i < len
        · obtain ⟨cs', hcells, ht⟩ := hc i (by omega)
          obtain ⟨r, rfl, b1⟩ := tra_of_cells ht
          rw [Try.cellsR83] at hcells
          obtain ⟨_, _, hat⟩ := World.cells?_some hcells
          have hcell : ∀ j u, (traC r)[j]? = some u → W.cell? ⟨b, off + i * 2 + j, none⟩ = some u := fun j u hu => by
            have hj : j < 2 := by
              have := (List.getElem?_eq_some_iff.1 hu).1
              rw [traC_len] at this
              exact this
            have e : ((Addr.add ⟨b, off, none⟩ (i * 2)).add j) = ⟨b, off + i * 2 + j, none⟩ := by
              unfold Addr.add
              by_cases h1 : i * 2 = 0 <;> by_cases h2 : j = 0 <;> simp [h1, h2]
            rw [← e]
            exact (hat j hj).trans hu
          exact ⟨r, fun _ => ⟨b1, World.block_lt_of_cell? W ⟨b, off + i * 2 + 0, none⟩ (hcell 0 _ rfl), hcell⟩⟩
        · exact ⟨tra0, fun h => absurd h hi⟩
      obtain ⟨R, hR⟩ := Classical.axiomOfChoice key
      refine ⟨(List.range len).map R, fun hn => ?_, by simp, by omega, fun r hr => ?_⟩
      · refine ⟨b, off, rfl, (hR 0 hpos).2.1, fun i x hx j u hu => ?_⟩
        have hi : i < len := by
          have := (List.getElem?_eq_some_iff.1 hx).1
          simpa using this
        have hx' : R i = x := by simpa [hi] using hx
        subst hx'
        exact (hR i hi).2.2 j u hu
      · obtain ⟨i, hi, rfl⟩ := List.mem_map.1 hr
        exact (hR i (by simpa using hi)).1
    · have h0 : len = 0 := by omega
      subst h0
      exact ⟨[], ElAt.nil _ _, rfl, Nat.zero_le _, fun r h => absurd h (by simp)⟩
end Go.Proofs.Ytmfpojminbkojaa
