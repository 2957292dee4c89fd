/-
  What an argument holds: a slice of nodes.
-/
import Derived.Test.YtphinkcfmdnpfaaArgR
import Derived.Test.YtphinkcfmdnpfaaNodM
namespace Go.Proofs.Ytphinkcfmdnpfaa
open Go.ChangeShapes Go.WideShapes Go.ChangeAt Go.RowKit Go.Deep

theorem Try.cellsNd123 : Try.prog.cellsOf 123 = 6 := by kernel_rfl

set_option maxRecDepth 100000 in
theorem nod_of_cells {H : Type} {enc : TypeId × Value → H} {W : World} {sp : Nat → Bool} {fuel : Nat} {cs : List Value} {x : DataW H × List MemPlace}
    (h : DataW.trod enc Try.prog W 0 sp true fuel 123 cs = some x) : ∃ r : NodV, cs = nodC r ∧ r.r.k.size ≤ maxLen ∧ r.r.t.size ≤ maxLen := by
  obtain ⟨xs, n, _, _, hl, hxl, hf⟩ := DataW.trod_struct Try.underlying123 h
  have hl6 : cs.length = 6 := hl.trans Try.cellsNd123
  have hx3 : xs.length = 3 := hxl
  have h0 := hf 0 _ rfl
  have h1 := hf 1 _ rfl
  have h2 := hf 2 _ rfl
  match cs, hl6, xs, hx3 with
  | [c0, c1, c2, c3, c4, c5], _, [y0, y1, y2], _ =>
    have h0' : DataW.trod enc Try.prog W 0 sp true n 112 [c0, c1, c2, c3] = some y0 := h0
    have h1' : DataW.trod enc Try.prog W 0 sp true n 3 [c4] = some y1 := h1
    have h2' : DataW.trod enc Try.prog W 0 sp true n 3 [c5] = some y2 := h2
    obtain ⟨r, hr, r1, r2⟩ := row_of_cells h0'
    obtain ⟨a, ea, _, _⟩ := DataW.trod_int Try.underlying3 h1'
    obtain ⟨b, eb, _, _⟩ := DataW.trod_int Try.underlying3 h2'
    simp at ea eb
    subst ea eb
    simp [rowC] at hr
    obtain ⟨rfl, rfl, rfl, rfl⟩ := hr
    exact ⟨⟨r, a, b⟩, rfl, r1, r2⟩

set_option maxRecDepth 100000 in
theorem nods_of_fuel {H : Type} {enc : TypeId × Value → H} {W : World} {fuel : Nat} {ad : Option Addr} {len cap : Nat} {x : DataW H × List MemPlace}
    (hf : DataW.trod enc Try.prog W 0 (fun _ => true) true fuel 57 [.slice ad len cap] = some x) : ∃ zs, NodsA W ad zs ∧ zs.length = len ∧ len ≤ maxLen ∧ ShortN zs := by
  rcases open_slice Try.underlying57 hf with ⟨hcs, _⟩ | ⟨a, len', cap', m, n, D, Pl, hcs, _, hl, hm, hmm, _, hc⟩
  · simp at hcs
    obtain ⟨rfl, rfl, rfl⟩ := hcs
    exact ⟨[], ElAt.nil _ _, rfl, Nat.zero_le _, fun r h => absurd h (by simp)⟩
  · simp at hcs
    obtain ⟨rfl, rfl, rfl⟩ := hcs
    simp only [if_true] at hmm
    subst hmm
    by_cases hpos : 0 < len
    · obtain ⟨b, off, spot⟩ := a
      have hsp : spot = none := by
        obtain ⟨cs', hcells, ht⟩ := hc 0 (by omega)
        obtain ⟨r, rfl, b0, b1⟩ := nod_of_cells ht
        rw [Try.cellsNd123] at hcells
        obtain ⟨_, _, hat⟩ := World.cells?_some hcells
        have h0 := hat 0 (by omega)
        have := World.cell?_spot (h0.trans (show (nodC r)[0]? = some (.string r.r.k) from rfl))
        simpa [Addr.add] using this
      subst hsp
      have key : ∀ i, ∃ r : NodV, i < len → (r.r.k.size ≤ maxLen ∧ r.r.t.size ≤ maxLen) ∧ b < W.heap.size ∧ ∀ j u, (nodC r)[j]? = some u → W.cell? ⟨b, off + i * 6 + j, none⟩ = some u := fun i => by
        by_cases hi : i < len
        · obtain ⟨cs', hcells, ht⟩ := hc i (by omega)
          obtain ⟨r, rfl, b0, b1⟩ := nod_of_cells ht
          rw [Try.cellsNd123] at hcells
          obtain ⟨_, _, hat⟩ := World.cells?_some hcells
          have hcell : ∀ j u, (nodC r)[j]? = some u → W.cell? ⟨b, off + i * 6 + j, none⟩ = some u := fun j u hu => by
            have hj : j < 6 := by
              have := (List.getElem?_eq_some_iff.1 hu).1
              rw [nodC_len] at this
              exact this
            have e : ((Addr.add ⟨b, off, none⟩ (i * 6)).add j) = ⟨b, off + i * 6 + j, none⟩ := by
              unfold Addr.add
              by_cases h1 : i * 6 = 0 <;> by_cases h2 : j = 0 <;> simp [h1, h2]
            rw [← e]
            exact (hat j hj).trans hu
          exact ⟨r, fun _ => ⟨⟨b0, b1⟩, World.block_lt_of_cell? W ⟨b, off + i * 6 + 0, none⟩ (hcell 0 _ rfl), hcell⟩⟩
        · exact ⟨nod0, fun h => absurd h hi⟩
      obtain ⟨R, hR⟩ := Classical.axiomOfChoice key
      refine ⟨(List.range len).map R, fun hn => ?_, by simp, by omega, fun r hr => ?_⟩
      · refine ⟨b, off, rfl, (hR 0 hpos).2.1, fun i x hx j u hu => ?_⟩
        have hi : i < len := by
          have := (List.getElem?_eq_some_iff.1 hx).1
          simpa using this
        have hx' : R i = x := by simpa [hi] using hx
        subst hx'
        exact (hR i hi).2.2 j u hu
      · obtain ⟨i, hi, rfl⟩ := List.mem_map.1 hr
        exact (hR i (by simpa using hi)).1
    · have h0 : len = 0 := by omega
      subst h0
      exact ⟨[], ElAt.nil _ _, rfl, Nat.zero_le _, fun r h => absurd h (by simp)⟩

theorem nods_of_trod {H : Type} {enc : TypeId × Value → H} {W : World} {ad : Option Addr} {len cap : Nat} {d : DataW H} {p : List MemPlace}
    (h : DataW.Trod enc Try.prog W 0 (fun _ => true) true 57 (.slice ad len cap) d p) : ∃ zs, NodsA W ad zs ∧ zs.length = len ∧ len ≤ maxLen ∧ ∀ r ∈ zs, r.r.k.size ≤ maxLen ∧ r.r.t.size ≤ maxLen := by
  obtain ⟨fuel, hf⟩ := h
  exact nods_of_fuel hf
end Go.Proofs.Ytphinkcfmdnpfaa
