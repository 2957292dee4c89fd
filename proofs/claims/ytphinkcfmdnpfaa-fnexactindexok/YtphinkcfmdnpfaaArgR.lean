/-
  What the arguments hold: a row, a slice of rows, a text.
-/
import Derived.Test.YtphinkcfmdnpfaaRowD
import Derived.Test.YtphinkcfmdnpfaaRows
import Derived.ProofKit
import Derived.Deep.Slices
import Derived.Deep.Fields
namespace Go.Proofs.Ytphinkcfmdnpfaa
open Go.ChangeShapes Go.WideShapes Go.ChangeAt Go.RowKit Go.Deep

theorem Try.cellsR112 : Try.prog.cellsOf 112 = 4 := by kernel_rfl
theorem Try.cellsR62 : Try.prog.cellsOf 62 = 2 := by kernel_rfl
theorem Try.cellsR3 : Try.prog.cellsOf 3 = 1 := by kernel_rfl
theorem Try.cellsR9 : Try.prog.cellsOf 9 = 1 := by kernel_rfl

set_option maxRecDepth 100000 in
theorem row_of_cells {H : Type} {enc : TypeId × Value → H} {W : World} {sp : Nat → Bool} {fuel : Nat} {cs : List Value} {x : DataW H × List MemPlace}
    (h : DataW.trod enc Try.prog W 0 sp true fuel 112 cs = some x) : ∃ r : RowV, cs = rowC r ∧ r.k.size ≤ maxLen ∧ r.t.size ≤ maxLen := by
  obtain ⟨xs, n, _, _, hl, hxl, hf⟩ := DataW.trod_struct Try.underlying112 h
  have hl4 : cs.length = 4 := hl.trans Try.cellsR112
  have hx3 : xs.length = 3 := hxl
  have h0 := hf 0 _ rfl
  have h1 := hf 1 _ rfl
  have h2 := hf 2 _ rfl
  match cs, hl4, xs, hx3 with
  | [c0, c1, c2, c3], _, [y0, y1, y2], _ =>
    have h0' : DataW.trod enc Try.prog W 0 sp true n 9 [c0] = some y0 := h0
    have h1' : DataW.trod enc Try.prog W 0 sp true n 9 [c1] = some y1 := h1
    have h2' : DataW.trod enc Try.prog W 0 sp true n 62 [c2, c3] = some y2 := h2
    obtain ⟨s0, e0, _, b0⟩ := DataW.trod_string Try.underlying9 h0'
    obtain ⟨s1, e1, _, b1⟩ := DataW.trod_string Try.underlying9 h1'
    obtain ⟨ys, n', _, _, hl', hyl, hg⟩ := DataW.trod_struct Try.underlying62 h2'
    have hy2 : ys.length = 2 := hyl
    have g0 := hg 0 _ rfl
    have g1 := hg 1 _ rfl
    match ys, hy2 with
    | [z0, z1], _ =>
      have g0' : DataW.trod enc Try.prog W 0 sp true n' 3 [c2] = some z0 := g0
      have g1' : DataW.trod enc Try.prog W 0 sp true n' 3 [c3] = some z1 := g1
      obtain ⟨a, ea, _, _⟩ := DataW.trod_int Try.underlying3 g0'
      obtain ⟨b, eb, _, _⟩ := DataW.trod_int Try.underlying3 g1'
      simp at e0 e1 ea eb
      subst e0 e1 ea eb
      exact ⟨⟨s0, s1, a, b⟩, rfl, b0, b1⟩

set_option maxRecDepth 100000 in
theorem row_of_trod {H : Type} {enc : TypeId × Value → H} {W : World} {v : Value} {d : DataW H} {p : List MemPlace} {b0 : Nat} (hv : Value.okWide Try.prog W .any b0 112 v)
    (h : DataW.Trod enc Try.prog W 0 (fun _ => true) true 112 v d p) : ∃ r : RowV, v = .agg #[.string r.k, .string r.t, .int .i64 r.f, .int .i64 r.e] ∧ r.k.size ≤ maxLen ∧ r.t.size ≤ maxLen := by
  obtain ⟨fuel, hf⟩ := h
  obtain ⟨cs, rfl, _⟩ := okWide_struct Try.underlying112 hv
  obtain ⟨r, hr, h1, h2⟩ := row_of_cells hf
  refine ⟨r, ?_, h1, h2⟩
  have : cs.toList = rowC r := hr
  obtain ⟨l⟩ := cs
  simp at this
  subst this
  rfl

set_option maxRecDepth 100000 in
theorem rows_of_trod {H : Type} {enc : TypeId × Value → H} {W : World} {ad : Option Addr} {len cap : Nat} {d : DataW H} {p : List MemPlace}
    (h : DataW.Trod enc Try.prog W 0 (fun _ => true) true 48 (.slice ad len cap) d p) : ∃ zs, RowsA W ad zs ∧ zs.length = len ∧ len ≤ maxLen ∧ ∀ r ∈ zs, r.k.size ≤ maxLen ∧ r.t.size ≤ maxLen := by
  obtain ⟨fuel, hf⟩ := h
  rcases open_slice Try.underlying48 hf with ⟨hcs, _⟩ | ⟨a, len', cap', m, n, D, Pl, hcs, _, hl, hm, hmm, _, hc⟩
  · simp [Value.cells] at hcs
    obtain ⟨rfl, rfl, rfl⟩ := hcs
    exact ⟨[], ElAt.nil _ _, rfl, Nat.zero_le _, fun r h => absurd h (by simp)⟩
  · simp [Value.cells] at hcs
    obtain ⟨rfl, rfl, rfl⟩ := hcs
    simp only [if_true] at hmm
    subst hmm
    by_cases hpos : 0 < len
    · obtain ⟨b, off, spot⟩ := a
      have hsp : spot = none := by
        obtain ⟨cs', hcells, ht⟩ := hc 0 (by omega)
        obtain ⟨r, rfl, b0, b1⟩ := row_of_cells ht
        rw [Try.cellsR112] at hcells
        obtain ⟨_, _, hat⟩ := World.cells?_some hcells
        have h0 := hat 0 (by omega)
        have := World.cell?_spot (h0.trans (show (rowC r)[0]? = some (.string r.k) from rfl))
        simpa [Addr.add] using this
      subst hsp
      have key : ∀ i, ∃ r : RowV, i < len → (r.k.size ≤ maxLen ∧ r.t.size ≤ maxLen) ∧ b < W.heap.size ∧ ∀ j u, (rowC r)[j]? = some u → W.cell? ⟨b, off + i * 4 + j, none⟩ = some u := fun i => by
        by_cases hi : i < len
        · obtain ⟨cs', hcells, ht⟩ := hc i (by omega)
          obtain ⟨r, rfl, b0, b1⟩ := row_of_cells ht
          rw [Try.cellsR112] at hcells
          obtain ⟨_, _, hat⟩ := World.cells?_some hcells
          have hcell : ∀ j u, (rowC r)[j]? = some u → W.cell? ⟨b, off + i * 4 + j, none⟩ = some u := fun j u hu => by
            have hj : j < 4 := by
              have := (List.getElem?_eq_some_iff.1 hu).1
              rw [rowC_len] at this
              exact this
            have e : ((Addr.add ⟨b, off, none⟩ (i * 4)).add j) = ⟨b, off + i * 4 + j, none⟩ := by
              unfold Addr.add
              by_cases h1 : i * 4 = 0 <;> by_cases h2 : j = 0 <;> simp [h1, h2]
            rw [← e]
            exact (hat j hj).trans hu
          exact ⟨r, fun _ => ⟨⟨b0, b1⟩, World.block_lt_of_cell? W ⟨b, off + i * 4 + 0, none⟩ (hcell 0 _ rfl), hcell⟩⟩
        · exact ⟨row0, fun h => absurd h hi⟩
      obtain ⟨R, hR⟩ := Classical.axiomOfChoice key
      refine ⟨(List.range len).map R, fun hn => ?_, by simp, by omega, fun r hr => ?_⟩
      · refine ⟨b, off, rfl, (hR 0 hpos).2.1, fun i x hx j u hu => ?_⟩
        have hi : i < len := by
          have := (List.getElem?_eq_some_iff.1 hx).1
          simpa using this
        have hx' : R i = x := by simpa [hi] using hx
        subst hx'
        exact (hR i hi).2.2 j u hu
      · obtain ⟨i, hi, rfl⟩ := List.mem_map.1 hr
        exact (hR i (by simpa using hi)).1
    · have h0 : len = 0 := by omega
      subst h0
      exact ⟨[], ElAt.nil _ _, rfl, Nat.zero_le _, fun r h => absurd h (by simp)⟩
end Go.Proofs.Ytphinkcfmdnpfaa
