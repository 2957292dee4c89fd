/-
  What the arguments hold: a slice of spans, a slice of bytes.
-/
import Derived.Test.YtgclmldhdjmabaaSets
import Derived.ProofKit
import Derived.Deep.SlicePairs
namespace Go.Proofs.Ytgclmldhdjmabaa
open Go.ChangeShapes Go.WideShapes Go.ChangeAt Go.RowKit Go.Deep

theorem Try.cells106 : Try.prog.cellsOf 106 = 2 := by kernel_rfl
theorem Try.cells3 : Try.prog.cellsOf 3 = 1 := by kernel_rfl
theorem Try.cells5 : Try.prog.cellsOf 5 = 1 := by kernel_rfl

set_option maxRecDepth 100000 in
theorem spans_of_trod {H : Type} {enc : TypeId × Value → H} {W : World} {ad : Option Addr} {len cap : Nat} {d : DataW H} {p : List MemPlace}
    (h : DataW.Trod enc Try.prog W 0 (fun _ => true) true 62 (.slice ad len cap) d p) : ∃ zs, Spans W ad zs ∧ zs.length = len ∧ len ≤ maxLen := by
  obtain ⟨fuel, hf⟩ := h
  rcases open_slice_pairs Try.underlying62 Try.underlying106 Try.cells106 rfl rfl Try.cells3 Try.cells3 hf with ⟨hcs, _⟩ | ⟨a, len', cap', m, n, V0, V1, D0, D1, P0, P1, hcs, _, hl, hm, hmm, _, hc⟩
  · simp [Value.cells] at hcs
    obtain ⟨rfl, rfl, rfl⟩ := hcs
    exact ⟨[], fun h => absurd h (by simp), rfl, Nat.zero_le _⟩
  · simp [Value.cells] at hcs
    obtain ⟨rfl, rfl, rfl⟩ := hcs
    simp only [if_true] at hmm
    subst hmm
    refine ⟨(List.range len).map fun i => (intOf (V0 i), intOf (V1 i)), fun hn => ?_, by simp, by omega⟩
    have hn' : 0 < len := by simpa using hn
    obtain ⟨b, off, spot⟩ := a
    have hsp : spot = none := by
      have := World.cell?_spot (hc 0 (by omega)).1
      simpa [Addr.add] using this
    subst hsp
    refine ⟨b, off, rfl, fun i hi => ?_⟩
    have hi' : i < len := by simpa using hi
    obtain ⟨h0, h1, t0, t1⟩ := hc i (by omega)
    obtain ⟨x, ex, _, _⟩ := DataW.trod_int Try.underlying3 t0
    obtain ⟨y, ey, _, _⟩ := DataW.trod_int Try.underlying3 t1
    simp at ex ey
    rw [ex] at h0
    rw [ey] at h1
    have e : ((List.range len).map fun i => (intOf (V0 i), intOf (V1 i))).getD i (0, 0) = (x, y) := by
      simp [hi', ex, ey, intOf]
    rw [e]
    have a0 : (Addr.add ⟨b, off, none⟩ (i * 2)) = ⟨b, off + i * 2, none⟩ := by unfold Addr.add; split <;> simp_all
    have a1 : (Addr.add ⟨b, off, none⟩ (i * 2 + 1)) = ⟨b, off + i * 2 + 1, none⟩ := by unfold Addr.add; split <;> simp_all [Nat.add_assoc]
    rw [a0] at h0
    rw [a1] at h1
    exact ⟨h0, h1⟩
end Go.Proofs.Ytgclmldhdjmabaa
