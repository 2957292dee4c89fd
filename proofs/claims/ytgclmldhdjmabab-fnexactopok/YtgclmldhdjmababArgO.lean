/-
  What an argument holds: what is to be done, by value.
-/
import Derived.Test.YtgclmldhdjmababArgR
namespace Go.Proofs.Ytgclmldhdjmabab
open Go.ChangeShapes Go.WideShapes Go.ChangeAt Go.RowKit Go.Deep

theorem Try.cellsO38 : Try.prog.cellsOf 38 = 6 := by kernel_rfl

set_option maxRecDepth 100000 in
theorem op_of_trod {H : Type} {enc : TypeId × Value → H} {W : World} {v : Value} {d : DataW H} {p : List MemPlace} {b0 : Nat} (hv : Value.okWide Try.prog W .any b0 38 v)
    (h : DataW.Trod enc Try.prog W 0 (fun _ => true) true 38 v d p) : ∃ (k t : Int) (r : RowV), v = .agg #[.int .i64 k, .int .i64 t, .string r.k, .string r.t, .int .i64 r.f, .int .i64 r.e] ∧ r.k.size ≤ maxLen ∧ r.t.size ≤ maxLen := by
  obtain ⟨fuel, hf⟩ := h
  obtain ⟨cs, rfl, _⟩ := okWide_struct Try.underlying38 hv
  obtain ⟨xs, n, _, _, hl, hxl, hg⟩ := DataW.trod_struct Try.underlying38 hf
  have hl6 := hl.trans Try.cellsO38
  have hx3 : xs.length = 3 := hxl
  have h0 := hg 0 _ rfl
  have h1 := hg 1 _ rfl
  have h2 := hg 2 _ rfl
  obtain ⟨l⟩ := cs
  match l, hl6, xs, hx3 with
  | [c0, c1, c2, c3, c4, c5], _, [y0, y1, y2], _ =>
    have h0' : DataW.trod enc Try.prog W 0 (fun _ => true) true n 3 [c0] = some y0 := h0
    have h1' : DataW.trod enc Try.prog W 0 (fun _ => true) true n 3 [c1] = some y1 := h1
    have h2' : DataW.trod enc Try.prog W 0 (fun _ => true) true n 36 [c2, c3, c4, c5] = some y2 := h2
    obtain ⟨a, ea, _, _⟩ := DataW.trod_int Try.underlying3 h0'
    obtain ⟨b, eb, _, _⟩ := DataW.trod_int Try.underlying3 h1'
    obtain ⟨r, hr, r1, r2⟩ := row_of_cells h2'
    simp at ea eb
    subst ea eb
    refine ⟨a, b, r, ?_, r1, r2⟩
    simp [rowC] at hr
    obtain ⟨rfl, rfl, rfl, rfl⟩ := hr
    rfl
end Go.Proofs.Ytgclmldhdjmabab
