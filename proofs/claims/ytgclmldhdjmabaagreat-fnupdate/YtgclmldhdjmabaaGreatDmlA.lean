/-
  Walks: rows inserted, deleted, merged: the program and the model.
-/
import Derived.Test.YtgclmldhdjmabaaGreatDmlI
import Derived.Test.YtgclmldhdjmabaaGreatDrawT
namespace Go.Proofs.YtgclmldhdjmabaaGreat
open Go.Shelf Go.RowKit Go.Lib Go.Sort

theorem src_one {w : World} {g c : Nat} {r : RowV} (h0 : w.cell? ⟨g, 0, none⟩ = some (.string r.k)) (h1 : w.cell? ⟨g, 1, none⟩ = some (.string r.t)) (h2 : w.cell? ⟨g, 2, none⟩ = some (.int .i64 r.f)) (h3 : w.cell? ⟨g, 3, none⟩ = some (.int .i64 r.e)) : ∀ W, Below w.heap.size w W → Src W (.slice (some ⟨g, 0, none⟩) 1 c) [r] := fun W hW => by
  have hg : g < w.heap.size := World.block_lt_of_cell? _ _ h0
  refine .inr ⟨⟨g, 0, none⟩, c, rfl, ?_⟩
  have := newsFour (cellBelow hW hg h0) (cellBelow hW hg h1) (cellBelow hW hg h2) (cellBelow hW hg h3)
  simpa [flatOf, rowC] using this
theorem src_nil (w : World) : ∀ W, Below w.heap.size w W → Src W (.slice none 0 0) [] := fun _ _ => .inl ⟨rfl, rfl⟩
theorem flat_self : ∀ zs : List RowV, zs.flatMap (fun x => [x]) = zs
  | [] => rfl
  | x :: l => by rw [List.flatMap_cons, flat_self l]; rfl
theorem short_one {r : RowV} (h : r.k.size ≤ maxLen ∧ r.t.size ≤ maxLen) : Short [r] := fun y hy => by rw [List.mem_singleton.1 hy]; exact h
theorem short_none : Short [] := fun y hy => by cases hy
theorem cutRow_short {zs : List RowV} (h : Short zs) {key : ByteArray} {a b : Int} : ∀ x ∈ zs, Short (cutRow key a b x) := fun x hx y hy => short_cut (key := key) (a := a) (b := b) h y (List.mem_flatMap.2 ⟨x, hx, hy⟩)
theorem rel_spans {zs : List RowV} (h : relOk zs = true) : ∀ x ∈ zs, 0 ≤ x.f ∧ x.f < x.e ∧ x.e ≤ 100 := fun x hx => (rowOk_iff.1 ((rel_apart h).1 x hx)).2.2

def insertS (zs : List RowV) (r : RowV) : List RowV × Bool := if relOk zs = true then insertL zs r else ([], false)
def deleteS (zs : List RowV) (key : ByteArray) (a b : Int) : List RowV × Bool := if relOk zs = true then (if (wordB key && okSpan a b) = true then deleteL zs key a b else (zs, false)) else ([], false)
theorem insert_bad {zs : List RowV} {r : RowV} (h : rowOk r = false) : insertL zs r = (zs, false) := if_neg (by simp [h])
theorem insertS_len (zs : List RowV) (r : RowV) : (insertS zs r).1.length ≤ 24 := by
  unfold insertS
  split
  · rename_i h
    unfold insertL
    split
    · exact fits_len (relOk_len h)
    · exact relOk_len h
  · simp
theorem deleteS_len (zs : List RowV) (key : ByteArray) (a b : Int) : (deleteS zs key a b).1.length ≤ 24 := by
  unfold deleteS
  split
  · rename_i h
    split
    · exact fits_len (relOk_len h)
    · exact relOk_len h
  · simp

end Go.Proofs.YtgclmldhdjmabaaGreat
