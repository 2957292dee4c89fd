/-
  Walks: the model's table of rows in any order.
-/
import Derived.Test.YtgclmldhdjmabaaGreatHoldS
namespace Go.Proofs.YtgclmldhdjmabaaGreat
open Go.Shelf Go.RowKit Go.Lib Go.Sort

theorem lay_step {out : List RowV} {x : RowV} (h1 : rowOk x = true) (h2 : holdsR out x = false) (l : List RowV) : layAll out (x :: l) = layAll (putR out x) l := by
  rw [layAll, if_neg (by simp [h1, h2])]
theorem lay_bad {out : List RowV} {x : RowV} (h : rowOk x = false ∨ holdsR out x = true) (l : List RowV) : layAll out (x :: l) = none := by
  rw [layAll, if_pos h]
theorem drop_atR {zs : List RowV} {k : Nat} {x : RowV} (h : zs[k]? = some x) : zs.drop k = x :: zs.drop (k + 1) := by
  obtain ⟨hk, hx⟩ := List.getElem?_eq_some_iff.1 h
  rw [← hx]
  exact List.drop_eq_getElem_cons hk
theorem putR_length (l : List RowV) (r : RowV) : (putR l r).length = l.length + 1 := by
  have := (putR_perm l r).length_eq
  simpa using this
theorem relOf_none {zs : List RowV} (h : layAll [] zs = none) : relOfL zs = [] := by unfold relOfL; rw [h]
theorem relOf_some {zs m : List RowV} (h : layAll [] zs = some m) : relOfL zs = if (joinRows m).length ≤ 24 then joinRows m else [] := by unfold relOfL; rw [h]

end Go.Proofs.YtgclmldhdjmabaaGreat
