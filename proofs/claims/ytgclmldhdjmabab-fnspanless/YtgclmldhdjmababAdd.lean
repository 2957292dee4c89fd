/-
  The walk of the model's l1Add.
-/
import Derived.Test.YtgclmldhdjmababSets
import Derived.Test.YtgclmldhdjmababAddL
import Derived.WalkSmall
import Derived.Test.YtgclmldhdjmababRd
namespace Go.Proofs.Ytgclmldhdjmabab
open Go.RowKit

def Added (w : World) (zs : List (Int × Int)) (s : Int × Int) (e : Ending) (w' : World) : Prop :=
  ∃ g cap, e = .returned (.slice (some ⟨g, 0, none⟩) (addL zs s).length cap) ∧ w'.ownsRow w.heap.size 24 2 (.slice (some ⟨g, 0, none⟩) (addL zs s).length cap) (addL zs s).length (flat (addL zs s)) ∧ Below w.heap.size w w'

theorem owns_drewN {w : World} {base n : Nat} {v : Value} {xs : List Value} {e : TypeId} {size : Nat} (h : w.ownsRow base e size v n xs) (k : Nat) : (w.drewN k).ownsRow base e size v n xs := h
theorem owns_base {w : World} {base base' n : Nat} {v : Value} {xs : List Value} {e : TypeId} {size : Nat} (h : w.ownsRow base e size v n xs) (hb : base' ≤ base) : w.ownsRow base' e size v n xs := by
  refine ⟨h.1, ?_⟩
  rcases h.2 with h1 | ⟨g, c, cur, h1, h2, h3⟩
  · exact .inl h1
  · exact .inr ⟨g, c, cur, h1, by omega, h3⟩
theorem owns_form {w : World} {base n : Nat} {v : Value} {xs : List Value} {e : TypeId} {size : Nat} (h : w.ownsRow base e size v n xs) (hv : v ≠ .slice none 0 0) : ∃ g c, v = .slice (some ⟨g, 0, none⟩) n c ∧ base ≤ g ∧ g < w.heap.size := by
  rcases h.2 with ⟨h1, _⟩ | ⟨g, c, cur, h1, h2, h3, _⟩
  · exact absurd h1 hv
  · exact ⟨g, c, h1, h2, by
      rcases Nat.lt_or_ge g w.heap.size with hlt | hge
      · exact hlt
      · rw [Array.getElem?_eq_none hge] at h3; cases h3⟩

/-- Between two rounds of the first loop. -/
def Rel1 (w : World) (zs : List (Int × Int)) (a b : Int) (k : Nat) (v : Value) (wr : World) : Prop :=
  ∃ o x y, scan zs (a, b) k = (o, x, y) ∧ wr.ownsRow (w.heap.size + 1) 24 2 v o.length (flat o) ∧ v ≠ .slice none 0 0 ∧ wr.cell? ⟨w.heap.size, 0, none⟩ = some (.int .i64 x) ∧ wr.cell? ⟨w.heap.size, 1, none⟩ = some (.int .i64 y) ∧
    wr.frozen? ⟨w.heap.size, 0, none⟩ = false ∧ wr.frozen? ⟨w.heap.size, 1, none⟩ = false ∧ Below w.heap.size w wr

/-- Between two rounds of the second loop. -/
def Rel2 (w : World) (zs o1 : List (Int × Int)) (y : Int) (k : Nat) (v : Value) (wr : World) : Prop :=
  ∃ o, o = o1 ++ tailTo zs y k ∧ wr.ownsRow (w.heap.size + 1) 24 2 v o.length (flat o) ∧ v ≠ .slice none 0 0 ∧ wr.cell? ⟨w.heap.size, 1, none⟩ = some (.int .i64 y) ∧ Below w.heap.size w wr

end Go.Proofs.Ytgclmldhdjmabab
