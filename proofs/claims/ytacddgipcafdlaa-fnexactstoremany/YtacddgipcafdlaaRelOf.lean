/-
  Walks: the table of rows in any order.
-/
import Derived.Test.YtacddgipcafdlaaFold
import Derived.Laws.EntriesVeiled
namespace Go.Proofs.Ytacddgipcafdlaa
open Go.Shelf Go.RowKit Go.Lib Go.Sort

theorem relOf_bad {zs : List RowV} {x : RowV} (hx : x ∈ zs) (h : rowOk x = false) : relOfL zs = [] := by
  unfold relOfL
  cases e : layAll [] zs with
  | none => rfl
  | some m =>
    obtain ⟨_, h2, h3⟩ := layAll_some zs [] m List.Pairwise.nil (by intro x hx; cases hx) e
    rw [List.append_nil] at h3
    rw [h2 x (h3.symm.subset hx)] at h
    cases h
theorem tableP_L (s : List RowV) : (tableP s).1 = tableL s := by
  unfold tableP tableL
  split <;> rfl
theorem relOf_len (zs : List RowV) : (relOfL zs).length ≤ 24 := by
  unfold relOfL
  cases layAll [] zs with
  | none => simp
  | some m =>
    show (if (joinRows m).length ≤ 24 then joinRows m else []).length ≤ 24
    split
    · assumption
    · simp

end Go.Proofs.Ytacddgipcafdlaa
