/-
  Walks: a store with another table at the next stamp: the program's side.
-/
import Derived.Test.YtkalanjgjeijbaaStoCp
import Derived.Test.YtkalanjgjeijbaaStoDg
namespace Go.Proofs.Ytkalanjgjeijbaa
open Go.Shelf Go.RowKit Go.Lib Go.Sort

/-- What a store becomes with another table: its stamp, its versions, and whether it went. -/
def nextL (zs : List VerV) (now : Int) (t : List RowV) : Int × List VerV × Bool := if relOk t = true ∧ ¬ now = 30 ∧ (setL zs now t).length ≤ 120 then (now + 1, setL zs now t, true) else (0, [], false)
/-- A store by value in new memory, and a truth. -/
def GetsSB (w : World) (p : Int × List VerV × Bool) (e : Ending) (w' : World) : Prop :=
  ∃ (A : Option Addr) (c : Nat), e = .returned (.tuple #[.agg #[.int .i64 p.1, .slice A p.2.1.length c], .bool p.2.2]) ∧ w'.ownsRow w.heap.size 62 6 (.slice A p.2.1.length c) p.2.1.length (flatOf verC p.2.1) ∧ Below w.heap.size w w'
/-- Between two rounds: the store in its box, and the rows that are still to come. -/
def BoxR (W : World) (N : Nat) (n : Int) (ys : List VerV) (bs : List RowV) (Ab : Option Addr) (cb : Nat) (wr : World) : Prop :=
  ∃ (A : Option Addr) (c : Nat), wr.cell? ⟨N, 0, none⟩ = some (.int .i64 n) ∧ wr.cell? ⟨N, 1, none⟩ = some (.slice A ys.length c) ∧ (∀ q, wr.frozen? ⟨N, q, none⟩ = false) ∧ wr.ownsRow (N + 1) 62 6 (.slice A ys.length c) ys.length (flatOf verC ys) ∧ wr.ownsRow (N + 1) 57 4 (.slice Ab bs.length cb) bs.length (flatOf rowC bs) ∧ ((Value.slice A ys.length c).ownBlock = none ∨ (Value.slice A ys.length c).ownBlock ≠ (Value.slice Ab bs.length cb).ownBlock) ∧ Below W.heap.size W wr
theorem BoxR.more {W w3 : World} {N c : Nat} {n : Int} {ys : List VerV} {y : VerV} {A : Option Addr} {bs : List RowV} {Ab : Option Addr} {cb : Nat} (hN : W.heap.size ≤ N) (n0 : w3.cell? ⟨N, 0, none⟩ = some (.int .i64 n)) (hf : ∀ q, w3.frozen? ⟨N, q, none⟩ = false) (hc : (w3.cell? ⟨N, 1, none⟩).isSome = true) (ho : w3.ownsRow (N + 1) 62 6 (.slice A (ys.length + 1) c) (ys.length + 1) (flatOf verC ys ++ verC y)) (hr : w3.ownsRow (N + 1) 57 4 (.slice Ab bs.length cb) bs.length (flatOf rowC bs)) (ha : (Value.slice A (ys.length + 1) c).ownBlock = none ∨ (Value.slice A (ys.length + 1) c).ownBlock ≠ (Value.slice Ab bs.length cb).ownBlock) (hb : Below W.heap.size W w3) : BoxR W N n (ys ++ [y]) bs Ab cb (w3.setCell ⟨N, 1, none⟩ (.slice A (ys.length + 1) c)) := by
  refine ⟨A, c, ?_, ?_, fun q => (World.frozen?_setCell ..).trans (hf q), ?_, owns_set_farV hr (by omega), ?_, hb.setCell hN _⟩
  · rw [← n0]; simp [go_sem]
  · rw [List.length_append, List.length_singleton]
    obtain ⟨u, hu⟩ := Option.isSome_iff_exists.1 hc
    simp [go_sem, hu]
  · rw [flatOf_append, flatOf_one, List.length_append, List.length_singleton]
    exact owns_set_farV ho (by omega)
  · rw [List.length_append, List.length_singleton]; exact ha

end Go.Proofs.Ytkalanjgjeijbaa
