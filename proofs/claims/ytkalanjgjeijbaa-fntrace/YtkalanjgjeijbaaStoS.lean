/-
  Walks: stores by value: sizes, copies, equality.
-/
import Derived.Test.YtkalanjgjeijbaaStoreW
namespace Go.Proofs.Ytkalanjgjeijbaa
open Go.RowKit Go.Lib

/-- A store by value whose versions lie in new memory. -/
def GetsS (w : World) (now : Int) (zs : List VerV) (e : Ending) (w' : World) : Prop :=
  ∃ (A : Option Addr) (cap : Nat), e = .returned (.agg #[.int .i64 now, .slice A zs.length cap]) ∧ w'.ownsRow w.heap.size 62 6 (.slice A zs.length cap) zs.length (flatOf verC zs) ∧ Below w.heap.size w w'
theorem grown_setAtV (w : World) (g i : Nat) (u : Value) : w.grownBy (w.setCell ⟨g, i, none⟩ u) (some g) :=
  ⟨rfl, rfl, rfl, by simp [World.setCell], fun j _ hne => Below.heap_setCell _ _ _ _ (by show j ≠ g; intro e; exact hne (by rw [e]))⟩
theorem owns_set_farV {w : World} {base n g i : Nat} {v u : Value} {xs : List Value} {t : TypeId} {k : Nat} (h : w.ownsRow base t k v n xs) (hg : g < base) : (w.setCell ⟨g, i, none⟩ u).ownsRow base t k v n xs :=
  h.kept (grown_setAtV w g i u) (.inr fun e => by have := (h.lt g e).1; omega)

theorem owns_addrV {w : World} {base n k cap : Nat} {A : Option Addr} {t : TypeId} {xs : List Value} (h : w.ownsRow base t k (.slice A n cap) n xs) : A = none ∨ ∃ b off, A = some ⟨b, off, none⟩ := by
  rcases h.2 with ⟨e0, _⟩ | ⟨g, c, cur, e0, _⟩
  · injection e0 with e0; exact .inl e0
  · injection e0 with e0; exact .inr ⟨g, 0, e0⟩
end Go.Proofs.Ytkalanjgjeijbaa
