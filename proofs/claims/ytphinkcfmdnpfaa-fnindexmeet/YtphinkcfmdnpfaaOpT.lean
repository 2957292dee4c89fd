/-
  Walk: what is to be done, copied by value.
-/
import Derived.Test.YtphinkcfmdnpfaaRowT
import Derived.Deep.Cut
import Derived.Deep.MidRow
namespace Go.Proofs.Ytphinkcfmdnpfaa
open Go.RowKit

theorem set_far {w : World} {b b' o o' : Nat} {v u : Value} (h : w.cell? ⟨b', o', none⟩ = some u) (hn : b ≠ b' ∨ o ≠ o') : (w.setCell ⟨b, o, none⟩ v).cell? ⟨b', o', none⟩ = some u := by
  rw [World.cell?_setCell_other w ⟨b, o, none⟩ ⟨b', o', none⟩ v (fun e => by injection e with e1 e2 _; exact hn.elim (fun h => h e1) (fun h => h e2))]
  exact h
theorem set_near {w : World} {b o : Nat} {v u : Value} (h : w.cell? ⟨b, o, none⟩ = some u) : (w.setCell ⟨b, o, none⟩ v).cell? ⟨b, o, none⟩ = some v := World.cell?_setCell_same _ _ _ h
theorem range6 {w : World} {b : Nat} {v0 v1 v2 v3 v4 v5 : Value} (h0 : w.cell? ⟨b, 0, none⟩ = some v0) (h1 : w.cell? ⟨b, 1, none⟩ = some v1) (h2 : w.cell? ⟨b, 2, none⟩ = some v2) (h3 : w.cell? ⟨b, 3, none⟩ = some v3) (h4 : w.cell? ⟨b, 4, none⟩ = some v4) (h5 : w.cell? ⟨b, 5, none⟩ = some v5) : w.rangeAt b 0 [v0, v1, v2, v3, v4, v5] := fun j v hv => by
  rw [Nat.zero_add]
  match j, hv with
  | 0, hv => simp at hv; subst hv; exact h0
  | 1, hv => simp at hv; subst hv; exact h1
  | 2, hv => simp at hv; subst hv; exact h2
  | 3, hv => simp at hv; subst hv; exact h3
  | 4, hv => simp at hv; subst hv; exact h4
  | 5, hv => simp at hv; subst hv; exact h5
theorem there6 {w : World} {b : Nat} {v0 v1 v2 v3 v4 v5 : Value} (h : w.rangeAt b 0 [v0, v1, v2, v3, v4, v5]) (hf : ∀ o, w.frozen? ⟨b, o, none⟩ = false) : w.there b 0 6 := fun j hj => ⟨h.isSome j hj, hf _⟩
theorem below_setCells {w : World} {n b : Nat} (hb : n ≤ b) : ∀ (vs : List Value) (o : Nat) (w' : World), Below n w w' → Below n w (w'.setCells b o vs)
  | [], _, _, h => h
  | v :: r, o, w', h => by
    rw [World.setCells]
    exact below_setCells hb r (o + 1) _ (h.setCell (p := ⟨b, o, none⟩) hb v)

end Go.Proofs.Ytphinkcfmdnpfaa
