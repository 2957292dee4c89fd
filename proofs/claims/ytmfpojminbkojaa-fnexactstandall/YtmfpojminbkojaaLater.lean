/-
  A law of regions: a region that draws its order and only reads and calls functions that make memory but change none: one walk in the order of the text. No program is named here.
-/
import Derived.WalkKit
import Derived.Below
import Derived.Deep.QuietTactic
import Derived.BigQuiet
import Derived.Lib.Hide
namespace Go.Proofs.Ytmfpojminbkojaa
open Go.RowKit

theorem exists_later (W : World) : ∃ f : World → World, (∀ v, Below W.heap.size W (f v)) ∧ (∀ v, Below W.heap.size W v → f v = v) := by
  classical
  refine ⟨fun v => if Below W.heap.size W v then v else W, fun v => ?_, fun v h => if_pos h⟩
  by_cases h : Below W.heap.size W v
  · simp only [if_pos h]; exact h
  · simp only [if_neg h]; exact Below.refl _ _

theorem wp_region_later {P : Program} {id : Nat} {Q : Exit → Act → World → Prop} {a : Act} {w : World} {l : List Oper} (hm : P.follows .mixedOrders = true) (hB : Region.lexB .any l.toArray = true)
    (h : ∀ f : World → World, Hid (∀ v, Below w.heap.size w (f v)) → Hid (∀ v, Below w.heap.size w v → f v = v) → (∀ v b o, b < w.heap.size → (f v).cell? ⟨b, o, none⟩ = w.cell? ⟨b, o, none⟩) →
      wpQuiet P l.toArray (fun w' => ∃ v, w' = f v) (fun a' => ∀ w', (∃ v, w' = f v) → Q .normal a' w') l a) : (Code.region id l.toArray true).wp P Q a w := by
  obtain ⟨f, h1, h2⟩ := exists_later w
  refine wp_region_quiet (C := fun w' => ∃ v, w' = f v) hm hB ⟨w.drew, ?_⟩ (by simpa using h f (Lib.hid h1) (Lib.hid h2) (fun v b o hb => (h1 v).cell (p := ⟨b, o, none⟩) hb))
  exact (h2 _ (Below.refl _ _).drew).symm

theorem calls_later {P : Program} {fn : FuncId} {args : Array Value} {w : World} {f : World → World} {v : World} {r : Value} (h1 : Hid (∀ v, Below w.heap.size w (f v))) (h2 : Hid (∀ v, Below w.heap.size w v → f v = v))
    (h : Calls P fn args (f v) fun e w' => e = .returned r ∧ Below (f v).heap.size (f v) w') : Calls P fn args (f v) fun e w'' => e = .returned r ∧ ∃ v', w'' = f v' :=
  h.mono fun _ w' ⟨he, hb⟩ => ⟨he, w', (h2.out w' ((h1.out v).trans (hb.mono (h1.out v).size))).symm⟩
end Go.Proofs.Ytmfpojminbkojaa
