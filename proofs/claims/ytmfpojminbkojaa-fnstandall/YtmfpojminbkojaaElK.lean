/-
  Plain lemmas: a row of elements that a call owns, and what a sort does to it. No program is named here.
-/
import Derived.Test.YtmfpojminbkojaaSymB
import Derived.Test.YtmfpojminbkojaaShelfR
import Derived.Test.YtmfpojminbkojaaRelQ
import Derived.Test.YtmfpojminbkojaaMeet
import Derived.StillTailTactics
import Derived.Test.YtmfpojminbkojaaRowD
import Derived.Shelf.SlSortCmp.KitK
import Derived.Lib.OwnBridge
import Derived.Lib.AppendIntMem
namespace Go.Proofs.Ytmfpojminbkojaa
open Go.Shelf Go.RowKit Go.Lib Go.Sort
variable {P : Program} {α : Type} [Inhabited α] {k : Nat}

/-- What the sort does to a range: it puts it in order, and nothing else. -/
def Sorts1 (P : Program) (f : Nat) (enc : α → List Value) (k : Nat) (cf : α → α → Int) (g : Nat) (cb : Array Value) (blk off cap : Nat) (d0 : Array α) (w0 : World) : Prop :=
  ∀ (a b : Nat) (d : Array α) (w : World), d.size = d0.size → SWK enc k w0 blk off d w → a ≤ b → b ≤ d.size →
    Calls P f #[.slice (some ⟨blk, off, none⟩) d0.size cap, .int .i64 a, .int .i64 b, .func (.func g) #[] cb] w fun e w' => e = .returned (.tuple #[]) ∧ ∃ d', PermIn a b d d' ∧ SortedIn (ltOf cf) a b d' ∧ SWK enc k w0 blk off d' w'

end Go.Proofs.Ytmfpojminbkojaa
namespace Go.Proofs.Ytmfpojminbkojaa
open Go.Shelf Go.RowKit Go.Lib Go.Sort

instance : Inhabited RowV := ⟨row0⟩
def cmpB (x y : ByteArray) : Int := if kl x y = true then -1 else if (x.toList == y.toList) = true then 0 else 1
def orB (x y : Int) : Int := if x = 0 then y else x
def cmpRow (x y : RowV) : Int := orB (cmpB x.k y.k) (Lib.compareInt x.f y.f)
theorem ltRow : ltOf cmpRow = lessB := by
  funext x y
  unfold ltOf cmpRow cmpB orB lessB
  show _ = (kl x.k y.k || _)
  cases h1 : kl x.k y.k with
  | true => simp
  | false =>
    cases h2 : (x.k.toList == y.k.toList) with
    | false => simp
    | true =>
      unfold Lib.compareInt
      by_cases h3 : x.f < y.f
      · simp [h3]
      · by_cases h4 : y.f < x.f <;> simp [h3, h4]

end Go.Proofs.Ytmfpojminbkojaa
namespace Go.Proofs.Ytmfpojminbkojaa
open Go.RowKit Go.Shelf Go.Lib Go.Sort
variable {α : Type} [Inhabited α] {enc : α → List Value} {k : Nat}

theorem flatOf_atK (hk : ∀ x, (enc x).length = k) (h0 : 0 < k) (l : List α) (t : Nat) (h : t < l.length * k) : (flatOf enc l)[t]? = some ((enc (l.toArray[t / k]!))[t % k]!) := by
  have hi : t / k < l.length := by rw [Nat.div_lt_iff_lt_mul h0]; exact h
  have hm : t % k < k := Nat.mod_lt _ h0
  have hx : l[t / k]? = some l[t / k] := List.getElem?_eq_getElem hi
  have := flatOf_get hk l (t / k) l[t / k] (t % k) hx hm
  rw [show t / k * k + t % k = t from by rw [Nat.mul_comm]; exact Nat.div_add_mod t k] at this
  rw [this]
  have e : l.toArray[t / k]! = l[t / k] := by simp [hi]
  have hj : t % k < (enc l[t / k]).length := by rw [hk]; exact hm
  rw [e, List.getElem?_eq_getElem hj]
  simp [hj]
theorem flatK_flatOf (hk : ∀ x, (enc x).length = k) (h0 : 0 < k) (l : List α) : flatK enc k l.toArray = (flatOf enc l).toArray := by
  refine ext_get! (by simp [flatOf_length hk]) fun t ht => ?_
  have ht' : t < l.length * k := by simpa using ht
  rw [get_flatK _ _ _ t (by simpa using ht')]
  have := flatOf_atK hk h0 l t ht'
  have hl : t < (flatOf enc l).length := by rw [flatOf_length hk]; exact ht'
  rw [List.getElem?_eq_getElem hl] at this
  injection this with this
  rw [← this]
  simp [hl]
theorem holds_ofK (hk : ∀ x, (enc x).length = k) (h0 : 0 < k) {w : World} {base g n cap : Nat} {e : TypeId} {l : List α} (h : w.ownsRow base e k (.slice (some ⟨g, 0, none⟩) n cap) n (flatOf enc l)) (hn : n = l.length) : HoldsK enc k w g 0 l.toArray := by
  subst hn
  intro j hj
  have hj' : j < l.length * k := by simpa using hj
  refine ⟨?_, by simpa using h.frozenAt j⟩
  rw [Nat.zero_add, h.cellAt j hj', get_flatK _ _ _ j (by simpa using hj'), flatOf_atK hk h0 l j hj']
  rfl
theorem owns_putK (hk : ∀ x, (enc x).length = k) (h0 : 0 < k) {w : World} {base g n cap q : Nat} {e : TypeId} {l l' : List α} (h : w.ownsRow base e k (.slice (some ⟨g, 0, none⟩) n cap) n (flatOf enc l)) (hn : n = l.length) (hl : l'.length = l.length) :
    (putRowK enc k (Sort.ahead w q) g 0 l'.toArray).ownsRow base e k (.slice (some ⟨g, 0, none⟩) n cap) n (flatOf enc l') := by
  unfold putRowK
  rw [flatK_flatOf hk h0]
  rcases h.2 with ⟨e0, _⟩ | ⟨g', cap', cur, e0, hb, hg, hnc, hm, hs, ht⟩
  · cases e0
  · injection e0 with e1 _ e3
    injection e1 with e1
    injection e1 with e1
    subst e1; subst e3
    refine ⟨by rw [flatOf_length hk, hn, hl], .inr ⟨g, cap, putCells id 0 (flatOf enc l').toArray cur, rfl, hb, ?_, hnc, hm, by simpa [putCells] using hs, ?_⟩⟩
    · simp [putRow, mapBlock, Sort.ahead, Array.getElem?_modify, hg, onCells]
    · apply List.ext_getElem?
      intro j
      rw [List.getElem?_take, Array.getElem?_toList]
      by_cases hj : j < n * k
      · have hjc : j < cur.size := by have : n * k ≤ cap * k := Nat.mul_le_mul_right _ hnc; omega
        have hjl : j < (flatOf enc l').length := by rw [flatOf_length hk]; rw [hl, ← hn]; exact hj
        simp only [if_pos hj, putCells, Array.getElem?_mapIdx, Array.getElem?_eq_getElem hjc, Option.map_some]
        rw [if_pos (by simpa using hjl), List.getElem?_eq_getElem hjl]
        simp [hjl]
      · have : ¬ j < (flatOf enc l').length := by rw [flatOf_length hk, hl, ← hn]; exact hj
        rw [if_neg hj, List.getElem?_eq_none (by omega)]
theorem put_other (w : World) (q g b : Nat) (d : Array α) (hb : b ≠ g) : (putRowK enc k (Sort.ahead w q) g 0 d).heap[b]? = w.heap[b]? := by
  simp [putRowK, putRow, mapBlock, Sort.ahead, Array.getElem?_modify, Ne.symm hb]
/-- What a sort leaves: the row with the same elements, all else as it was. -/
theorem sorted_own (hk : ∀ x, (enc x).length = k) (h0 : 0 < k) {w w' : World} {base g n cap : Nat} {e : TypeId} {l l' : List α} (h : w.ownsRow base e k (.slice (some ⟨g, 0, none⟩) n cap) n (flatOf enc l)) (hn : n = l.length) (hl : l'.length = l.length) (hw : SWK enc k w g 0 l'.toArray w') :
    w'.ownsRow base e k (.slice (some ⟨g, 0, none⟩) n cap) n (flatOf enc l') ∧ Below base w w' ∧ ∀ b, b < w.heap.size → b ≠ g → w'.heap[b]? = w.heap[b]? := by
  obtain ⟨q, os, rfl⟩ := hw
  have hb : base ≤ g := by
    rcases h.2 with ⟨e0, _⟩ | ⟨g', cap', cur, e0, hb, _⟩
    · cases e0
    · injection e0 with e1 _ e3
      injection e1 with e1
      injection e1 with e1
      rw [e1]; exact hb
  have h1 := owns_putK (q := q) hk h0 h hn hl
  have h2 := below_putRow (enc := id) (q := q) (d := flatK enc k l'.toArray) (Below.refl base w) hb
  have hsz : (putRowK enc k (Sort.ahead w q) g 0 l'.toArray).heap.size = w.heap.size := by simp [putRowK, putRow, mapBlock, Sort.ahead]
  refine ⟨ownsRow_grow h1 0 os, h2.trans (below_grow base _ (by
    have := h2.size
    rcases h.2 with ⟨e0, _⟩ | ⟨g', cap', cur, e0, hb', hg, _⟩
    · cases e0
    · have : g' < w.heap.size := (Array.getElem?_eq_some_iff.1 hg).1
      show base ≤ (putRowK enc k (Sort.ahead w q) g 0 l'.toArray).heap.size
      rw [hsz]; omega) 0 os), fun b h3 h4 => ?_⟩
  show ((putRowK enc k (Sort.ahead w q) g 0 l'.toArray).heap ++ os)[b]? = _
  rw [Array.getElem?_append_left (by rw [hsz]; exact h3)]
  exact put_other w q g b _ h4
end Go.Proofs.Ytmfpojminbkojaa
