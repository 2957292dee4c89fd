/-
  Walks: spans sorted by where they begin; the set of spans.
-/
import Derived.Test.YtfolppahdmkaoaaJoined
import Derived.Test.YtfolppahdmkaoaaMark
import Derived.Test.YtfolppahdmkaoaaShelf
import Derived.Test.YtfolppahdmkaoaaShelfR
import Derived.Lib.AppendIntMem
import Derived.Lib.OwnBridge
namespace Go.Proofs.Ytfolppahdmkaoaa
open Go.RowKit Go.Shelf Go.Lib Go.Sort

def encIv (x : Int × Int) : List Value := [.int .i64 x.1, .int .i64 x.2]
theorem flat_at (l : List (Int × Int)) (t : Nat) (h : t < l.length * 2) : (flat l)[t]? = some ((encIv (l.toArray[t / 2]!))[t % 2]!) := by
  have hi : t / 2 < l.length := by omega
  have e : l.toArray[t / 2]! = l.getD (t / 2) (0, 0) := by simp [List.getD, hi]
  rcases Nat.mod_two_eq_zero_or_one t with h2 | h2
  · have ht : t = (t / 2) * 2 := by omega
    rw [h2, e, show (flat l)[t]? = (flat l)[(t / 2) * 2]? from by rw [← ht], flat_get0 l _ hi]
    rfl
  · have ht : t = (t / 2) * 2 + 1 := by omega
    rw [h2, e, show (flat l)[t]? = (flat l)[(t / 2) * 2 + 1]? from by rw [← ht], flat_get1 l _ hi]
    rfl
theorem flatK_flat (l : List (Int × Int)) : flatK encIv 2 l.toArray = (flat l).toArray := by
  refine ext_get! (by simp [flat_length]) fun t ht => ?_
  have ht' : t < l.length * 2 := by simpa using ht
  rw [get_flatK _ _ _ t (by simpa using ht')]
  have := flat_at l t ht'
  have hl : t < (flat l).length := by rw [flat_length]; exact ht'
  rw [List.getElem?_eq_getElem hl] at this
  injection this with this
  rw [← this]
  simp [hl]
theorem holds_flat {w : World} {base g n cap : Nat} {e : TypeId} {l : List (Int × Int)} (h : w.ownsRow base e 2 (.slice (some ⟨g, 0, none⟩) n cap) n (flat l)) (hn : n = l.length) : HoldsK encIv 2 w g 0 l.toArray := by
  subst hn
  intro j hj
  have hj' : j < l.length * 2 := by simpa using hj
  refine ⟨?_, by simpa using h.frozenAt j⟩
  rw [Nat.zero_add, h.cellAt j hj', get_flatK _ _ _ j (by simpa using hj'), flat_at l j hj']
  rfl
theorem owns_putRow {w : World} {base g n cap q : Nat} {e : TypeId} {l l' : List (Int × Int)} (h : w.ownsRow base e 2 (.slice (some ⟨g, 0, none⟩) n cap) n (flat l)) (hn : n = l.length) (hl : l'.length = l.length) :
    (putRowK encIv 2 (Sort.ahead w q) g 0 l'.toArray).ownsRow base e 2 (.slice (some ⟨g, 0, none⟩) n cap) n (flat l') := by
  unfold putRowK
  rw [flatK_flat]
  rcases h.2 with ⟨e0, _⟩ | ⟨g', cap', cur, e0, hb, hg, hnc, hm, hs, ht⟩
  · cases e0
  · injection e0 with e1 _ e3
    injection e1 with e1
    injection e1 with e1
    subst e1; subst e3
    refine ⟨by rw [flat_length, hn, hl], .inr ⟨g, cap, putCells id 0 (flat l').toArray cur, rfl, hb, ?_, hnc, hm, by simpa [putCells] using hs, ?_⟩⟩
    · simp [putRow, mapBlock, Sort.ahead, Array.getElem?_modify, hg, onCells]
    · apply List.ext_getElem?
      intro j
      rw [List.getElem?_take, Array.getElem?_toList]
      by_cases hj : j < n * 2
      · have hjc : j < cur.size := by have : n * 2 ≤ cap * 2 := Nat.mul_le_mul_right _ hnc; omega
        have hjl : j < (flat l').length := by rw [flat_length]; omega
        simp only [if_pos hj, putCells, Array.getElem?_mapIdx, Array.getElem?_eq_getElem hjc, Option.map_some]
        rw [if_pos (by simpa using hjl), List.getElem?_eq_getElem hjl]
        simp [hjl]
      · have : ¬ j < (flat l').length := by rw [flat_length]; omega
        simp [hj]
        omega
theorem ltFrom (x y : Int × Int) : ltOf (fun x y : Int × Int => Lib.compareInt x.1 y.1) x y = decide (x.1 < y.1) := by
  unfold ltOf Lib.compareInt
  by_cases h1 : x.1 < y.1
  · simp [h1]
  · by_cases h2 : y.1 < x.1 <;> simp [h1, h2]
theorem swoFrom : SWO (ltOf fun x y : Int × Int => Lib.compareInt x.1 y.1) where
  irrefl x := by rw [ltFrom]; simp
  trans x y z h1 h2 := by rw [ltFrom] at *; simp at *; omega
  ntrans x y z h1 h2 := by rw [ltFrom] at *; simp at *; omega

set_option maxHeartbeats 1000000 in
theorem byFrom_any (x y : Int × Int) (W : World) : Calls Try.prog 81 #[.agg #[.int .i64 x.1, .int .i64 x.2], .agg #[.int .i64 y.1, .int .i64 y.2]] W fun e w' => e = .returned (.int .i64 (Lib.compareInt x.1 y.1)) ∧ ∃ q os', w' = grow (W.drewN q) os' := by
  have hcon := fun W' => AnyG.cmp_Compare_int Try.cmpInt x.1 y.1 W'
  change ∀ W', Calls Try.prog 71 _ _ _ at hcon
  generalize Lib.compareInt x.1 y.1 = r at hcon ⊢
  go_enter Try.func81, Try.ntmps81
  go_wp2_with (go_at_call 71; refine (hcon _).mono ?_; rintro e w' ⟨rfl, rfl⟩)
  go_ret
  exact ⟨rfl, 0, _, by rw [alloc_eq_grow, alloc_eq_grow, grow_grow]; rfl⟩
theorem byFrom_lays (blk off size : Nat) (w : World) : CmpLays Try.prog 81 #[] encIv 2 (fun x y => Lib.compareInt x.1 y.1) blk off size w := fun _ _ _ _ x y => byFrom_any x y _

/-- The same spans, in order. -/
def Sorts (zs l : List (Int × Int)) : Prop := inOrder l ∧ l.Perm zs
theorem inOrder_of : ∀ (l : List (Int × Int)), (∀ i j, i < j → j < l.length → ¬ (l.getD j (0, 0)).1 < (l.getD i (0, 0)).1) → inOrder l
  | [], _ => trivial
  | s :: l, h => by
    refine ⟨fun t ht => ?_, inOrder_of l fun i j hij hj => by simpa [List.getD] using h (i + 1) (j + 1) (by omega) (by simpa using hj)⟩
    obtain ⟨k, hk, rfl⟩ := List.mem_iff_getElem.1 ht
    have := h 0 (k + 1) (by omega) (by simpa using hk)
    simp [List.getD, hk] at this
    omega
theorem SortFunc_own (base : Nat) (v : Value) (zs : List (Int × Int)) (w : World) (h : w.ownsRow base 43 2 v zs.length (flat zs)) (hl : zs.length ≤ 4194304) :
    Calls Try.prog 95 #[v, .func (.func 81) #[] #[]] w fun e w' => e = .returned (.tuple #[]) ∧ ∃ l, Sorts zs l ∧ w'.ownsRow base 43 2 v zs.length (flat l) ∧ Below base w w' := by
  rcases h.2 with ⟨hv, h0⟩ | ⟨g, c, cur, hv, hb, hg, _⟩
  · obtain rfl : zs = [] := List.length_eq_zero_iff.1 h0
    subst hv
    have hcon := AnyF.slices_SortFunc_none (P := Try.prog) { Try.sortSpan with } none 0 (.func (.func 81) #[] #[]) w
    change Calls Try.prog 95 _ _ _ at hcon
    refine hcon.mono fun e w' ⟨he, hw⟩ => ?_
    subst hw
    exact ⟨he, [], ⟨trivial, List.Perm.refl _⟩, h, Below.refl _ _⟩
  · subst hv
    have eg : ∀ args w, (callFunc 81 args).run Try.prog w = .ok (.enter 81 args) w := enters_of Try.func81 (by kernel_rfl) rfl
    have hgl : g < w.heap.size := (Array.getElem?_eq_some_iff.1 hg).1
    have hcon := AnyQ.slices_SortFunc Try.sortSpan 2 Try.isAgg43 Try.sizeOf43 encIv (fun _ => rfl) (fun x v hv => by simp [encIv] at hv; rcases hv with rfl | rfl <;> rfl) (fun x y => Lib.compareInt x.1 y.1) swoFrom 81 #[] g 0 c zs.toArray w eg (byFrom_lays g 0 _ w) (holds_flat h rfl) hgl (by simp; omega)
    change Calls Try.prog 95 _ _ _ at hcon
    simp only [List.size_toArray] at hcon
    refine hcon.mono fun e w' ⟨he, d', n, os, hp, hs, hw⟩ => ⟨he, d'.toList, ⟨?_, ?_⟩, ?_, ?_⟩
    · refine inOrder_of _ fun i j hij hj => ?_
      have hsz : d'.size = zs.length := by simpa using hp.1
      have hj' : j < d'.size := by simpa using hj
      have := hs i j (Nat.zero_le _) hij (by omega)
      rw [ltFrom, decide_eq_false_iff_not] at this
      have e1 : d'[j]! = d'.toList.getD j (0, 0) := by simp [List.getD, hj']
      have e2 : d'[i]! = d'.toList.getD i (0, 0) := by simp [List.getD, show i < d'.size by omega]
      rw [← e1, ← e2]
      exact this
    · have := hp.2.2
      have hsz : d'.size = zs.length := by simpa using hp.1
      have h2 : (List.take zs.length d'.toList).Perm zs := by simpa using this
      rwa [List.take_of_length_le (by simp; omega)] at h2
    · subst hw
      have hsz : d'.toList.length = zs.length := by simpa using hp.1
      have h1 := owns_putRow (q := n) h rfl hsz
      exact ownsRow_grow h1 0 os
    · subst hw
      have h1 := below_putRow (enc := id) (q := n) (d := flatK encIv 2 d') (Below.refl base w) hb
      exact h1.trans (below_grow base _ (by have := h1.size; omega) 0 os)
end Go.Proofs.Ytfolppahdmkaoaa
