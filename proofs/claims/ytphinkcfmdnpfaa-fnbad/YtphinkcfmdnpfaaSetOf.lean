/-
  Walk: SetOf.
-/
import Derived.Test.YtphinkcfmdnpfaaJoined
import Derived.Test.YtphinkcfmdnpfaaMeets
import Derived.Test.YtphinkcfmdnpfaaShelf
import Derived.Test.YtphinkcfmdnpfaaShelfR
import Derived.Lib.AppendIntMem
import Derived.Lib.OwnBridge
import Derived.Test.YtphinkcfmdnpfaaGets
namespace Go.Proofs.Ytphinkcfmdnpfaa
open Go.RowKit Go.Shelf Go.Lib Go.Sort

def encIv (x : Int × Int) : List Value := [.int .i64 x.1, .int .i64 x.2]
theorem flat_at (l : List (Int × Int)) (t : Nat) (h : t < l.length * 2) : (flat l)[t]? = some ((encIv (l.toArray[t / 2]!))[t % 2]!) := by
  have hi : t / 2 < l.length := by omega
  have e : l.toArray[t / 2]! = l.getD (t / 2) (0, 0) := by simp [List.getD, hi]
  rcases Nat.mod_two_eq_zero_or_one t with h2 | h2
  · have ht : t = (t / 2) * 2 := by omega
    rw [h2, e, show (flat l)[t]? = (flat l)[(t / 2) * 2]? from by rw [← ht], flat_get0 l _ hi]
    rfl
  · have ht : t = (t / 2) * 2 + 1 := by omega
    rw [h2, e, show (flat l)[t]? = (flat l)[(t / 2) * 2 + 1]? from by rw [← ht], flat_get1 l _ hi]
    rfl
theorem flatK_flat (l : List (Int × Int)) : flatK encIv 2 l.toArray = (flat l).toArray := by
  refine ext_get! (by simp [flat_length]) fun t ht => ?_
  have ht' : t < l.length * 2 := by simpa using ht
  rw [get_flatK _ _ _ t (by simpa using ht')]
  have := flat_at l t ht'
  have hl : t < (flat l).length := by rw [flat_length]; exact ht'
  rw [List.getElem?_eq_getElem hl] at this
  injection this with this
  rw [← this]
  simp [hl]
theorem holds_flat {w : World} {base g n cap : Nat} {e : TypeId} {l : List (Int × Int)} (h : w.ownsRow base e 2 (.slice (some ⟨g, 0, none⟩) n cap) n (flat l)) (hn : n = l.length) : HoldsK encIv 2 w g 0 l.toArray := by
  subst hn
  intro j hj
  have hj' : j < l.length * 2 := by simpa using hj
  refine ⟨?_, by simpa using h.frozenAt j⟩
  rw [Nat.zero_add, h.cellAt j hj', get_flatK _ _ _ j (by simpa using hj'), flat_at l j hj']
  rfl
theorem owns_putRow {w : World} {base g n cap q : Nat} {e : TypeId} {l l' : List (Int × Int)} (h : w.ownsRow base e 2 (.slice (some ⟨g, 0, none⟩) n cap) n (flat l)) (hn : n = l.length) (hl : l'.length = l.length) :
    (putRowK encIv 2 (Sort.ahead w q) g 0 l'.toArray).ownsRow base e 2 (.slice (some ⟨g, 0, none⟩) n cap) n (flat l') := by
  unfold putRowK
  rw [flatK_flat]
  rcases h.2 with ⟨e0, _⟩ | ⟨g', cap', cur, e0, hb, hg, hnc, hm, hs, ht⟩
  · cases e0
  · injection e0 with e1 _ e3
    injection e1 with e1
    injection e1 with e1
    subst e1; subst e3
    refine ⟨by rw [flat_length, hn, hl], .inr ⟨g, cap, putCells id 0 (flat l').toArray cur, rfl, hb, ?_, hnc, hm, by simpa [putCells] using hs, ?_⟩⟩
    · simp [putRow, mapBlock, Sort.ahead, Array.getElem?_modify, hg, onCells]
    · apply List.ext_getElem?
      intro j
      rw [List.getElem?_take, Array.getElem?_toList]
      by_cases hj : j < n * 2
      · have hjc : j < cur.size := by have : n * 2 ≤ cap * 2 := Nat.mul_le_mul_right _ hnc; omega
        have hjl : j < (flat l').length := by rw [flat_length]; omega
        simp only [if_pos hj, putCells, Array.getElem?_mapIdx, Array.getElem?_eq_getElem hjc, Option.map_some]
        rw [if_pos (by simpa using hjl), List.getElem?_eq_getElem hjl]
        simp [hjl]
      · have : ¬ j < (flat l').length := by rw [flat_length]; omega
        simp [hj]
        omega
theorem ltFrom (x y : Int × Int) : ltOf (fun x y : Int × Int => Lib.compareInt x.1 y.1) x y = decide (x.1 < y.1) := by
  unfold ltOf Lib.compareInt
  by_cases h1 : x.1 < y.1
  · simp [h1]
  · by_cases h2 : y.1 < x.1 <;> simp [h1, h2]
theorem swoFrom : SWO (ltOf fun x y : Int × Int => Lib.compareInt x.1 y.1) where
  irrefl x := by rw [ltFrom]; simp
  trans x y z h1 h2 := by rw [ltFrom] at *; simp at *; omega
  ntrans x y z h1 h2 := by rw [ltFrom] at *; simp at *; omega

/-- The same spans, in order. -/
def Sorts (zs l : List (Int × Int)) : Prop := inOrder l ∧ l.Perm zs
theorem inOrder_of : ∀ (l : List (Int × Int)), (∀ i j, i < j → j < l.length → ¬ (l.getD j (0, 0)).1 < (l.getD i (0, 0)).1) → inOrder l
  | [], _ => trivial
  | s :: l, h => by
    refine ⟨fun t ht => ?_, inOrder_of l fun i j hij hj => by simpa [List.getD] using h (i + 1) (j + 1) (by omega) (by simpa using hj)⟩
    obtain ⟨k, hk, rfl⟩ := List.mem_iff_getElem.1 ht
    have := h 0 (k + 1) (by omega) (by simpa using hk)
    simp [List.getD, hk] at this
    omega
end Go.Proofs.Ytphinkcfmdnpfaa
namespace Go.Proofs.Ytphinkcfmdnpfaa
open Go.RowKit

def allB (zs : List (Int × Int)) : Bool := zs.all fun s => okB s.1 s.2
def setOfL (zs : List (Int × Int)) : List (Int × Int) := if allB zs then addAll zs else []
theorem allB_no {zs : List (Int × Int)} {k : Nat} (hk : k < zs.length) (h : okB (zs.getD k (0, 0)).1 (zs.getD k (0, 0)).2 = false) : allB zs = false := by
  unfold allB
  rw [List.all_eq_false]
  have e : zs.getD k (0, 0) = zs[k] := by simp [List.getD, hk]
  rw [e] at h
  exact ⟨zs[k], List.getElem_mem hk, by simp [h]⟩
theorem allB_yes {zs : List (Int × Int)} (h : ∀ k, k < zs.length → okB (zs.getD k (0, 0)).1 (zs.getD k (0, 0)).2 = true) : allB zs = true := by
  unfold allB
  rw [List.all_eq_true]
  intro s hs
  obtain ⟨k, hk, rfl⟩ := List.mem_iff_getElem.1 hs
  have := h k hk
  simpa [List.getD, hk] using this
theorem allOk_of {zs : List (Int × Int)} (h : allB zs = true) : allOk zs := fun s hs => by
  have := List.all_eq_true.1 h s hs
  simpa [okB] using this
theorem has_perm {l zs : List (Int × Int)} (h : l.Perm zs) (q : Int) : has l q ↔ has zs q := by
  simp only [has]
  constructor
  · rintro ⟨z, hz, h1⟩; exact ⟨z, h.mem_iff.1 hz, h1⟩
  · rintro ⟨z, hz, h1⟩; exact ⟨z, h.mem_iff.2 hz, h1⟩
theorem sorts_join {zs l : List (Int × Int)} (h : allB zs = true) (hs : Sorts zs l) : joinL l = addAll zs :=
  join_add (allOk_of h) (fun s hs' => allOk_of h s (hs.2.mem_iff.1 hs')) hs.1 (has_perm hs.2)
theorem addAll_setOk {zs : List (Int × Int)} (h : allB zs = true) : setOk (addAll zs) = true := (addAll_ok 0 zs [] setOk_nil (allOk_of h)).1
theorem has_addAll {zs : List (Int × Int)} (h : allB zs = true) (q : Int) : has (addAll zs) q ↔ has zs q := by
  rw [addAll, (addAll_ok q zs [] setOk_nil (allOk_of h)).2]
  simp [has_nil]
theorem setOfL_ok (zs : List (Int × Int)) : setOk (setOfL zs) = true := by
  unfold setOfL
  by_cases h : allB zs = true
  · rw [if_pos h]; exact addAll_setOk h
  · rw [if_neg h]; rfl
theorem setOfL_len (zs : List (Int × Int)) : (setOfL zs).length ≤ 100 := setOk_len (setOfL_ok zs)

end Go.Proofs.Ytphinkcfmdnpfaa
