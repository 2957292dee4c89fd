/-
  Walk: SetOf.
-/
import Derived.Test.YtgclmldhdjmabaaGreatJoined
import Derived.Test.YtgclmldhdjmabaaGreatMark
import Derived.Test.YtgclmldhdjmabaaGreatShelf
import Derived.Test.YtgclmldhdjmabaaGreatShelfR
import Derived.Lib.AppendIntMem
import Derived.Lib.OwnBridge
import Derived.Test.YtgclmldhdjmabaaGreatGets
namespace Go.Proofs.YtgclmldhdjmabaaGreat
open Go.RowKit Go.Shelf Go.Lib Go.Sort

def encIv (x : Int × Int) : List Value := [.int .i64 x.1, .int .i64 x.2]
theorem flat_at (l : List (Int × Int)) (t : Nat) (h : t < l.length * 2) : (flat l)[t]? = some ((encIv (l.toArray[t / 2]!))[t % 2]!) := by
  have hi : t / 2 < l.length := by omega
  have e : l.toArray[t / 2]! = l.getD (t / 2) (0, 0) := by simp [List.getD, hi]
  rcases Nat.mod_two_eq_zero_or_one t with h2 | h2
  · have ht : t = (t / 2) * 2 := by omega
    rw [h2, e, show (flat l)[t]? = (flat l)[(t / 2) * 2]? from by rw [← ht], flat_get0 l _ hi]
    rfl
  · have ht : t = (t / 2) * 2 + 1 := by omega
    rw [h2, e, show (flat l)[t]? = (flat l)[(t / 2) * 2 + 1]? from by rw [← ht], flat_get1 l _ hi]
    rfl
theorem flatK_flat (l : List (Int × Int)) : flatK encIv 2 l.toArray = (flat l).toArray := by
  refine ext_get! (by simp [flat_length]) fun t ht => ?_
  have ht' : t < l.length * 2 := by simpa using ht
  rw [get_flatK _ _ _ t (by simpa using ht')]
  have := flat_at l t ht'
  have hl : t < (flat l).length := by rw [flat_length]; exact ht'
  rw [List.getElem?_eq_getElem hl] at this
  injection this with this
  rw [← this]
  simp [hl]
theorem holds_flat {w : World} {base g n cap : Nat} {e : TypeId} {l : List (Int × Int)} (h : w.ownsRow base e 2 (.slice (some ⟨g, 0, none⟩) n cap) n (flat l)) (hn : n = l.length) : HoldsK encIv 2 w g 0 l.toArray := by
  subst hn
  intro j hj
  have hj' : j < l.length * 2 := by simpa using hj
  refine ⟨?_, by simpa using h.frozenAt j⟩
  rw [Nat.zero_add, h.cellAt j hj', get_flatK _ _ _ j (by simpa using hj'), flat_at l j hj']
  rfl
theorem owns_putRow {w : World} {base g n cap q : Nat} {e : TypeId} {l l' : List (Int × Int)} (h : w.ownsRow base e 2 (.slice (some ⟨g, 0, none⟩) n cap) n (flat l)) (hn : n = l.length) (hl : l'.length = l.length) :
    (putRowK encIv 2 (Sort.ahead w q) g 0 l'.toArray).ownsRow base e 2 (.slice (some ⟨g, 0, none⟩) n cap) n (flat l') := by
  unfold putRowK
  rw [flatK_flat]
  rcases h.2 with ⟨e0, _⟩ | ⟨g', cap', cur, e0, hb, hg, hnc, hm, hs, ht⟩
  · cases e0
  · injection e0 with e1 _ e3
    injection e1 with e1
    injection e1 with e1
    subst e1; subst e3
    refine ⟨by rw [flat_length, hn, hl], .inr ⟨g, cap, putCells id 0 (flat l').toArray cur, rfl, hb, ?_, hnc, hm, by simpa [putCells] using hs, ?_⟩⟩
    · simp [putRow, mapBlock, Sort.ahead, Array.getElem?_modify, hg, onCells]
    · apply List.ext_getElem?
      intro j
      rw [List.getElem?_take, Array.getElem?_toList]
      by_cases hj : j < n * 2
      · have hjc : j < cur.size := by have : n * 2 ≤ cap * 2 := Nat.mul_le_mul_right _ hnc; omega
        have hjl : j < (flat l').length := by rw [flat_length]; omega
        simp only [if_pos hj, putCells, Array.getElem?_mapIdx, Array.getElem?_eq_getElem hjc, Option.map_some]
        rw [if_pos (by simpa using hjl), List.getElem?_eq_getElem hjl]
        simp [hjl]
      · have : ¬ j < (flat l').length := by rw [flat_length]; omega
        simp [hj]
        omega
theorem ltFrom (x y : Int × Int) : ltOf (fun x y : Int × Int => Lib.compareInt x.1 y.1) x y = decide (x.1 < y.1) := by
  unfold ltOf Lib.compareInt
  by_cases h1 : x.1 < y.1
  · simp [h1]
  · by_cases h2 : y.1 < x.1 <;> simp [h1, h2]
theorem swoFrom : SWO (ltOf fun x y : Int × Int => Lib.compareInt x.1 y.1) where
  irrefl x := by rw [ltFrom]; simp
  trans x y z h1 h2 := by rw [ltFrom] at *; simp at *; omega
  ntrans x y z h1 h2 := by rw [ltFrom] at *; simp at *; omega

set_option maxHeartbeats 1000000 in
theorem byFrom_any (x y : Int × Int) (W : World) : Calls Tryz.prog 62 #[.agg #[.int .i64 x.1, .int .i64 x.2], .agg #[.int .i64 y.1, .int .i64 y.2]] W fun e w' => e = .returned (.int .i64 (Lib.compareInt x.1 y.1)) ∧ ∃ q os', w' = grow (W.drewN q) os' := by
  have hcon := fun W' => AnyG.cmp_Compare_int Tryz.cmpInt x.1 y.1 W'
  change ∀ W', Calls Tryz.prog 63 _ _ _ at hcon
  generalize Lib.compareInt x.1 y.1 = r at hcon ⊢
  go_enter Tryz.func62, Tryz.ntmps62
  go_wp2_with (go_at_call 63; refine (hcon _).mono ?_; rintro e w' ⟨rfl, rfl⟩)
  go_ret
  exact ⟨rfl, 0, _, by rw [alloc_eq_grow, alloc_eq_grow, grow_grow]; rfl⟩
theorem byFrom_lays (blk off size : Nat) (w : World) : CmpLays Tryz.prog 62 #[] encIv 2 (fun x y => Lib.compareInt x.1 y.1) blk off size w := fun _ _ _ _ x y => byFrom_any x y _

/-- The same spans, in order. -/
def Sorts (zs l : List (Int × Int)) : Prop := inOrder l ∧ l.Perm zs
theorem inOrder_of : ∀ (l : List (Int × Int)), (∀ i j, i < j → j < l.length → ¬ (l.getD j (0, 0)).1 < (l.getD i (0, 0)).1) → inOrder l
  | [], _ => trivial
  | s :: l, h => by
    refine ⟨fun t ht => ?_, inOrder_of l fun i j hij hj => by simpa [List.getD] using h (i + 1) (j + 1) (by omega) (by simpa using hj)⟩
    obtain ⟨k, hk, rfl⟩ := List.mem_iff_getElem.1 ht
    have := h 0 (k + 1) (by omega) (by simpa using hk)
    simp [List.getD, hk] at this
    omega
theorem SortFunc_own (base : Nat) (v : Value) (zs : List (Int × Int)) (w : World) (h : w.ownsRow base 25 2 v zs.length (flat zs)) (hl : zs.length ≤ 4194304) :
    Calls Tryz.prog 79 #[v, .func (.func 62) #[] #[]] w fun e w' => e = .returned (.tuple #[]) ∧ ∃ l, Sorts zs l ∧ w'.ownsRow base 25 2 v zs.length (flat l) ∧ Below base w w' := by
  rcases h.2 with ⟨hv, h0⟩ | ⟨g, c, cur, hv, hb, hg, _⟩
  · obtain rfl : zs = [] := List.length_eq_zero_iff.1 h0
    subst hv
    have hcon := AnyF.slices_SortFunc_none (P := Tryz.prog) { Tryz.sortSpan with } none 0 (.func (.func 62) #[] #[]) w
    change Calls Tryz.prog 79 _ _ _ at hcon
    refine hcon.mono fun e w' ⟨he, hw⟩ => ?_
    subst hw
    exact ⟨he, [], ⟨trivial, List.Perm.refl _⟩, h, Below.refl _ _⟩
  · subst hv
    have eg : ∀ args w, (callFunc 62 args).run Tryz.prog w = .ok (.enter 62 args) w := enters_of Tryz.func62 (by kernel_rfl) rfl
    have hgl : g < w.heap.size := (Array.getElem?_eq_some_iff.1 hg).1
    have hcon := AnyQ.slices_SortFunc Tryz.sortSpan 2 Tryz.isAgg25 Tryz.sizeOf25 encIv (fun _ => rfl) (fun x v hv => by simp [encIv] at hv; rcases hv with rfl | rfl <;> rfl) (fun x y => Lib.compareInt x.1 y.1) swoFrom 62 #[] g 0 c zs.toArray w eg (byFrom_lays g 0 _ w) (holds_flat h rfl) hgl (by simp; omega)
    change Calls Tryz.prog 79 _ _ _ at hcon
    simp only [List.size_toArray] at hcon
    refine hcon.mono fun e w' ⟨he, d', n, os, hp, hs, hw⟩ => ⟨he, d'.toList, ⟨?_, ?_⟩, ?_, ?_⟩
    · refine inOrder_of _ fun i j hij hj => ?_
      have hsz : d'.size = zs.length := by simpa using hp.1
      have hj' : j < d'.size := by simpa using hj
      have := hs i j (Nat.zero_le _) hij (by omega)
      rw [ltFrom, decide_eq_false_iff_not] at this
      have e1 : d'[j]! = d'.toList.getD j (0, 0) := by simp [List.getD, hj']
      have e2 : d'[i]! = d'.toList.getD i (0, 0) := by simp [List.getD, show i < d'.size by omega]
      rw [← e1, ← e2]
      exact this
    · have := hp.2.2
      have hsz : d'.size = zs.length := by simpa using hp.1
      have h2 : (List.take zs.length d'.toList).Perm zs := by simpa using this
      rwa [List.take_of_length_le (by simp; omega)] at h2
    · subst hw
      have hsz : d'.toList.length = zs.length := by simpa using hp.1
      have h1 := owns_putRow (q := n) h rfl hsz
      exact ownsRow_grow h1 0 os
    · subst hw
      have h1 := below_putRow (enc := id) (q := n) (d := flatK encIv 2 d') (Below.refl base w) hb
      exact h1.trans (below_grow base _ (by have := h1.size; omega) 0 os)
end Go.Proofs.YtgclmldhdjmabaaGreat
namespace Go.Proofs.YtgclmldhdjmabaaGreat
open Go.RowKit

def allB (zs : List (Int × Int)) : Bool := zs.all fun s => okB s.1 s.2
def setOfL (zs : List (Int × Int)) : List (Int × Int) := if allB zs then addAll zs else []
theorem allB_no {zs : List (Int × Int)} {k : Nat} (hk : k < zs.length) (h : okB (zs.getD k (0, 0)).1 (zs.getD k (0, 0)).2 = false) : allB zs = false := by
  unfold allB
  rw [List.all_eq_false]
  have e : zs.getD k (0, 0) = zs[k] := by simp [List.getD, hk]
  rw [e] at h
  exact ⟨zs[k], List.getElem_mem hk, by simp [h]⟩
theorem allB_yes {zs : List (Int × Int)} (h : ∀ k, k < zs.length → okB (zs.getD k (0, 0)).1 (zs.getD k (0, 0)).2 = true) : allB zs = true := by
  unfold allB
  rw [List.all_eq_true]
  intro s hs
  obtain ⟨k, hk, rfl⟩ := List.mem_iff_getElem.1 hs
  have := h k hk
  simpa [List.getD, hk] using this
theorem allOk_of {zs : List (Int × Int)} (h : allB zs = true) : allOk zs := fun s hs => by
  have := List.all_eq_true.1 h s hs
  simpa [okB] using this
theorem has_perm {l zs : List (Int × Int)} (h : l.Perm zs) (q : Int) : has l q ↔ has zs q := by
  simp only [has]
  constructor
  · rintro ⟨z, hz, h1⟩; exact ⟨z, h.mem_iff.1 hz, h1⟩
  · rintro ⟨z, hz, h1⟩; exact ⟨z, h.mem_iff.2 hz, h1⟩
theorem sorts_join {zs l : List (Int × Int)} (h : allB zs = true) (hs : Sorts zs l) : joinL l = addAll zs :=
  join_add (allOk_of h) (fun s hs' => allOk_of h s (hs.2.mem_iff.1 hs')) hs.1 (has_perm hs.2)
theorem addAll_setOk {zs : List (Int × Int)} (h : allB zs = true) : setOk (addAll zs) = true := (addAll_ok 0 zs [] setOk_nil (allOk_of h)).1
theorem has_addAll {zs : List (Int × Int)} (h : allB zs = true) (q : Int) : has (addAll zs) q ↔ has zs q := by
  rw [addAll, (addAll_ok q zs [] setOk_nil (allOk_of h)).2]
  simp [has_nil]
theorem setOfL_ok (zs : List (Int × Int)) : setOk (setOfL zs) = true := by
  unfold setOfL
  by_cases h : allB zs = true
  · rw [if_pos h]; exact addAll_setOk h
  · rw [if_neg h]; rfl
theorem setOfL_len (zs : List (Int × Int)) : (setOfL zs).length ≤ 100 := setOk_len (setOfL_ok zs)

set_option maxHeartbeats 1000000 in
theorem SortedFunc_any (A : Option Addr) (cap Bs : Nat) (zs : List (Int × Int)) (w : World) (hl : zs.length ≤ 4194304) (hc : w.cell? ⟨Bs, 0, none⟩ = some (.slice A zs.length cap)) (hz : Spans w A zs) (hA : ∀ b off, A = some ⟨b, off, none⟩ → b < w.heap.size) :
    Calls Tryz.prog 66 #[.func (.func 77) #[] #[.pointer (some ⟨Bs, 0, none⟩)], .func (.func 62) #[] #[]] w fun e w' =>
      ∃ v l, e = .returned v ∧ Sorts zs l ∧ w'.ownsRow w.heap.size 25 2 v zs.length (flat l) ∧ Below w.heap.size w w' := by
  have hBs : Bs < w.heap.size := World.block_lt_of_cell? _ _ hc
  have hC := Collect_in 9 (by omega) 77 #[.pointer (some ⟨Bs, 0, none⟩)] zs zs.length hl w.heap.size w w (seqAll_of_stops (Nat.le_refl _) (values_stops 8 (by omega) Bs w.heap.size cap A zs hl w hBs (Nat.le_refl _) hc hz hA)) (Below.refl _ _) (Nat.le_refl _) enter90
  have HC := Lib.hid hC
  clear hC hz hA hc
  go_enter Tryz.func66, Tryz.ntmps66
  go_wp2_with fail
  refine HC.out.mono ?_
  rintro e w1 ⟨v, rfl, ho, hv, hb⟩
  have HO := Lib.hid ho
  have B1 := Lib.hid hb
  clear ho hv hb
  go_wp2_with fail
  refine (SortFunc_own w.heap.size v zs w1 HO.out hl).mono ?_
  rintro e w2 ⟨rfl, l, hs, ho2, hb2⟩
  have HS := Lib.hid hs
  have O2 := Lib.hid ho2
  have B2 := Lib.hid (B1.out.trans hb2)
  clear hs ho2 hb2
  go_wp2
  go_ret
  exact ⟨v, l, rfl, HS.out, O2.out, B2.out⟩

set_option maxRecDepth 100000 in
set_option maxHeartbeats 2000000 in
theorem SetOf_any (A : Option Addr) (cap : Nat) (zs : List (Int × Int)) (w : World) (hz : Spans w A zs) (hA : ∀ b off, A = some ⟨b, off, none⟩ → b < w.heap.size) (hl : zs.length ≤ 4194304) :
    Calls Tryz.prog 46 #[.slice A zs.length cap] w (Gets w (setOfL zs)) := by
  have HZ := Lib.hid hz
  have HA := Lib.hid hA
  clear hz hA
  go_enter Tryz.func46, Tryz.ntmps46
  go_wp2
  go_loopw [8] (fun i wr => ∃ k : Nat, k ≤ zs.length ∧ i = .int .i64 k ∧ (∀ j, j < k → okB (zs.getD j (0, 0)).1 (zs.getD j (0, 0)).2 = true) ∧ Below w.heap.size w wr) (fun i _ => zs.length - (intOf i).toNat)
  case atStart => exact ⟨0, Nat.zero_le _, rfl, fun j hj => absurd hj (by omega), Below.refl _ _⟩
  case round =>
    obtain ⟨k, hk, rfl, hall, hbr⟩ := hrel
    have Hall := Lib.hid hall
    clear hall
    by_cases hlt : k < zs.length
    · obtain ⟨b, off, rfl, hcells⟩ := HZ.out.below hbr (by omega)
      obtain ⟨c0, c1⟩ := hcells k hlt
      clear hcells
      obtain ⟨o, ho⟩ : ∃ o, okB (zs.getD k (0, 0)).1 (zs.getD k (0, 0)).2 = o := ⟨_, rfl⟩
      have HO := Lib.hid ho
      obtain ⟨x, hx⟩ : ∃ x, (zs.getD k (0, 0)).1 = x := ⟨_, rfl⟩
      obtain ⟨y, hy⟩ : ∃ y, (zs.getD k (0, 0)).2 = y := ⟨_, rfl⟩
      rw [hx, hy] at ho
      rw [hx] at c0
      rw [hy] at c1
      have HO' := Lib.hid ho
      clear ho hx hy
      go_wp2_with fail
      refine (ok_val _ _ _ _ HO'.out).mono ?_
      rintro e w2 ⟨rfl, hb2⟩
      have B2 := Lib.hid ((hbr.alloc hbr.size _).trans (hb2.mono (by have := hbr.size; simp; omega)))
      clear hb2 c0 c1 hbr
      cases o
      · have HR := Lib.hid (show setOfL zs = [] from by rw [setOfL, allB_no hlt HO.out]; rfl)
        go_wp2
        go_ret
        rw [HR.out]
        exact gets_nil _ _ B2.out
      · go_wp2
        go_roundw
        case rel => exact ⟨k + 1, by omega, by go_num, (fun j hj => by
          by_cases e : j = k
          · subst e; exact HO.out
          · exact Hall.out j (by omega)), B2.out⟩
        case measure => simp [intOf]; omega
    · have HB := Lib.hid (allB_yes (zs := zs) fun j hj => Hall.out j (by omega))
      have HR := Lib.hid (show setOfL zs = addAll zs from by rw [setOfL, HB.out]; rfl)
      have BR := Lib.hid hbr
      clear hbr
      go_wp2_with fail
      refine (Values_any _ _ _ _).mono ?_
      rintro e w2 ⟨rfl, hw2⟩
      have B2' := Lib.hid (show Below wr.heap.size wr w2 from by rw [hw2]; exact (Below.refl _ _).alloc (Nat.le_refl _) _)
      have C2 := Lib.hid (show w2.cell? ⟨wr.heap.size, 0, none⟩ = some (.slice A zs.length cap) from by rw [hw2]; simp [go_sem])
      have S2 := Lib.hid (show ∀ b off, A = some ⟨b, off, none⟩ → b < w2.heap.size from fun b off e => by have h1 := HA.out b off e; have h2 := BR.out.size; have h3 := B2'.out.size; omega)
      have B2 := Lib.hid (BR.out.trans (B2'.out.mono BR.out.size))
      clear hw2
      go_wp2_with fail
      refine (SortedFunc_any A cap wr.heap.size zs w2 hl C2.out ((HZ.out.below BR.out).below B2'.out) S2.out).mono ?_
      rintro e w3 ⟨v, l, rfl, hs, ho3, hb3⟩
      have HS := Lib.hid hs
      have hll : l.length = zs.length := hs.2.length_eq
      have O3 := Lib.hid (show w3.ownsRow w2.heap.size 25 2 v l.length (flat l) from by rw [hll]; exact ho3)
      have B3 := Lib.hid (B2.out.trans (hb3.mono B2.out.size))
      have hl' : l.length ≤ 4194304 := by omega
      clear hs ho3 hb3 hll
      obtain ⟨A3, c3, hv⟩ := owns_slice O3.out
      subst hv
      go_wp2_with fail
      refine (Values_any _ _ _ _).mono ?_
      rintro e w4 ⟨rfl, hw4⟩
      have B4' := Lib.hid (show Below w3.heap.size w3 w4 from by rw [hw4]; exact (Below.refl _ _).alloc (Nat.le_refl _) _)
      have C4 := Lib.hid (show w4.cell? ⟨w3.heap.size, 0, none⟩ = some (.slice A3 l.length c3) from by rw [hw4]; simp [go_sem])
      have O4 := Lib.hid (owns_keep O3.out B4'.out)
      have B4 := Lib.hid (B3.out.trans (B4'.out.mono B3.out.size))
      clear hw4
      have hJ := (callsIn_wide (n := 9)).1 (joined_in 9 (by omega) 77 #[.pointer (some ⟨w3.heap.size, 0, none⟩)] l l.length (by omega) w4.heap.size w4 w4 (seqAll_of_stops (Nat.le_refl _) (values_stops 8 (by omega) w3.heap.size w4.heap.size c3 A3 l (by omega) w4 (World.block_lt_of_cell? _ _ C4.out) (Nat.le_refl _) C4.out (owns_spans O4.out) (owns_block O4.out))) (Below.refl _ _) (Nat.le_refl _) enter90)
      rw [sorts_join HB.out HS.out] at hJ
      have HJ := Lib.hid hJ
      clear hJ
      go_wp2_with fail
      refine HJ.out.mono ?_
      rintro e w5 h5
      obtain ⟨A5, c5, rfl, h6⟩ := gets_after (gets_of_coll h5) B4.out
      have H6 := Lib.hid h6
      clear h5 h6
      go_wp2
      go_ret
      rw [HR.out]
      exact ⟨A5, c5, rfl, H6.out⟩
end Go.Proofs.YtgclmldhdjmabaaGreat
