/-
  Walks: trees grown of rows in order.
-/
import Derived.Test.YtphinkcfmdnpfaaRelOf
import Derived.Test.YtphinkcfmdnpfaaNodS
import Derived.Test.YtphinkcfmdnpfaaMeet
import Derived.Deep.RegionHeld3
import Derived.BigQuiet
import Derived.IntWalk
namespace Go.Proofs.Ytphinkcfmdnpfaa
open Go.Shelf Go.RowKit Go.Lib Go.Sort

/-- By when rows begin, then by key. -/
def lessFK (x y : RowV) : Bool := decide (x.f < y.f) || (decide (x.f = y.f) && kl x.k y.k)
def OrderedF (l : List RowV) : Prop := l.Pairwise fun x y => lessFK y x = false
def cmpFK (x y : RowV) : Int := orB (Lib.compareInt x.f y.f) (cmpB x.k y.k)
theorem lessFK_iff {x y : RowV} : lessFK x y = true ↔ x.f < y.f ∨ (x.f = y.f ∧ kl x.k y.k = true) := by
  unfold lessFK
  rw [Bool.or_eq_true, Bool.and_eq_true, decide_eq_true_eq, decide_eq_true_eq]
theorem lessFK_no {x y : RowV} : lessFK x y = false ↔ y.f < x.f ∨ (x.f = y.f ∧ kl x.k y.k = false) := by
  rw [← Bool.not_eq_true, lessFK_iff]
  constructor
  · intro h
    by_cases h1 : y.f < x.f
    · exact .inl h1
    · have h2 : x.f = y.f := by
        by_cases h3 : x.f < y.f
        · exact absurd (.inl h3) h
        · omega
      refine .inr ⟨h2, ?_⟩
      cases h4 : kl x.k y.k with
      | false => rfl
      | true => exact absurd (.inr ⟨h2, h4⟩) h
  · rintro (h | ⟨h1, h2⟩) (h' | ⟨h1', h2'⟩)
    · omega
    · omega
    · omega
    · rw [h2] at h2'; cases h2'
theorem kl_ntrans {a b c : ByteArray} (h1 : kl a b = false) (h2 : kl b c = false) : kl a c = false := by
  cases h : kl a c with
  | false => rfl
  | true =>
    cases h3 : kl b a with
    | true => rw [kl_trans h3 h] at h2; cases h2
    | false =>
      have e := kl_same h1 h3
      subst e
      rw [h] at h2; cases h2
theorem swoFK : Go.Sort.SWO lessFK where
  irrefl x := lessFK_no.2 (.inr ⟨rfl, kl_irrefl _⟩)
  trans x y z h1 h2 := by
    rw [lessFK_iff] at *
    rcases h1 with h1 | ⟨h1, h1'⟩ <;> rcases h2 with h2 | ⟨h2, h2'⟩
    · exact .inl (by omega)
    · exact .inl (by omega)
    · exact .inl (by omega)
    · exact .inr ⟨h1.trans h2, kl_trans h1' h2'⟩
  ntrans x y z h1 h2 := by
    rw [lessFK_no] at *
    rcases h1 with h1 | ⟨h1, h1'⟩ <;> rcases h2 with h2 | ⟨h2, h2'⟩
    · exact .inl (by omega)
    · exact .inl (by omega)
    · exact .inl (by omega)
    · exact .inr ⟨h1.trans h2, kl_ntrans h1' h2'⟩
theorem ltFK : ltOf cmpFK = lessFK := by
  funext x y
  unfold ltOf cmpFK orB lessFK Lib.compareInt
  by_cases h1 : x.f < y.f
  · simp [h1]
  · by_cases h2 : y.f < x.f
    · have h3 : ¬ x.f = y.f := by omega
      simp [h1, h2, h3]
    · have h3 : x.f = y.f := by omega
      unfold cmpB
      cases h4 : kl x.k y.k with
      | true => simp [h3]
      | false => by_cases h5 : (x.k.toList == y.k.toList) = true <;> simp [h3, h5]

set_option maxRecDepth 100000 in
set_option maxHeartbeats 2000000 in
theorem byFK_any (x y : RowV) (W : World) : Calls Try.prog 129 #[.agg #[.string x.k, .string x.t, .int .i64 x.f, .int .i64 x.e], .agg #[.string y.k, .string y.t, .int .i64 y.f, .int .i64 y.e]] W fun e w' => e = .returned (.int .i64 (cmpFK x y)) ∧ ∃ q os', w' = grow (W.drewN q) os' := by
  have hcon := fun W' => AnyG.cmp_Compare_int Try.cmpInt x.f y.f W'
  change ∀ W', Calls Try.prog 58 _ _ _ at hcon
  have htxt := fun W' => compare_text x.k y.k W'
  have HR := Lib.hid (show cmpFK x y = orB (Lib.compareInt x.f y.f) (cmpB x.k y.k) from rfl)
  generalize cmpFK x y = r at HR ⊢
  generalize Lib.compareInt x.f y.f = r1 at hcon HR
  generalize cmpB x.k y.k = r2 at htxt HR
  go_enter Try.func129, Try.ntmps129
  go_wp2_with fail
  generalize hW : (W.alloc _).alloc _ = W1
  have a0 : W1.cell? ⟨W.heap.size, 0, none⟩ = some (.string x.k) := by rw [← hW]; simp [go_sem]
  have a2 : W1.cell? ⟨W.heap.size, 2, none⟩ = some (.int .i64 x.f) := by rw [← hW]; simp [go_sem]
  have b0 : W1.cell? ⟨W.heap.size + 1, 0, none⟩ = some (.string y.k) := by rw [← hW]; simp [go_sem]
  have b2 : W1.cell? ⟨W.heap.size + 1, 2, none⟩ = some (.int .i64 y.f) := by rw [← hW]; simp [go_sem]
  have HG := Lib.hid (show ∃ os, W1 = grow W os from ⟨_, by rw [← hW, alloc_eq_grow, alloc_eq_grow, grow_grow]⟩)
  clear hW
  refine wp_region_still_tail 12 (by kernel_rfl) (by kernel_rfl) ?_
  simp only [List.take_succ_cons, List.take_zero, List.drop_succ_cons, List.drop_zero]
  repeat (first | still_call (htxt _) | still_call (hcon _) | still_step)
  refine wpStill_nil ?_
  change wpList _ _ _ _ _ W1.drew
  go_wp2_with (go_at_call 137; refine (or_two r1 r2 _ _ (by simp) (by simp)).mono ?_; rintro e w' ⟨rfl, rfl⟩)
  go_ret
  refine ⟨by rw [HR.out]; rfl, ?_⟩
  obtain ⟨os, rfl⟩ := HG.out
  exact ⟨1, _, by rw [alloc_eq_grow]; show grow (grow (W.drewN 1) os) _ = _; rw [grow_grow]⟩
theorem byFK_lays (blk off size : Nat) (w : World) : CmpLays Try.prog 129 #[] rowC 4 cmpFK blk off size w := fun _ _ _ _ x y => byFK_any x y _

theorem insF_row (g : Nat) (cb : Array Value) (eg : ∀ args w, (callFunc g args).run Try.prog w = .ok (.enter g args) w) (hcmp : ∀ blk off size w, CmpLays Try.prog g cb rowC 4 cmpFK blk off size w) (blk off cap : Nat) (d0 : Array RowV) (w0 : World) (R : RowK rowC 4 w0 blk off d0) (hsz : d0.size < 4611686018427387904) :
    Sorts1 Try.prog 167 rowC 4 cmpFK g cb blk off cap d0 w0 := fun a b d w hd S hab hb => by
  have hcon := AnyQ.insertionSortCmpFunc Try.insRow 4 Try.isAgg70 Try.sizeOf70 rowC rowC_len rowC_one cmpFK g cb blk off cap a b d w eg (hcmp blk off _ w) (S.holds R.hblk R.hH hd) (S.lt R.hblk) hab hb (by omega)
  change Calls Try.prog 167 _ _ _ at hcon
  rw [hd] at hcon
  refine hcon.mono fun e w' ⟨he, n, os, hw⟩ => ⟨he, Sort.insertionSort (ltOf cmpFK) d a b, ?_⟩
  have h := insertionSort_holds (lt := ltOf cmpFK) (by rw [ltFK]; exact swoFK) d a b hab hb
  exact ⟨h.1, h.2, hw ▸ S.on R.hblk n _ os h.1.1⟩
set_option maxHeartbeats 1000000 in
theorem SortStableF_row (g : Nat) (cb : Array Value) (eg : ∀ args w, (callFunc g args).run Try.prog w = .ok (.enter g args) w) (hcmp : ∀ blk off size w, CmpLays Try.prog g cb rowC 4 cmpFK blk off size w) (blk off cap : Nat) (d : Array RowV) (w : World) (R : RowK rowC 4 w blk off d) (hsz : d.size < 1152921504606846976) :
    Calls Try.prog 139 #[.slice (some ⟨blk, off, none⟩) d.size cap, .func (.func g) #[] cb] w fun e w' => e = .returned (.tuple #[]) ∧ ∃ d', PermIn 0 d.size d d' ∧ SortedIn lessFK 0 d.size d' ∧ SWK rowC 4 w blk off d' w' := by
  have hc := stable_w sortP rowC cmpFK (by rw [ltFK]; exact swoFK) g cb blk off cap d w eg (hcmp blk off _ w) R (insF_row g cb eg hcmp blk off cap d w R (by omega)) hsz
  rw [ltFK] at hc
  go_enter Try.func139, Try.ntmps139
  go_wp2_with (go_at_call 159; refine hc.mono ?_; rintro e w1 ⟨rfl, d', hp, hs, hw⟩; have HP := Lib.hid hp; have HS := Lib.hid hs; have HW := Lib.hid hw; clear hp hs hw)
  first | go_end0 | go_ret
  exact ⟨rfl, d', HP.out, HS.out, HW.out⟩
/-- The list in order lies in memory: how it compares, and its rows. -/
def BoxF (w : World) (ob : Nat) (v : Value) : Prop := w.heap[ob]? = some (.cells #[.func (.func 129) #[] #[], v] 131)
theorem BoxF.cell0 {w : World} {ob : Nat} {v : Value} (h : BoxF w ob v) : w.cell? ⟨ob, 0, none⟩ = some (.func (.func 129) #[] #[]) := by
  simp [World.cell?, show w.heap[ob]? = _ from h]
theorem BoxF.cell1 {w : World} {ob : Nat} {v : Value} (h : BoxF w ob v) : w.cell? ⟨ob, 1, none⟩ = some v := by
  simp [World.cell?, show w.heap[ob]? = _ from h]
theorem BoxF.lt {w : World} {ob : Nat} {v : Value} (h : BoxF w ob v) : ob < w.heap.size := (Array.getElem?_eq_some_iff.1 h).1
theorem BoxF.ne {w : World} {ob g base n c : Nat} {v : Value} {xs : List Value} (h : BoxF w ob v) (ho : w.ownsRow base 70 4 (.slice (some ⟨g, 0, none⟩) n c) n xs) : ob ≠ g := fun e => by
  rcases ho.2 with ⟨e0, _⟩ | ⟨g', cap', cur, e0, hb, hg, _⟩
  · cases e0
  · injection e0 with e1 _ e3
    injection e1 with e1
    injection e1 with e1
    subst e1 e
    have := (show w.heap[ob]? = _ from h).symm.trans hg
    simp at this
theorem BoxF.apart {w : World} {ob base n : Nat} {v v0 : Value} {xs : List Value} (h : BoxF w ob v0) (ho : w.ownsRow base 70 4 v n xs) : some ob ≠ v.ownBlock := fun e => by
  rcases ho.2 with ⟨e0, _⟩ | ⟨g', cap', cur, e0, hb, hg, _⟩
  · subst e0; simp [Value.ownBlock] at e
  · subst e0
    simp [Value.ownBlock] at e
    subst e
    have := (show w.heap[ob]? = _ from h).symm.trans hg
    simp at this
theorem BoxF.frozen {w : World} {ob : Nat} {v : Value} (h : BoxF w ob v) (o : Nat) : w.frozen? ⟨ob, o, none⟩ = false := by
  simp [World.frozen?, show w.heap[ob]? = _ from h]
theorem BoxF.stored {w : World} {ob : Nat} {v : Value} (h : BoxF w ob v) (u : Value) : BoxF (w.setCell ⟨ob, 1, none⟩ u) ob u := by
  unfold BoxF
  rw [heap_setCell_same w ob 1 _ _ u h]
  rfl
theorem BoxF.keep {w w' : World} {ob : Nat} {v : Value} (h : BoxF w ob v) (he : w'.heap[ob]? = w.heap[ob]?) : BoxF w' ob v := he.trans h
/-- A row that lies in another block. -/
theorem owns_setBoxF {w : World} {ob base n : Nat} {v v0 u : Value} {xs : List Value} (h : BoxF w ob v0) (ho : w.ownsRow base 70 4 v n xs) : (w.setCell ⟨ob, 1, none⟩ u).ownsRow base 70 4 v n xs := by
  have ha := h.apart ho
  rcases ho.2 with ⟨e0, h0⟩ | ⟨g, cap, cur, e0, hb, hg, r⟩
  · exact ⟨ho.1, .inl ⟨e0, h0⟩⟩
  · subst e0
    have hne : g ≠ ob := fun e => ha (by simp [Value.ownBlock, e])
    exact ⟨ho.1, .inr ⟨g, cap, cur, rfl, hb, (heap_setCell_other w ⟨ob, 1, none⟩ g u (by simpa using hne)).trans hg, r⟩⟩

set_option maxRecDepth 100000 in
set_option maxHeartbeats 4000000 in
theorem putF_any (base ob : Nat) (v u : Value) (zs ms : List RowV) (w : World) (hbx : BoxF w ob v) (hob : base ≤ ob) (hown : w.ownsRow base 70 4 v zs.length (flatOf rowC zs)) (hu : Src w u ms) (hlen : zs.length + ms.length ≤ 4194304) :
    Calls Try.prog 103 #[.pointer (some ⟨ob, 0, none⟩), u] w fun e w' => e = .returned (.tuple #[]) ∧ ∃ v' l, BoxF w' ob v' ∧ w'.ownsRow base 70 4 v' l.length (flatOf rowC l) ∧ OrderedF l ∧ l.Perm (zs ++ ms) ∧ Below base w w' := by
  obtain ⟨i0, hi, hz0, hz1, hz2⟩ := info_parts Try.infoR70
  have Hi := Lib.hid hi
  have Hz0 := Lib.hid hz0
  have Hz1 := Lib.hid hz1
  have Hz2 := Lib.hid hz2
  have c0 := hbx.cell0
  have c1 := hbx.cell1
  have HB := Lib.hid hbx
  have HO := Lib.hid hown
  have HU := Lib.hid hu
  have hoblt := hbx.lt
  clear hi hz0 hz1 hz2 hbx hown hu
  go_enter Try.func103, Try.ntmps103
  go_wp2_with (at_builtin; refine wpList_append_src _ rfl _ _ 23 rfl base 70 i0 _ 48 Try.underlying23 Hi.out Hz0.out Hz1.out Hz2.out rfl v zs.length zs rfl HO.out u ms rfl HU.out (by unfold maxLen; omega) (by omega) (by omega) ?_; intro v1 w1 ho1 hg1; obtain ⟨A1, k1, rfl⟩ := owns_formN ho1; have HB1 := Lib.hid (HB.out.keep (hg1.block ob hoblt (HB.out.apart HO.out))); have HO1 := Lib.hid ho1; have HG1 := Lib.hid hg1; have c0' := HB1.out.cell0; have c1' := HB1.out.cell1; have fr := HB1.out.frozen; clear ho1 hg1 c0 c1)
  have HB2 := Lib.hid (HB1.out.stored (.slice A1 (zs.length + ms.length) k1))
  have HO2 := Lib.hid (owns_setBoxF (u := .slice A1 (zs.length + ms.length) k1) HB1.out HO1.out)
  have BL2 := Lib.hid (show Below base w (w1.setCell ⟨ob, 1, none⟩ (.slice A1 (zs.length + ms.length) k1)) from ((Below.refl base w).grown HG1.out (by omega) (fun i e => (HO.out.lt i e).1)).setCell (by simpa using hob) _)
  generalize w1.setCell ⟨ob, 1, none⟩ (.slice A1 (zs.length + ms.length) k1) = w2 at HB2 HO2 BL2 ⊢
  have d0 := HB2.out.cell0
  have d1 := HB2.out.cell1
  refine wp_region_still_tail 8 (by kernel_rfl) (by kernel_rfl) ?_
  simp only [List.take_succ_cons, List.take_zero, List.drop_succ_cons, List.drop_zero]
  repeat still_step
  refine wpStill_nil ?_
  change wpList _ _ _ _ _ w2.drew
  replace HB2 := Lib.hid (show BoxF w2.drew ob (.slice A1 (zs.length + ms.length) k1) from HB2.out)
  replace HO2 := Lib.hid (World.ownsRow.drew HO2.out)
  replace BL2 := Lib.hid (show Below base w w2.drew from BL2.out.drew)
  clear d0 d1
  generalize w2.drew = w2 at HB2 HO2 BL2 ⊢
  rcases HO2.out.2 with ⟨e0, h0⟩ | ⟨g, kc, cur, e0, hbg, hg, -⟩
  · injection e0 with e1 e2 e3
    subst e1
    subst e3
    rw [h0]
    go_wp2_with (go_at_call 139; refine (SortStable_nil _ _).mono ?_; rintro e w3 ⟨rfl, rfl⟩)
    first | go_end0 | go_ret
    have hnil : zs ++ ms = [] := List.length_eq_zero_iff.1 (by rw [List.length_append]; exact h0)
    refine ⟨rfl, .slice none 0 0, [], by have := HB2.out; rwa [h0] at this, World.ownsRow_nil _ _ _ _, List.Pairwise.nil, by rw [hnil], BL2.out⟩
  · injection e0 with e1 e2 e3
    subst e1
    subst e3
    have hgl : g < w2.heap.size := (Array.getElem?_eq_some_iff.1 hg).1
    have hlz : zs.length + ms.length = (zs ++ ms).length := by simp
    have eg : ∀ args w, (callFunc 129 args).run Try.prog w = .ok (.enter 129 args) w := enters_of Try.func129 (by kernel_rfl) rfl
    have hcon := SortStableF_row 129 #[] eg byFK_lays g 0 k1 (zs ++ ms).toArray w2 ⟨rowC_len, rowC_one, holds_ofK rowC_len (by omega) HO2.out hlz, hgl⟩ (by simp; omega)
    simp only [List.size_toArray, List.length_append] at hcon
    have HC := Lib.hid hcon
    have HLZ := Lib.hid hlz
    clear hcon hlz e2 eg hg
    go_wp2_with (go_at_call 139; refine HC.out.mono ?_; rintro e w3 ⟨rfl, d', hp, hs, hw⟩; have HS := Lib.hid hs; have HP := Lib.hid hp; have HW := Lib.hid hw; clear hp hs hw)
    first | go_end0 | go_ret
    have hsz : d'.size = zs.length + ms.length := by have := HP.out.1; simpa using this
    obtain ⟨q1, q2, q3⟩ := sorted_own (l' := d'.toList) rowC_len (by omega) HO2.out HLZ.out (by simp; omega) (by simpa using HW.out)
    have HQ3 := HB2.out.keep (q3 ob HB2.out.lt (HB2.out.ne HO2.out))
    refine ⟨rfl, .slice (some ⟨g, 0, none⟩) (zs.length + ms.length) k1, d'.toList, HQ3, ?_, ?_, ?_, BL2.out.trans q2⟩
    · have hl : d'.toList.length = zs.length + ms.length := by simpa using hsz
      rw [hl]; exact q1
    · refine List.pairwise_iff_getElem.2 fun i j hi hj hij => ?_
      have hj' : j < d'.size := by simpa using hj
      have hi' : i < d'.size := by simpa using hi
      have := HS.out i j (Nat.zero_le _) hij (by omega)
      rw [getElem!_pos d' i hi', getElem!_pos d' j hj'] at this
      simpa using this
    · have := HP.out.2.2
      have h2 : (List.take (zs.length + ms.length) d'.toList).Perm (zs ++ ms) := by
        have h3 : (List.take (zs.length + ms.length) d'.toList).Perm (List.take (zs.length + ms.length) (zs ++ ms)) := by simpa using this
        rwa [List.take_of_length_le (l := zs ++ ms) (by simp)] at h3
      rwa [List.take_of_length_le (by simp; omega)] at h2
end Go.Proofs.Ytphinkcfmdnpfaa
namespace Go.Proofs.Ytphinkcfmdnpfaa
open Go.RowKit

/-- A tree of nodes. -/
inductive Tr where
  | nil
  | node (x : NodV) (l r : Tr)
def Tr.list : Tr → List NodV
  | .nil => []
  | .node x l r => x :: (l.list ++ r.list)
def Tr.many : Tr → Nat
  | .nil => 0
  | .node _ l r => l.many + 1 + r.many
def Tr.last : Tr → Int
  | .nil => 0
  | .node x _ _ => x.o
theorem Tr.list_len : ∀ T : Tr, T.list.length = T.many
  | .nil => rfl
  | .node x l r => by
    show (x :: (l.list ++ r.list)).length = _
    rw [List.length_cons, List.length_append, l.list_len, r.list_len]
    show _ = l.many + 1 + r.many
    omega
def TreeAt (w : World) : Tr → Option Addr → Prop
  | .nil, p => p = none
  | .node x l r, p => ∃ b pl pr, p = some ⟨b, 0, none⟩ ∧ b < w.heap.size ∧ (∀ j v, (nodC x ++ [.pointer pl, .pointer pr])[j]? = some v → w.cell? ⟨b, j, none⟩ = some v) ∧ TreeAt w l pl ∧ TreeAt w r pr
theorem TreeAt.below {w w' : World} (hb : Below w.heap.size w w') : ∀ {T : Tr} {p : Option Addr}, TreeAt w T p → TreeAt w' T p
  | .nil, _, h => h
  | .node x l r, p, h => by
    obtain ⟨b, pl, pr, e, hl, hc, h1, h2⟩ := h
    exact ⟨b, pl, pr, e, Nat.lt_of_lt_of_le hl hb.size, fun j v hv => cellBelow hb hl (hc j v hv), h1.below hb, h2.below hb⟩
/-- What lies in a node of a tree. -/
theorem TreeAt.node_at {w : World} {x : NodV} {l r : Tr} {p : Option Addr} (h : TreeAt w (.node x l r) p) : ∃ b pl pr, p = some ⟨b, 0, none⟩ ∧ b < w.heap.size ∧ w.cell? ⟨b, 0, none⟩ = some (.string x.r.k) ∧ w.cell? ⟨b, 1, none⟩ = some (.string x.r.t) ∧ w.cell? ⟨b, 2, none⟩ = some (.int .i64 x.r.f) ∧ w.cell? ⟨b, 3, none⟩ = some (.int .i64 x.r.e) ∧ w.cell? ⟨b, 4, none⟩ = some (.int .i64 x.i) ∧ w.cell? ⟨b, 5, none⟩ = some (.int .i64 x.o) ∧ w.cell? ⟨b, 6, none⟩ = some (.pointer pl) ∧ w.cell? ⟨b, 7, none⟩ = some (.pointer pr) ∧ TreeAt w l pl ∧ TreeAt w r pr := by
  obtain ⟨b, pl, pr, e, hl, hc, h1, h2⟩ := h
  exact ⟨b, pl, pr, e, hl, hc 0 _ rfl, hc 1 _ rfl, hc 2 _ rfl, hc 3 _ rfl, hc 4 _ rfl, hc 5 _ rfl, hc 6 _ rfl, hc 7 _ rfl, h1, h2⟩
theorem TreeAt.mk {w : World} {x : NodV} {l r : Tr} {b : Nat} {pl pr : Option Addr} (c0 : w.cell? ⟨b, 0, none⟩ = some (.string x.r.k)) (c1 : w.cell? ⟨b, 1, none⟩ = some (.string x.r.t)) (c2 : w.cell? ⟨b, 2, none⟩ = some (.int .i64 x.r.f)) (c3 : w.cell? ⟨b, 3, none⟩ = some (.int .i64 x.r.e)) (c4 : w.cell? ⟨b, 4, none⟩ = some (.int .i64 x.i)) (c5 : w.cell? ⟨b, 5, none⟩ = some (.int .i64 x.o)) (c6 : w.cell? ⟨b, 6, none⟩ = some (.pointer pl)) (c7 : w.cell? ⟨b, 7, none⟩ = some (.pointer pr)) (h1 : TreeAt w l pl) (h2 : TreeAt w r pr) : TreeAt w (.node x l r) (some ⟨b, 0, none⟩) := by
  refine ⟨b, pl, pr, rfl, World.block_lt_of_cell? _ _ c0, fun j v hv => ?_, h1, h2⟩
  match j, hv with
  | 0, hv => simp [nodC] at hv; subst hv; exact c0
  | 1, hv => simp [nodC] at hv; subst hv; exact c1
  | 2, hv => simp [nodC] at hv; subst hv; exact c2
  | 3, hv => simp [nodC] at hv; subst hv; exact c3
  | 4, hv => simp [nodC] at hv; subst hv; exact c4
  | 5, hv => simp [nodC] at hv; subst hv; exact c5
  | 6, hv => simp [nodC] at hv; subst hv; exact c6
  | 7, hv => simp [nodC] at hv; subst hv; exact c7
  | j + 8, hv => simp [nodC] at hv

/-- What the program makes of a row over two trees. -/
def overN (x : RowV) (l r : Tr) : NodV := ⟨x, l.many, max (max x.e l.last) r.last⟩
/-- What the program makes of rows in order. -/
def growT : Nat → List RowV → Tr
  | 0, _ => .nil
  | n + 1, zs => match zs[zs.length / 2]? with
    | none => .nil
    | some x => .node (overN x (growT n (zs.take (zs.length / 2))) (growT n (zs.drop (zs.length / 2 + 1)))) (growT n (zs.take (zs.length / 2))) (growT n (zs.drop (zs.length / 2 + 1)))
theorem growT_nil : ∀ n, growT n [] = .nil
  | 0 => rfl
  | n + 1 => by simp [growT]
theorem growT_some {n : Nat} {zs : List RowV} {x : RowV} (h : zs[zs.length / 2]? = some x) : growT (n + 1) zs = .node (overN x (growT n (zs.take (zs.length / 2))) (growT n (zs.drop (zs.length / 2 + 1)))) (growT n (zs.take (zs.length / 2))) (growT n (zs.drop (zs.length / 2 + 1))) := by
  simp [growT, h]
theorem growT_many : ∀ (n : Nat) (zs : List RowV), zs.length ≤ n → (growT n zs).many = zs.length
  | 0, zs, h => by rw [List.length_eq_zero_iff.1 (Nat.le_zero.1 h)]; rfl
  | n + 1, zs, h => by
    rcases zs with _ | ⟨z, l⟩
    · rw [growT_nil]; rfl
    · have hlt : (z :: l).length / 2 < (z :: l).length := by rw [List.length_cons]; omega
      generalize z :: l = zs at h hlt ⊢
      rw [growT_some (List.getElem?_eq_getElem hlt)]
      show (growT n _).many + 1 + (growT n _).many = _
      rw [growT_many n _ (by rw [List.length_take]; omega), growT_many n _ (by rw [List.length_drop]; omega), List.length_take, List.length_drop]
      omega

/-- What the model makes of rows in order. -/
def lastsL (e : Int) (ys : List NodV) : Int := ys.foldl (fun m y => if y.o > m then y.o else m) e
def buildL : Nat → List RowV → List NodV
  | 0, _ => []
  | n + 1, zs => match zs[zs.length / 2]? with
    | none => []
    | some x => ⟨x, (buildL n (zs.take (zs.length / 2))).length, lastsL (lastsL x.e (buildL n (zs.take (zs.length / 2)))) (buildL n (zs.drop (zs.length / 2 + 1)))⟩ :: (buildL n (zs.take (zs.length / 2)) ++ buildL n (zs.drop (zs.length / 2 + 1)))
theorem buildL_nil : ∀ n, buildL n [] = []
  | 0 => rfl
  | n + 1 => by simp [buildL]
theorem buildL_some {n : Nat} {zs : List RowV} {x : RowV} (h : zs[zs.length / 2]? = some x) : buildL (n + 1) zs = ⟨x, (buildL n (zs.take (zs.length / 2))).length, lastsL (lastsL x.e (buildL n (zs.take (zs.length / 2)))) (buildL n (zs.drop (zs.length / 2 + 1)))⟩ :: (buildL n (zs.take (zs.length / 2)) ++ buildL n (zs.drop (zs.length / 2 + 1))) := by
  simp [buildL, h]
theorem lasts_le : ∀ (ys : List NodV) (e : Int), (∀ y ∈ ys, y.o ≤ e) → lastsL e ys = e
  | [], e, _ => rfl
  | y :: ys, e, h => by
    have h1 := h y (List.mem_cons_self ..)
    unfold lastsL
    rw [List.foldl_cons, if_neg (by omega)]
    exact lasts_le ys e fun z hz => h z (List.mem_cons_of_mem _ hz)
theorem lasts_ge : ∀ (ys : List NodV) (e : Int), e ≤ lastsL e ys ∧ ∀ y ∈ ys, y.o ≤ lastsL e ys
  | [], e => ⟨Int.le_refl _, fun y hy => by cases hy⟩
  | z :: ys, e => by
    have h := lasts_ge ys (if z.o > e then z.o else e)
    have e0 : lastsL e (z :: ys) = lastsL (if z.o > e then z.o else e) ys := rfl
    rw [e0]
    refine ⟨?_, fun y hy => ?_⟩
    · have := h.1
      split at this <;> omega
    · rcases List.mem_cons.1 hy with rfl | hy
      · have := h.1
        split at this <;> omega
      · exact h.2 y hy
/-- A tree's first is its last of all, and none lies at the very beginning. -/
def TopT (T : Tr) : Prop := (∀ y ∈ T.list, y.o ≤ T.last) ∧ 0 ≤ T.last
theorem lasts_top {T : Tr} (h : TopT T) {e : Int} (he : 0 ≤ e) : lastsL e T.list = max e T.last := by
  cases T with
  | nil => show e = max e 0; omega
  | node x l r =>
    show lastsL e (x :: (l.list ++ r.list)) = max e x.o
    have e0 : lastsL e (x :: (l.list ++ r.list)) = lastsL (if x.o > e then x.o else e) (l.list ++ r.list) := rfl
    have hx : ∀ y ∈ l.list ++ r.list, y.o ≤ x.o := fun y hy => h.1 y (List.mem_cons_of_mem _ hy)
    rw [e0, lasts_le _ _ fun y hy => by have := hx y hy; split <;> omega]
    split <;> omega
theorem grow_build : ∀ (n : Nat) (zs : List RowV), (∀ x ∈ zs, 0 ≤ x.e) → (growT n zs).list = buildL n zs ∧ TopT (growT n zs)
  | 0, zs, _ => ⟨rfl, ⟨(fun y hy => by cases hy), Int.le_refl _⟩⟩
  | n + 1, zs, h => by
    cases hx : zs[zs.length / 2]? with
    | none =>
      have e1 : growT (n + 1) zs = .nil := by simp [growT, hx]
      have e2 : buildL (n + 1) zs = [] := by simp [buildL, hx]
      rw [e1, e2]
      exact ⟨rfl, ⟨(fun y hy => by cases hy), Int.le_refl _⟩⟩
    | some x =>
      rw [growT_some hx, buildL_some hx]
      obtain ⟨a1, a2⟩ := grow_build n (zs.take (zs.length / 2)) fun y hy => h y (List.mem_of_mem_take hy)
      obtain ⟨b1, b2⟩ := grow_build n (zs.drop (zs.length / 2 + 1)) fun y hy => h y (List.mem_of_mem_drop hy)
      have hxe := h x (List.mem_of_getElem? hx)
      generalize growT n (zs.take (zs.length / 2)) = L at a1 a2 ⊢
      generalize growT n (zs.drop (zs.length / 2 + 1)) = R at b1 b2 ⊢
      rw [← a1, ← b1]
      have hl := lasts_top a2 hxe
      have hr := lasts_top b2 (e := max x.e L.last) (by omega)
      refine ⟨?_, ?_⟩
      · show overN x L R :: (L.list ++ R.list) = _
        rw [hl, hr, L.list_len]
        rfl
      · refine ⟨fun y hy => ?_, ?_⟩
        · show y.o ≤ max (max x.e L.last) R.last
          have hy : y ∈ overN x L R :: (L.list ++ R.list) := hy
          rcases List.mem_cons.1 hy with rfl | hy
          · exact Int.le_refl _
          · rcases List.mem_append.1 hy with hy | hy
            · have := a2.1 y hy; omega
            · have := b2.1 y hy; omega
        · show 0 ≤ max (max x.e L.last) R.last
          omega
end Go.Proofs.Ytphinkcfmdnpfaa
namespace Go.Proofs.Ytphinkcfmdnpfaa
open Go.RowKit Go.Lib

set_option maxRecDepth 100000 in
set_option maxHeartbeats 2000000 in
theorem treeMany_any (T : Tr) : ∀ (p : Option Addr) (w : World), TreeAt w T p → T.many ≤ 1000 →
    Calls Try.prog 152 #[.pointer p] w fun e w' => e = .returned (.int .i64 T.many) ∧ Below w.heap.size w w' := by
  induction T with
  | nil =>
    intro p w h _
    have e : p = none := h
    subst e
    go_enter Try.func152, Try.ntmps152
    go_wp2
    go_ret
    exact ⟨rfl, Below.refl _ _⟩
  | node x l r ihl ihr =>
    intro p w h hm
    obtain ⟨b, pl, pr, rfl, hb, -, -, -, -, -, -, c6, c7, hl, hr⟩ := h.node_at
    have hme : (Tr.node x l r).many = l.many + 1 + r.many := rfl
    have HL := Lib.hid (fun w' (hb : Below w.heap.size w w') => ihl pl w' (hl.below hb) (by omega))
    have HR := Lib.hid (fun w' (hb : Below w.heap.size w w') => ihr pr w' (hr.below hb) (by omega))
    rw [hme] at hm ⊢
    obtain ⟨a, ha⟩ : ∃ a, l.many = a := ⟨_, rfl⟩
    obtain ⟨c, hc⟩ : ∃ c, r.many = c := ⟨_, rfl⟩
    rw [ha] at HL hm ⊢
    rw [hc] at HR hm ⊢
    clear h hl hr ha hc hme ihl ihr
    go_enter Try.func152, Try.ntmps152
    go_wp2_with fail
    refine wp_region_later (by kernel_rfl) (by kernel_rfl) ?_
    intro f hf1 hf2 hfc
    repeat (go_big_quiet_step ((first | (go_at_call 152; with_reducible exact calls_later hf1 hf2 (HL.out _ (hf1.out _))) | (go_at_call 152; with_reducible exact calls_later hf1 hf2 (HR.out _ (hf1.out _))))))
    refine wpQuiet_nil ?_
    rintro _ ⟨v, rfl⟩
    have Hv := Lib.hid (hf1.out v)
    go_wp2
    go_ret
    exact ⟨by first | rfl | (simp; done) | (simp; omega), Hv.out⟩

set_option maxHeartbeats 1000000 in
theorem lastOf_any (T : Tr) (p : Option Addr) (w : World) (h : TreeAt w T p) : Calls Try.prog 153 #[.pointer p] w fun e w' => e = .returned (.int .i64 T.last) ∧ Below w.heap.size w w' := by
  cases T with
  | nil =>
    have e : p = none := h
    subst e
    go_enter Try.func153, Try.ntmps153
    go_wp2
    go_ret
    exact ⟨rfl, Below.refl _ _⟩
  | node x l r =>
    obtain ⟨b, pl, pr, rfl, hb, -, -, -, -, -, c5, -, -, -, -⟩ := h.node_at
    clear h
    go_enter Try.func153, Try.ntmps153
    go_wp2
    go_ret
    exact ⟨rfl, Below.refl _ _⟩
end Go.Proofs.Ytphinkcfmdnpfaa
namespace Go.Proofs.Ytphinkcfmdnpfaa
open Go.RowKit Go.Lib

/-- What lies there. -/
@[irreducible] def valAt (w : World) (b o : Nat) : Value := (w.cell? ⟨b, o, none⟩).getD undef
theorem val_some {w : World} {b o : Nat} {v : Value} (h : w.cell? ⟨b, o, none⟩ = some v) : w.cell? ⟨b, o, none⟩ = some (valAt w b o) := by
  unfold valAt
  rw [h]
  rfl
theorem val_below {w w' : World} {N b o : Nat} (hb : Below N w w') (hl : b < N) (h : w.cell? ⟨b, o, none⟩ = some (valAt w b o)) : w'.cell? ⟨b, o, none⟩ = some (valAt w' b o) :=
  val_some (cellBelow hb hl h)
theorem cell_set_ne {w : World} {b o b' o' : Nat} {u v : Value} (hne : b' ≠ b) (h : w.cell? ⟨b', o', none⟩ = some v) : (w.setCell ⟨b, o, none⟩ u).cell? ⟨b', o', none⟩ = some v := by
  rw [World.cell?_setCell_far w ⟨b, o, none⟩ ⟨b', o', none⟩ u (fun e => hne e.symm)]; exact h
theorem frozen_set {w : World} {a : Addr} {u : Value} {b : Nat} (h : ∀ o, w.frozen? ⟨b, o, none⟩ = false) : ∀ o, (w.setCell a u).frozen? ⟨b, o, none⟩ = false := fun o => by
  rw [World.frozen?_setCell]; exact h o
theorem frozen_drew {w : World} {b : Nat} (h : ∀ o, w.frozen? ⟨b, o, none⟩ = false) : ∀ o, w.drew.frozen? ⟨b, o, none⟩ = false := h
theorem heap_size_setCell (w : World) (a : Addr) (u : Value) : (w.setCell a u).heap.size = w.heap.size := by simp
theorem val_drew {w : World} {b o : Nat} (h : w.cell? ⟨b, o, none⟩ = some (valAt w b o)) : w.drew.cell? ⟨b, o, none⟩ = some (valAt w.drew b o) := val_some (show w.drew.cell? ⟨b, o, none⟩ = _ from h)
theorem val_set {w : World} {a : Addr} {u : Value} {b o : Nat} (h : w.cell? ⟨b, o, none⟩ = some (valAt w b o)) : (w.setCell a u).cell? ⟨b, o, none⟩ = some (valAt (w.setCell a u) b o) := by
  have h1 : ((w.setCell a u).cell? ⟨b, o, none⟩).isSome = true := by
    by_cases e : a = ⟨b, o, none⟩
    · subst e; rw [World.cell?_setCell_same' _ _ _ (by rw [h]; rfl)]; rfl
    · rw [World.cell?_setCell_other (h := e), h]; rfl
  obtain ⟨v, hv⟩ := Option.isSome_iff_exists.1 h1
  exact val_some hv
theorem frozen_below {w w' : World} {N b : Nat} (hb : Below N w w') (hl : b < N) (h : ∀ o, w.frozen? ⟨b, o, none⟩ = false) : ∀ o, w'.frozen? ⟨b, o, none⟩ = false := fun o => by
  rw [(bcell hb).2 _ _ hl]; exact h o

set_option maxRecDepth 100000 in
set_option maxHeartbeats 4000000 in
theorem nodeOver_any (x : RowV) (l r : Tr) (pl pr : Option Addr) (w : World) (hl : TreeAt w l pl) (hr : TreeAt w r pr) (hm : l.many ≤ 1000) :
    Calls Try.prog 131 #[.agg #[.string x.k, .string x.t, .int .i64 x.f, .int .i64 x.e], .pointer pl, .pointer pr] w fun e w' => e = .returned (.agg #[.string x.k, .string x.t, .int .i64 x.f, .int .i64 x.e, .int .i64 l.many, .int .i64 (max (max x.e l.last) r.last)]) ∧ Below w.heap.size w w' := by
  have HL := Lib.hid (fun w' (hb : Below w.heap.size w w') => treeMany_any l pl w' (hl.below hb) hm)
  have HLL := Lib.hid (fun w' (hb : Below w.heap.size w w') => lastOf_any l pl w' (hl.below hb))
  have HLR := Lib.hid (fun w' (hb : Below w.heap.size w w') => lastOf_any r pr w' (hr.below hb))
  obtain ⟨m, hme⟩ : ∃ m, l.many = m := ⟨_, rfl⟩
  obtain ⟨a, ha⟩ : ∃ a, l.last = a := ⟨_, rfl⟩
  obtain ⟨c, hc⟩ : ∃ c, r.last = c := ⟨_, rfl⟩
  rw [hme] at HL ⊢
  rw [ha] at HLL ⊢
  rw [hc] at HLR ⊢
  clear hl hr hm hme ha hc
  have HM := Lib.hid (show (if (if x.e < a then a else x.e) < c then c else if x.e < a then a else x.e) = max (max x.e a) c from by split <;> split <;> omega)
  obtain ⟨mx, hmx⟩ : ∃ mx, max (max x.e a) c = mx := ⟨_, rfl⟩
  rw [hmx] at HM ⊢
  clear hmx
  go_enter Try.func131, Try.ntmps131
  go_upto_region 1 with fail
  generalize hW : (w.alloc _).alloc _ = W0
  have x0 : W0.cell? ⟨w.heap.size, 0, none⟩ = some (.string x.k) := by rw [← hW]; simp [go_sem]
  have x1 : W0.cell? ⟨w.heap.size, 1, none⟩ = some (.string x.t) := by rw [← hW]; simp [go_sem]
  have x2 : W0.cell? ⟨w.heap.size, 2, none⟩ = some (.int .i64 x.f) := by rw [← hW]; simp [go_sem]
  have x3 : W0.cell? ⟨w.heap.size, 3, none⟩ = some (.int .i64 x.e) := by rw [← hW]; simp [go_sem]
  have y0 : W0.cell? ⟨w.heap.size + 1, 0, none⟩ = some (.string ⟨#[]⟩) := by rw [← hW]; simp [go_sem]
  have y1 : W0.cell? ⟨w.heap.size + 1, 1, none⟩ = some (.string ⟨#[]⟩) := by rw [← hW]; simp [go_sem]
  have y2 : W0.cell? ⟨w.heap.size + 1, 2, none⟩ = some (.int .i64 0) := by rw [← hW]; simp [go_sem]
  have y3 : W0.cell? ⟨w.heap.size + 1, 3, none⟩ = some (.int .i64 0) := by rw [← hW]; simp [go_sem]
  have y4 : W0.cell? ⟨w.heap.size + 1, 4, none⟩ = some (.int .i64 0) := by rw [← hW]; simp [go_sem]
  have y5 : W0.cell? ⟨w.heap.size + 1, 5, none⟩ = some (.int .i64 0) := by rw [← hW]; simp [go_sem]
  have yf : ∀ o, W0.frozen? ⟨w.heap.size + 1, o, none⟩ = false := fun o => by rw [← hW]; simp [go_sem]
  have BW := Lib.hid (show Below w.heap.size w W0 from by rw [← hW]; exact ((Below.refl _ _).alloc (Nat.le_refl _) _).alloc (by simp) _)
  have lz : w.heap.size + 1 < W0.heap.size := by rw [← hW]; simp
  have s0 : W0.cell? ⟨w.heap.size + 1, 0, none⟩ = some (valAt W0 (w.heap.size + 1) 0) := val_some y0
  have s1 : W0.cell? ⟨w.heap.size + 1, 1, none⟩ = some (valAt W0 (w.heap.size + 1) 1) := val_some y1
  have s2 : W0.cell? ⟨w.heap.size + 1, 2, none⟩ = some (valAt W0 (w.heap.size + 1) 2) := val_some y2
  have s3 : W0.cell? ⟨w.heap.size + 1, 3, none⟩ = some (valAt W0 (w.heap.size + 1) 3) := val_some y3
  have s4 : W0.cell? ⟨w.heap.size + 1, 4, none⟩ = some (valAt W0 (w.heap.size + 1) 4) := val_some y4
  have s5 : W0.cell? ⟨w.heap.size + 1, 5, none⟩ = some (valAt W0 (w.heap.size + 1) 5) := val_some y5
  obtain ⟨B0, hB0⟩ : ∃ B0, w.heap.size = B0 := ⟨_, rfl⟩
  have hB2 : w.heap.size ≤ B0 := by omega
  rw [hB0] at x0 x1 x2 x3 s0 s1 s2 s3 s4 s5 yf lz ⊢
  obtain ⟨B1, hB1⟩ : ∃ B1, B0 + 1 = B1 := ⟨_, rfl⟩
  rw [hB1] at s0 s1 s2 s3 s4 s5 yf lz ⊢
  have hn1 : B0 ≠ B1 := by omega
  have lb0 : B0 < W0.heap.size := by omega
  have hwz : w.heap.size ≤ B1 := by omega
  have hq0 : Below w.heap.size w W0 := BW.out
  have hwW := BW.out.size
  clear hW y0 y1 y2 y3 y4 y5 hB1 hB0
  go_region_held3 (fun w' => w'.cell? ⟨B0, 0, none⟩ = some (.string x.k) ∧ w'.cell? ⟨B0, 1, none⟩ = some (.string x.t) ∧ w'.cell? ⟨B0, 2, none⟩ = some (.int .i64 x.f) ∧ w'.cell? ⟨B0, 3, none⟩ = some (.int .i64 x.e) ∧ (∀ o, w'.frozen? ⟨B1, o, none⟩ = false) ∧ w'.cell? ⟨B1, 0, none⟩ = some (valAt w' B1 0) ∧ w'.cell? ⟨B1, 1, none⟩ = some (valAt w' B1 1) ∧ w'.cell? ⟨B1, 2, none⟩ = some (valAt w' B1 2) ∧ w'.cell? ⟨B1, 3, none⟩ = some (valAt w' B1 3) ∧ w'.cell? ⟨B1, 4, none⟩ = some (valAt w' B1 4) ∧ w'.cell? ⟨B1, 5, none⟩ = some (valAt w' B1 5) ∧ W0.heap.size ≤ w'.heap.size ∧ Below w.heap.size w w')
    (((try go_split_ands); refine ⟨?cc90, ?cc91, ?cc92, ?cc93, ?fr9, ?ks90, ?ks91, ?ks92, ?ks93, ?ks94, ?ks95, ?sz9, ?bl9⟩; (case cc90 => (repeat (first | with_reducible refine cell_set_ne (by assumption) ?_ | with_reducible assumption | with_reducible refine cell_below hb (by first | omega | (simp; done) | (simp; omega)) ?_ | with_reducible refine cell_drew ?_))); (case cc91 => (repeat (first | with_reducible refine cell_set_ne (by assumption) ?_ | with_reducible assumption | with_reducible refine cell_below hb (by first | omega | (simp; done) | (simp; omega)) ?_ | with_reducible refine cell_drew ?_))); (case cc92 => (repeat (first | with_reducible refine cell_set_ne (by assumption) ?_ | with_reducible assumption | with_reducible refine cell_below hb (by first | omega | (simp; done) | (simp; omega)) ?_ | with_reducible refine cell_drew ?_))); (case cc93 => (repeat (first | with_reducible refine cell_set_ne (by assumption) ?_ | with_reducible assumption | with_reducible refine cell_below hb (by first | omega | (simp; done) | (simp; omega)) ?_ | with_reducible refine cell_drew ?_))); (case fr9 => (repeat (first | with_reducible refine frozen_set ?_ | with_reducible assumption | with_reducible exact frozen_below hb (by first | omega | (simp; done) | (simp; omega)) (by with_reducible assumption) | with_reducible refine frozen_drew ?_))); (case ks90 => (repeat (first | with_reducible refine val_set ?_ | with_reducible assumption | with_reducible exact val_below hb (by first | omega | (simp; done) | (simp; omega)) (by with_reducible assumption) | with_reducible refine val_drew ?_))); (case ks91 => (repeat (first | with_reducible refine val_set ?_ | with_reducible assumption | with_reducible exact val_below hb (by first | omega | (simp; done) | (simp; omega)) (by with_reducible assumption) | with_reducible refine val_drew ?_))); (case ks92 => (repeat (first | with_reducible refine val_set ?_ | with_reducible assumption | with_reducible exact val_below hb (by first | omega | (simp; done) | (simp; omega)) (by with_reducible assumption) | with_reducible refine val_drew ?_))); (case ks93 => (repeat (first | with_reducible refine val_set ?_ | with_reducible assumption | with_reducible exact val_below hb (by first | omega | (simp; done) | (simp; omega)) (by with_reducible assumption) | with_reducible refine val_drew ?_))); (case ks94 => (repeat (first | with_reducible refine val_set ?_ | with_reducible assumption | with_reducible exact val_below hb (by first | omega | (simp; done) | (simp; omega)) (by with_reducible assumption) | with_reducible refine val_drew ?_))); (case ks95 => (repeat (first | with_reducible refine val_set ?_ | with_reducible assumption | with_reducible exact val_below hb (by first | omega | (simp; done) | (simp; omega)) (by with_reducible assumption) | with_reducible refine val_drew ?_))); (case sz9 => (first | (simp only [heap_size_setCell]; with_reducible assumption) | with_reducible assumption | (have := hb.size; omega) | omega | (simp; done) | (simp; omega) | (have := hb.size; simp at this ⊢; omega))); (case bl9 => (repeat (first | with_reducible refine Below.setCell ?_ (by assumption) _ | with_reducible assumption | with_reducible exact hq0 | with_reducible refine Below.drew ?_ | with_reducible refine Below.trans ?_ (hb.mono (by first | omega | (simp; done) | (simp; omega))))))))
    (first
      | (go_at_call 152; (try go_split_ands); (with_reducible refine (HL.out _ (by with_reducible assumption)).mono ?_); rintro e w1 ⟨rfl, hb⟩; have hsz : W0.heap.size ≤ w1.heap.size := (by have := hb.size; first | omega | (simp at this; omega)))
      | (go_at_call 153; (try go_split_ands); (with_reducible refine (HLL.out _ (by with_reducible assumption)).mono ?_); rintro e w1 ⟨rfl, hb⟩; have hsz : W0.heap.size ≤ w1.heap.size := (by have := hb.size; first | omega | (simp at this; omega)))
      | (go_at_call 153; (try go_split_ands); (with_reducible refine (HLR.out _ (by with_reducible assumption)).mono ?_); rintro e w1 ⟨rfl, hb⟩; have hsz : W0.heap.size ≤ w1.heap.size := (by have := hb.size; first | omega | (simp at this; omega))))
  all_goals (
    rename_i hH
    clear hH
    obtain ⟨W, hW⟩ : ∃ W, ((((((w1.setCell ⟨B1, 0, none⟩ (.string x.k)).setCell ⟨B1, 1, none⟩ (.string x.t)).setCell ⟨B1, 2, none⟩ (.int .i64 x.f)).setCell ⟨B1, 3, none⟩ (.int .i64 x.e)).setCell ⟨B1, 4, none⟩ (.int .i64 m)).setCell ⟨B1, 5, none⟩ (.int .i64 (if (if x.e < a then a else x.e) < c then c else if x.e < a then a else x.e))) = W := ⟨_, rfl⟩
    have K0 : W.cell? ⟨B1, 0, none⟩ = some (.string x.k) := by rw [← hW]; exact (set_far (set_far (set_far (set_far (set_far (set_near (by first | assumption | exact val_below hb (by omega) (by assumption))) (.inr (by decide))) (.inr (by decide))) (.inr (by decide))) (.inr (by decide))) (.inr (by decide)))
    have K1 : W.cell? ⟨B1, 1, none⟩ = some (.string x.t) := by rw [← hW]; exact (set_far (set_far (set_far (set_far (set_near (set_far (by first | assumption | exact val_below hb (by omega) (by assumption)) (.inr (by decide)))) (.inr (by decide))) (.inr (by decide))) (.inr (by decide))) (.inr (by decide)))
    have K2 : W.cell? ⟨B1, 2, none⟩ = some (.int .i64 x.f) := by rw [← hW]; exact (set_far (set_far (set_far (set_near (set_far (set_far (by first | assumption | exact val_below hb (by omega) (by assumption)) (.inr (by decide))) (.inr (by decide)))) (.inr (by decide))) (.inr (by decide))) (.inr (by decide)))
    have K3 : W.cell? ⟨B1, 3, none⟩ = some (.int .i64 x.e) := by rw [← hW]; exact (set_far (set_far (set_near (set_far (set_far (set_far (by first | assumption | exact val_below hb (by omega) (by assumption)) (.inr (by decide))) (.inr (by decide))) (.inr (by decide)))) (.inr (by decide))) (.inr (by decide)))
    have K4 : W.cell? ⟨B1, 4, none⟩ = some (.int .i64 m) := by rw [← hW]; exact (set_far (set_near (set_far (set_far (set_far (set_far (by first | assumption | exact val_below hb (by omega) (by assumption)) (.inr (by decide))) (.inr (by decide))) (.inr (by decide))) (.inr (by decide)))) (.inr (by decide)))
    have K5 : W.cell? ⟨B1, 5, none⟩ = some (.int .i64 (if (if x.e < a then a else x.e) < c then c else if x.e < a then a else x.e)) := by rw [← hW]; exact (set_near (set_far (set_far (set_far (set_far (set_far (by first | assumption | exact val_below hb (by omega) (by assumption)) (.inr (by decide))) (.inr (by decide))) (.inr (by decide))) (.inr (by decide))) (.inr (by decide))))
    have HZ := Lib.hid (show Below w.heap.size w W from by rw [← hW]; repeat (first | with_reducible refine Below.setCell ?_ hwz _ | with_reducible assumption | with_reducible refine Below.trans ?_ (hb.mono (by omega))))
    rw [hW]
    clear hW hsz hb
    rw [HM.out] at K5 ⊢
    go_wp2
    exact bodyPost_ret (v := .agg #[.string x.k, .string x.t, .int .i64 x.f, .int .i64 x.e, .int .i64 m, .int .i64 mx]) (by simp [results, Try.results131, go_sem, K0, K1, K2, K3, K4, K5]) rfl ⟨rfl, HZ.out⟩)
end Go.Proofs.Ytphinkcfmdnpfaa
namespace Go.Proofs.Ytphinkcfmdnpfaa
open Go.RowKit Go.Lib

/-- What makes a node over two trees. -/
def OverC (g : Nat) : Prop := ∀ (x : RowV) (l r : Tr) (pl pr : Option Addr) (w : World), TreeAt w l pl → TreeAt w r pr → l.many ≤ 1000 →
    Calls Try.prog g #[.agg #[.string x.k, .string x.t, .int .i64 x.f, .int .i64 x.e], .pointer pl, .pointer pr] w fun e w' => e = .returned (.agg #[.string x.k, .string x.t, .int .i64 x.f, .int .i64 x.e, .int .i64 l.many, .int .i64 (max (max x.e l.last) r.last)]) ∧ Below w.heap.size w w'
theorem rows_part {w : World} {b off lo n : Nat} {zs : List RowV} (h : RowsA w (some ⟨b, off, none⟩) zs) (hn : lo + n ≤ zs.length) : RowsA w (some ⟨b, off + lo * 4, none⟩) ((zs.drop lo).take n) := fun h0 => by
  have hz : 0 < zs.length := by rw [List.length_take, List.length_drop] at h0; omega
  obtain ⟨b', off', e, hlt, hc⟩ := h hz
  injection e with e
  injection e with e1 e2 e3
  subst e1 e2
  refine ⟨b, off + lo * 4, rfl, hlt, fun i x hx j v hv => ?_⟩
  have hx' : zs[lo + i]? = some x := by
    have hi : i < ((zs.drop lo).take n).length := (List.getElem?_eq_some_iff.1 hx).1
    rw [List.length_take, List.length_drop] at hi
    rw [List.getElem?_take_of_lt (by omega), List.getElem?_drop] at hx
    exact hx
  have := hc (lo + i) x hx' j v hv
  rwa [Nat.add_mul, ← Nat.add_assoc] at this

set_option maxRecDepth 100000 in
set_option maxHeartbeats 4000000 in
theorem grown_any (g : Nat) (eg : ∀ args w, (callFunc g args).run Try.prog w = .ok (.enter g args) w) (hC : OverC g) (n : Nat) : ∀ (A : Option Addr) (cap : Nat) (zs : List RowV) (w : World), RowsA w A zs → zs.length ≤ n → zs.length ≤ cap → n ≤ 1000 →
    Calls Try.prog 130 #[.slice A zs.length cap, .func (.func g) #[] #[]] w fun e w' => ∃ p, e = .returned (.pointer p) ∧ TreeAt w' (growT n zs) p ∧ Below w.heap.size w w' := by
  induction n with
  | zero =>
    intro A cap zs w hz hl hcap hn
    have e : zs = [] := List.length_eq_zero_iff.1 (by omega)
    subst e
    clear hz hl
    go_enter Try.func130, Try.ntmps130
    go_wp2
    go_ret
    exact ⟨none, rfl, rfl, Below.refl _ _⟩
  | succ n ih =>
    intro A cap zs w hz hl hcap hn
    by_cases h0 : zs.length = 0
    · have e : zs = [] := List.length_eq_zero_iff.1 h0
      subst e
      clear hz hl h0 ih
      go_enter Try.func130, Try.ntmps130
      go_wp2
      go_ret
      exact ⟨none, rfl, by rw [growT_nil]; rfl, Below.refl _ _⟩
    · obtain ⟨h, hh⟩ : ∃ h, zs.length / 2 = h := ⟨_, rfl⟩
      have hlt : h < zs.length := by omega
      obtain ⟨b, off, x, rfl, hbb, hx, c0, c1, c2, c3⟩ := RowsA.at_ hz hlt
      have HZ := Lib.hid hz
      have HG := Lib.hid (growT_some (n := n) (zs := zs) (x := x) (by rw [hh]; exact hx))
      rw [hh] at HG
      have HI1 := Lib.hid (fun w' (hb : Below w.heap.size w w') => ih (some ⟨b, off, none⟩) cap (zs.take h) w' (by have := rows_part (lo := 0) (n := h) hz (by omega); simpa using this.below hb) (by rw [List.length_take]; omega) (by rw [List.length_take]; omega) (by omega))
      have HI2 := Lib.hid (fun w' (hb : Below w.heap.size w w') => ih (if cap = h + 1 then some ⟨b, off, none⟩ else some ⟨b, off + (h + 1) * 4, none⟩) (cap - (h + 1)) (zs.drop (h + 1)) w' (by
        by_cases hce : cap = h + 1
        · rw [List.drop_eq_nil_of_le (by omega)]; exact ElAt.nil _ _
        · rw [if_neg hce]
          have := rows_part (lo := h + 1) (n := zs.length - (h + 1)) hz (by omega)
          rw [List.take_of_length_le (by rw [List.length_drop]; omega)] at this
          exact this.below hb) (by rw [List.length_drop]; omega) (by rw [List.length_drop]; omega) (by omega))
      rw [List.length_take, Nat.min_eq_left (by omega)] at HI1
      rw [List.length_drop] at HI2
      have hmL := growT_many n (zs.take h) (by rw [List.length_take]; omega)
      rw [List.length_take] at hmL
      have hq : Int.tdiv (zs.length : Int) 2 = (h : Int) := by rw [Int.tdiv_eq_ediv_of_nonneg (by omega)]; omega
      obtain ⟨h1, hh1⟩ : ∃ h1, h + 1 = h1 := ⟨_, rfl⟩
      rw [hh1] at HI2 HG
      have hw1 : IntKind.i64.wrap ((h : Int) + 1) = (h1 : Int) := (IntWalk.i64_in _ (by omega)).trans (by omega)
      obtain ⟨len, hlen⟩ : ∃ len, zs.length = len := ⟨_, rfl⟩
      rw [hlen] at hl hcap h0 hlt hq HI2 ⊢
      generalize growT n (zs.take h) = L at HI1 HG hmL
      generalize growT n (zs.drop h1) = R at HI2 HG
      have HC := Lib.hid (fun pl pr w' h1 h2 => hC x L R pl pr w' h1 h2 (by omega))
      obtain ⟨mi, hmi⟩ : ∃ mi : Int, (L.many : Int) = mi := ⟨_, rfl⟩
      obtain ⟨mo, hmo⟩ : ∃ mo : Int, max (max x.e L.last) R.last = mo := ⟨_, rfl⟩
      rw [show overN x L R = ⟨x, mi, mo⟩ from by unfold overN; rw [hmi, hmo]] at HG
      rw [hmi, hmo] at HC
      clear hmi hmo
      have z0 : ((len : Int) == 0) = false := by rw [beq_eq_false_iff_ne]; omega
      have a1 : (0 : Int) ≤ (h : Int) := by omega
      have a2 : (h : Int) ≤ (cap : Int) := by omega
      have a3 : (0 : Int) ≤ (h1 : Int) := by omega
      have a4 : (h1 : Int) ≤ (len : Int) := by omega
      have a5 : (len : Int) ≤ (cap : Int) := by omega
      have a6 : (h : Int) < (len : Int) := by omega
      have hq0 : Below w.heap.size w w := Below.refl _ _
      clear ih hz hC hx hh hh1 hlen h0
      go_enter Try.func130, Try.ntmps130
      go_wp2_with fail
      go_region_held3 (fun w' => w.heap.size ≤ w'.heap.size ∧ Below w.heap.size w w')
        (((try go_split_ands); refine ⟨?sz9, ?bl9⟩; (case sz9 => (first | with_reducible assumption | (have := hb.size; omega) | omega | (simp; done) | (simp; omega))); (case bl9 => (repeat (first | with_reducible assumption | with_reducible exact hq0 | with_reducible refine Below.drew ?_ | with_reducible refine Below.trans ?_ (hb.mono (by first | omega | (simp; done) | (simp; omega))))))))
        (first
          | (go_at_call 130; (try go_split_ands); (with_reducible refine (HI1.out _ (by with_reducible assumption)).mono ?_); rintro e wA ⟨pA, rfl, htA, hb⟩; have TA := Lib.hid htA; have HBA := Lib.hid hb; clear htA; dsimp only)
          | (go_at_call 130; (try go_split_ands); (with_reducible refine (HI2.out _ (by with_reducible assumption)).mono ?_); rintro e wB ⟨pB, rfl, htB, hb⟩; have TB := Lib.hid htB; have HBB := Lib.hid hb; clear htB; dsimp only))
      all_goals (
        rename_i hH
        obtain ⟨-, hBz⟩ := hH
        have BZ := Lib.hid hBz
        have TA2 := Lib.hid (TA.out.below HBB.out)
        replace c0 := cellBelow hBz hbb c0
        replace c1 := cellBelow hBz hbb c1
        replace c2 := cellBelow hBz hbb c2
        replace c3 := cellBelow hBz hbb c3
        clear hBz hb TA HBA HBB HI1 HI2
        clear z0 hq0 hw1 hq a2 a3 a4 a5 hmL hcap hl hlt hn HZ
        generalize (if cap = h1 then some (⟨b, off, none⟩ : Addr) else some ⟨b, off + h1 * 4, none⟩) = A2
        go_wp2_with fail
        refine (HC.out pA pB _ TA2.out TB.out).mono ?_
        rintro e w5 ⟨rfl, hb5⟩
        have T5 := Lib.hid (TA2.out.below hb5)
        have U5 := Lib.hid (TB.out.below hb5)
        have B5 := Lib.hid (BZ.out.trans (hb5.mono BZ.out.size))
        clear hb5 c0 c1 c2 c3
        go_wp2
        go_ret
        refine ⟨some ⟨w5.heap.size, 0, none⟩, rfl, ?_, B5.out.alloc B5.out.size _⟩
        rw [HG.out]
        have hal := (Below.refl w5.heap.size w5).alloc (Nat.le_refl _) (.cells #[.string x.k, .string x.t, .int .i64 x.f, .int .i64 x.e, .int .i64 mi, .int .i64 mo, .pointer pA, .pointer pB] 162)
        exact TreeAt.mk (by simp [go_sem]) (by simp [go_sem]) (by simp [go_sem]) (by simp [go_sem]) (by simp [go_sem]) (by simp [go_sem]) (by simp [go_sem]) (by simp [go_sem]) (T5.out.below hal) (U5.out.below hal))
end Go.Proofs.Ytphinkcfmdnpfaa
