/-
  Walks: steps in order that touch become one.
-/
import Derived.Test.YtphinkcfmdnpfaaCmpS
import Derived.Test.YtphinkcfmdnpfaaWalkS
import Derived.Test.YtphinkcfmdnpfaaConcR
import Derived.Test.YtphinkcfmdnpfaaElK
import Derived.OwnWalk
import Derived.Laws.EntriesVeiled
import Derived.Test.YtphinkcfmdnpfaaRelOf
namespace Go.Proofs.Ytphinkcfmdnpfaa
open Go.Shelf Go.RowKit Go.Lib Go.Sort

/-- The list in order lies in memory: how it compares, and its rows. -/
def BoxT (w : World) (ob : Nat) (v : Value) : Prop := w.heap[ob]? = some (.cells #[.func (.func 57) #[] #[], v] 86)
theorem BoxT.cell0 {w : World} {ob : Nat} {v : Value} (h : BoxT w ob v) : w.cell? ⟨ob, 0, none⟩ = some (.func (.func 57) #[] #[]) := by
  simp [World.cell?, show w.heap[ob]? = _ from h]
theorem BoxT.cell1 {w : World} {ob : Nat} {v : Value} (h : BoxT w ob v) : w.cell? ⟨ob, 1, none⟩ = some v := by
  simp [World.cell?, show w.heap[ob]? = _ from h]
theorem BoxT.lt {w : World} {ob : Nat} {v : Value} (h : BoxT w ob v) : ob < w.heap.size := (Array.getElem?_eq_some_iff.1 h).1
theorem BoxT.ne {w : World} {ob g base n c : Nat} {v : Value} {xs : List Value} (h : BoxT w ob v) (ho : w.ownsRow base 31 3 (.slice (some ⟨g, 0, none⟩) n c) n xs) : ob ≠ g := fun e => by
  rcases ho.2 with ⟨e0, _⟩ | ⟨g', cap', cur, e0, hb, hg, _⟩
  · cases e0
  · injection e0 with e1 _ e3
    injection e1 with e1
    injection e1 with e1
    subst e1 e
    have := (show w.heap[ob]? = _ from h).symm.trans hg
    simp at this
theorem BoxT.apart {w : World} {ob base n : Nat} {v v0 : Value} {xs : List Value} (h : BoxT w ob v0) (ho : w.ownsRow base 31 3 v n xs) : some ob ≠ v.ownBlock := fun e => by
  rcases ho.2 with ⟨e0, _⟩ | ⟨g', cap', cur, e0, hb, hg, _⟩
  · subst e0; simp [Value.ownBlock] at e
  · subst e0
    simp [Value.ownBlock] at e
    subst e
    have := (show w.heap[ob]? = _ from h).symm.trans hg
    simp at this
theorem BoxT.frozen {w : World} {ob : Nat} {v : Value} (h : BoxT w ob v) (o : Nat) : w.frozen? ⟨ob, o, none⟩ = false := by
  simp [World.frozen?, show w.heap[ob]? = _ from h]
theorem BoxT.stored {w : World} {ob : Nat} {v : Value} (h : BoxT w ob v) (u : Value) : BoxT (w.setCell ⟨ob, 1, none⟩ u) ob u := by
  unfold BoxT
  rw [heap_setCell_same w ob 1 _ _ u h]
  rfl
theorem BoxT.keep {w w' : World} {ob : Nat} {v : Value} (h : BoxT w ob v) (he : w'.heap[ob]? = w.heap[ob]?) : BoxT w' ob v := he.trans h
/-- A row that lies in another block. -/
theorem owns_setBoxT {w : World} {ob base n : Nat} {v v0 u : Value} {xs : List Value} (h : BoxT w ob v0) (ho : w.ownsRow base 31 3 v n xs) : (w.setCell ⟨ob, 1, none⟩ u).ownsRow base 31 3 v n xs := by
  have ha := h.apart ho
  rcases ho.2 with ⟨e0, h0⟩ | ⟨g, cap, cur, e0, hb, hg, r⟩
  · exact ⟨ho.1, .inl ⟨e0, h0⟩⟩
  · subst e0
    have hne : g ≠ ob := fun e => ha (by simp [Value.ownBlock, e])
    exact ⟨ho.1, .inr ⟨g, cap, cur, rfl, hb, (heap_setCell_other w ⟨ob, 1, none⟩ g u (by simpa using hne)).trans hg, r⟩⟩

set_option maxRecDepth 100000 in
set_option maxHeartbeats 4000000 in
theorem putT_any (base ob : Nat) (v u : Value) (zs ms : List StepV) (w : World) (hbx : BoxT w ob v) (hob : base ≤ ob) (hown : w.ownsRow base 31 3 v zs.length (flatOf stepC zs)) (hu : SrcE stepC w u ms) (hlen : zs.length + ms.length ≤ 4194304) :
    Calls Try.prog 59 #[.pointer (some ⟨ob, 0, none⟩), u] w fun e w' => e = .returned (.tuple #[]) ∧ ∃ v' l, BoxT w' ob v' ∧ w'.ownsRow base 31 3 v' l.length (flatOf stepC l) ∧ (l.Pairwise fun x y => lessS y x = false) ∧ l.Perm (zs ++ ms) ∧ Below base w w' := by
  obtain ⟨i0, hi, hz0, hz1, hz2⟩ := info_parts Try.infoSt31
  have Hi := Lib.hid hi
  have Hz0 := Lib.hid hz0
  have Hz1 := Lib.hid hz1
  have Hz2 := Lib.hid hz2
  have c0 := hbx.cell0
  have c1 := hbx.cell1
  have HB := Lib.hid hbx
  have HO := Lib.hid hown
  have HU := Lib.hid hu
  have hoblt := hbx.lt
  clear hi hz0 hz1 hz2 hbx hown hu
  go_enter Try.func59, Try.ntmps59
  go_wp2_with (at_builtin; refine wpList_append_srcE stepC_len stepC_one (by omega) _ rfl _ _ 25 rfl base 31 i0 _ 24 Try.underlying25 Hi.out Hz0.out Hz1.out Hz2.out rfl v zs.length zs rfl HO.out u ms rfl HU.out (by unfold maxLen; omega) (by omega) (by omega) ?_; intro v1 w1 ho1 hg1; obtain ⟨A1, k1, rfl⟩ := owns_formN ho1; have HB1 := Lib.hid (HB.out.keep (hg1.block ob hoblt (HB.out.apart HO.out))); have HO1 := Lib.hid ho1; have HG1 := Lib.hid hg1; have c0' := HB1.out.cell0; have c1' := HB1.out.cell1; have fr := HB1.out.frozen; clear ho1 hg1 c0 c1)
  have HB2 := Lib.hid (HB1.out.stored (.slice A1 (zs.length + ms.length) k1))
  have HO2 := Lib.hid (owns_setBoxT (u := .slice A1 (zs.length + ms.length) k1) HB1.out HO1.out)
  have BL2 := Lib.hid (show Below base w (w1.setCell ⟨ob, 1, none⟩ (.slice A1 (zs.length + ms.length) k1)) from ((Below.refl base w).grown HG1.out (by omega) (fun i e => (HO.out.lt i e).1)).setCell (by simpa using hob) _)
  generalize w1.setCell ⟨ob, 1, none⟩ (.slice A1 (zs.length + ms.length) k1) = w2 at HB2 HO2 BL2 ⊢
  have d0 := HB2.out.cell0
  have d1 := HB2.out.cell1
  refine wp_region_still_tail 8 (by kernel_rfl) (by kernel_rfl) ?_
  simp only [List.take_succ_cons, List.take_zero, List.drop_succ_cons, List.drop_zero]
  repeat still_step
  refine wpStill_nil ?_
  change wpList _ _ _ _ _ w2.drew
  replace HB2 := Lib.hid (show BoxT w2.drew ob (.slice A1 (zs.length + ms.length) k1) from HB2.out)
  replace HO2 := Lib.hid (World.ownsRow.drew HO2.out)
  replace BL2 := Lib.hid (show Below base w w2.drew from BL2.out.drew)
  clear d0 d1
  generalize w2.drew = w2 at HB2 HO2 BL2 ⊢
  rcases HO2.out.2 with ⟨e0, h0⟩ | ⟨g, kc, cur, e0, hbg, hg, -⟩
  · injection e0 with e1 e2 e3
    subst e1
    subst e3
    rw [h0]
    go_wp2_with (go_at_call 113; refine (SortStable_nil_s _ _).mono ?_; rintro e w3 ⟨rfl, rfl⟩)
    first | go_end0 | go_ret
    have hnil : zs ++ ms = [] := List.length_eq_zero_iff.1 (by rw [List.length_append]; exact h0)
    refine ⟨rfl, .slice none 0 0, [], by have := HB2.out; rwa [h0] at this, World.ownsRow_nil _ _ _ _, List.Pairwise.nil, by rw [hnil], BL2.out⟩
  · injection e0 with e1 e2 e3
    subst e1
    subst e3
    have hgl : g < w2.heap.size := (Array.getElem?_eq_some_iff.1 hg).1
    have hlz : zs.length + ms.length = (zs ++ ms).length := by simp
    have eg : ∀ args w, (callFunc 57 args).run Try.prog w = .ok (.enter 57 args) w := enters_of Try.func57 (by kernel_rfl) rfl
    have hcon := SortStable_row_s 57 #[] eg byStep_lays g 0 k1 (zs ++ ms).toArray w2 ⟨stepC_len, stepC_one, holds_ofK stepC_len (by omega) HO2.out hlz, hgl⟩ (by simp; omega)
    simp only [List.size_toArray, List.length_append] at hcon
    have HC := Lib.hid hcon
    have HLZ := Lib.hid hlz
    clear hcon hlz e2 eg hg
    go_wp2_with (go_at_call 113; refine HC.out.mono ?_; rintro e w3 ⟨rfl, d', hp, hs, hw⟩; have HS := Lib.hid hs; have HP := Lib.hid hp; have HW := Lib.hid hw; clear hp hs hw)
    first | go_end0 | go_ret
    have hsz : d'.size = zs.length + ms.length := by have := HP.out.1; simpa using this
    obtain ⟨q1, q2, q3⟩ := sorted_own (l' := d'.toList) stepC_len (by omega) HO2.out HLZ.out (by simp; omega) (by simpa using HW.out)
    have HQ3 := HB2.out.keep (q3 ob HB2.out.lt (HB2.out.ne HO2.out))
    refine ⟨rfl, .slice (some ⟨g, 0, none⟩) (zs.length + ms.length) k1, d'.toList, HQ3, ?_, ?_, ?_, BL2.out.trans q2⟩
    · have hl : d'.toList.length = zs.length + ms.length := by simpa using hsz
      rw [hl]; exact q1
    · refine List.pairwise_iff_getElem.2 fun i j hi hj hij => ?_
      have hj' : j < d'.size := by simpa using hj
      have hi' : i < d'.size := by simpa using hi
      have := HS.out i j (Nat.zero_le _) hij (by omega)
      rw [getElem!_pos d' i hi', getElem!_pos d' j hj'] at this
      simpa using this
    · have := HP.out.2.2
      have h2 : (List.take (zs.length + ms.length) d'.toList).Perm (zs ++ ms) := by
        have h3 : (List.take (zs.length + ms.length) d'.toList).Perm (List.take (zs.length + ms.length) (zs ++ ms)) := by simpa using this
        rwa [List.take_of_length_le (l := zs ++ ms) (by simp)] at h3
      rwa [List.take_of_length_le (by simp; omega)] at h2
end Go.Proofs.Ytphinkcfmdnpfaa
namespace Go.Proofs.Ytphinkcfmdnpfaa
open Go.Shelf Go.RowKit Go.Lib Go.Sort

def JoinStPost (a b : StepV) (w : World) (e : Ending) (w' : World) : Prop := (∃ r : StepV, (touchSt a b = true → r = joinSt a b) ∧ e = .returned (.tuple #[.agg #[.int .i64 r.m, .int .i64 r.f, .int .i64 r.e], .bool (touchSt a b)])) ∧ Below w.heap.size w w'
set_option maxRecDepth 100000 in
set_option maxHeartbeats 2000000 in
theorem joinedSt_any (a b : StepV) (w : World) : Calls Try.prog 63 #[.agg #[.int .i64 a.m, .int .i64 a.f, .int .i64 a.e], .agg #[.int .i64 b.m, .int .i64 b.f, .int .i64 b.e]] w (JoinStPost a b w) := by
  by_cases h1 : a.m = b.m
  · by_cases h2 : a.e = b.f
    · have HJ := Lib.hid (show touchSt a b = true from by simp [touchSt, h1, h2])
      have n1 : (a.m != b.m) = false := by simpa using h1
      have n2 : (a.e != b.f) = false := by simpa using h2
      clear h1 h2
      go_enter Try.func63, Try.ntmps63
      go_wp2
      refine bodyPost_ret (v := .tuple #[.agg #[.int .i64 a.m, .int .i64 a.f, .int .i64 b.e], .bool true]) (by simp [results, Try.results63, go_sem]) rfl ⟨⟨⟨a.m, a.f, b.e⟩, (fun _ => rfl), by rw [HJ.out]⟩, ?_⟩
      repeat (first | exact Below.refl _ _ | refine Below.setCell ?_ (by simp; try omega) _ | refine Below.alloc ?_ (by simp; try omega) _)
    · have HJ := Lib.hid (show touchSt a b = false from by simp [touchSt, h2])
      have n1 : (a.m != b.m) = false := by simpa using h1
      have n2 : (a.e != b.f) = true := by simpa using h2
      clear h1 h2
      go_enter Try.func63, Try.ntmps63
      go_wp2
      refine bodyPost_ret (v := .tuple #[.agg #[.int .i64 0, .int .i64 0, .int .i64 0], .bool false]) (by simp [results, Try.results63, go_sem]) rfl ⟨⟨step0, (fun h => by rw [HJ.out] at h; cases h), by rw [HJ.out]; rfl⟩, ?_⟩
      repeat (first | exact Below.refl _ _ | refine Below.setCell ?_ (by simp; try omega) _ | refine Below.alloc ?_ (by simp; try omega) _)
  · have HJ := Lib.hid (show touchSt a b = false from by simp [touchSt, h1])
    have n1 : (a.m != b.m) = true := by simpa using h1
    clear h1
    go_enter Try.func63, Try.ntmps63
    go_wp2
    refine bodyPost_ret (v := .tuple #[.agg #[.int .i64 0, .int .i64 0, .int .i64 0], .bool false]) (by simp [results, Try.results63, go_sem]) rfl ⟨⟨step0, (fun h => by rw [HJ.out] at h; cases h), by rw [HJ.out]; rfl⟩, ?_⟩
    repeat (first | exact Below.refl _ _ | refine Below.setCell ?_ (by simp; try omega) _ | refine Below.alloc ?_ (by simp; try omega) _)

theorem newsThree {w : World} {g : Nat} {a b c : Value} (h0 : w.cell? ⟨g, 0, none⟩ = some a) (h1 : w.cell? ⟨g, 1, none⟩ = some b) (h2 : w.cell? ⟨g, 2, none⟩ = some c) : ∀ j u, [a, b, c][j]? = some u → w.cell? ((⟨g, 0, none⟩ : Addr).add j) = some u := by
  intro j u h
  match j, h with
  | 0, h => simp at h; subst h; simpa [Addr.add] using h0
  | 1, h => simp at h; subst h; simpa [Addr.add] using h1
  | 2, h => simp at h; subst h; simpa [Addr.add] using h2
  | j + 3, h => simp at h
theorem last_ownT {w : World} {base n : Nat} {v : Value} {o : List StepV} {y : StepV} (h : w.ownsRow base 31 3 v n (flatOf stepC (o ++ [y]))) (hn : n = o.length + 1) :
    ∃ g c, v = .slice (some ⟨g, 0, none⟩) n c ∧ base ≤ g ∧ g < w.heap.size ∧ w.cell? ⟨g, o.length * 3, none⟩ = some (.int .i64 y.m) ∧ w.cell? ⟨g, o.length * 3 + 1, none⟩ = some (.int .i64 y.f) ∧ w.cell? ⟨g, o.length * 3 + 2, none⟩ = some (.int .i64 y.e) ∧ ∀ j, w.frozen? ⟨g, j, none⟩ = false := by
  rcases h.2 with ⟨e0, h1⟩ | ⟨g, c, cur, e0, hb, hg, _⟩
  · omega
  · subst e0
    have hx : (o ++ [y])[o.length]? = some y := by simp
    have at_ : ∀ j, j < 3 → w.cell? ⟨g, o.length * 3 + j, none⟩ = (stepC y)[j]? := fun j hj => by
      rw [h.cellAt (o.length * 3 + j) (by omega), flatOf_get stepC_len (o ++ [y]) o.length y j hx hj]
    refine ⟨g, c, rfl, hb, (Array.getElem?_eq_some_iff.1 hg).1, at_ 0 (by omega), at_ 1 (by omega), at_ 2 (by omega), fun j => ?_⟩
    simp [World.frozen?, hg]
theorem flat_lastT (o : List StepV) (y z : StepV) : (((flatOf stepC (o ++ [y])).set (o.length * 3) (.int .i64 z.m)).set (o.length * 3 + 1) (.int .i64 z.f)).set (o.length * 3 + 2) (.int .i64 z.e) = flatOf stepC (o ++ [z]) := by
  have hl : (flatOf stepC o).length = o.length * 3 := flatOf_length stepC_len o
  rw [flatOf_append, flatOf_append, flatOf_one, flatOf_one, ← hl]
  rw [List.set_append_right _ _ (by omega), List.set_append_right _ _ (by omega), List.set_append_right _ _ (by omega)]
  simp [stepC]
/-- Behind the test whether two steps touch. -/
def AtJoinT (W : World) (y x : StepV) (s9 s10 : Value) (wx : World) : Prop :=
  ∃ (g' : Nat) (r : StepV), s9 = .pointer (some ⟨g', 0, none⟩) ∧ s10 = .bool (touchSt y x) ∧ (touchSt y x = true → r = joinSt y x) ∧ wx.cell? ⟨g', 0, none⟩ = some (.int .i64 r.m) ∧ wx.cell? ⟨g', 1, none⟩ = some (.int .i64 r.f) ∧ wx.cell? ⟨g', 2, none⟩ = some (.int .i64 r.e) ∧ W.heap.size ≤ g' ∧ Below W.heap.size W wx

set_option maxRecDepth 100000 in
set_option maxHeartbeats 4000000 in
theorem foldedT_any (ob base : Nat) (v : Value) (zs : List StepV) (w : World) (hbx : BoxT w ob v) (hown : w.ownsRow base 31 3 v zs.length (flatOf stepC zs)) (hl : zs.length ≤ 4194304) :
    Calls Try.prog 62 #[.pointer (some ⟨ob, 0, none⟩), .func (.func 63) #[] #[]] w (GetsE stepC 3 31 w (joinSts zs)) := by
  obtain ⟨i0, hi, hz0, hz1, hz2⟩ := info_parts Try.infoSt31
  have Hi := Lib.hid hi
  have Hz0 := Lib.hid hz0
  have Hz1 := Lib.hid hz1
  have Hz2 := Lib.hid hz2
  have c1 := hbx.cell1
  obtain ⟨A, kc, rfl⟩ := owns_sliceE hown
  have HZ := Lib.hid (show StepsA w A zs from el_of_owns stepC_len hown)
  clear hi hz0 hz1 hz2 hbx hown
  go_enter Try.func62, Try.ntmps62
  go_wp2
  go_loopw [5, 16] (fun v i wr => ∃ k : Nat, k ≤ zs.length ∧ i = .int .i64 k ∧ wr.ownsRow w.heap.size 31 3 v (joinSts (zs.take k)).length (flatOf stepC (joinSts (zs.take k))) ∧ Below w.heap.size w wr) (fun _ i _ => zs.length - (intOf i).toNat)
  case atStart => exact ⟨0, Nat.zero_le _, rfl, World.ownsRow_nil _ _ _ _, Below.refl _ _⟩
  case round =>
    obtain ⟨k, hk, rfl, hown, hbr⟩ := hrel
    have Hown := Lib.hid hown
    clear hown
    by_cases hlt : k < zs.length
    · obtain ⟨b, off, x, rfl, hb, hx, q0, q1, q2⟩ := (StepsA.below HZ.out hbr).at_ hlt
      have HT := Lib.hid (joinSts_take hx)
      have hlo := joinSts_len (zs.take k)
      rw [List.length_take, Nat.min_eq_left hk] at hlo
      obtain ⟨oo, hoo⟩ : ∃ oo, joinSts (zs.take k) = oo := ⟨_, rfl⟩
      rw [hoo] at Hown HT hlo
      clear hx hoo
      rcases List.eq_nil_or_concat oo with h0 | ⟨o, y, h0⟩
      · subst h0
        obtain ⟨A5, c5, rfl⟩ := owns_formN Hown.out
        have hs5 := hbr.size
        go_wp2_with (at_builtin; refine wpList_append_own _ rfl _ _ 25 rfl w.heap.size 31 i0 _ 3 24 Try.underlying25 Hi.out Hz0.out Hz1.out Hz2.out rfl (by decide) _ 0 (flatOf stepC []) rfl ((Hown.out.alloc _).alloc _) ⟨wr.heap.size + 1, 0, none⟩ 1 1 [.int .i64 x.m, .int .i64 x.f, .int .i64 x.e] rfl rfl (newsThree (by simp) (by simp) (by simp)) (by simp [Value.oneCell']) (by unfold maxLen; omega) (by omega) (by simp; omega) ?_; intro v' w3 hown' hgrow hnil; have O3 := Lib.hid hown'; have B3 := Lib.hid (((hbr.alloc hs5 _).alloc (by simp; omega) _).grown hgrow (by simp; omega) (fun i e => by have := (Hown.out.lt i e).1; omega)); clear hown' hgrow hnil)
        refine ⟨⟨k + 1, by omega, by simp, ?_, B3.out⟩, ?_⟩
        · rw [HT.out]; exact O3.out
        · simp [intOf]; omega
      · rw [List.concat_eq_append] at h0
        subst h0
        have hlen : (o ++ [y]).length = o.length + 1 := by simp
        rw [hlen] at Hown hlo
        obtain ⟨g, c5, rfl, hgb, hgl, p0, p1, p2, pf⟩ := last_ownT Hown.out rfl
        have hs5 := hbr.size
        clear hlen
        have hob1 : ((o.length : Nat) : Int) < (o.length : Int) + 1 := by omega
        have hob0 : (0 : Int) ≤ (o.length : Int) := by omega
        go_upto_region 7 with fail
        generalize hW : wr.alloc _ = W
        have e0 : W.cell? ⟨wr.heap.size, 0, none⟩ = some (.int .i64 x.m) := by rw [← hW]; simp [go_sem]
        have e1 : W.cell? ⟨wr.heap.size, 1, none⟩ = some (.int .i64 x.f) := by rw [← hW]; simp [go_sem]
        have e2 : W.cell? ⟨wr.heap.size, 2, none⟩ = some (.int .i64 x.e) := by rw [← hW]; simp [go_sem]
        replace p0 : W.cell? ⟨g, o.length * 3, none⟩ = some (.int .i64 y.m) := by rw [← hW]; exact (World.cell?_alloc_lt _ _ _ hgl).trans p0
        replace p1 : W.cell? ⟨g, o.length * 3 + 1, none⟩ = some (.int .i64 y.f) := by rw [← hW]; exact (World.cell?_alloc_lt _ _ _ hgl).trans p1
        replace p2 : W.cell? ⟨g, o.length * 3 + 2, none⟩ = some (.int .i64 y.e) := by rw [← hW]; exact (World.cell?_alloc_lt _ _ _ hgl).trans p2
        have OW := Lib.hid (show W.ownsRow w.heap.size 31 3 (.slice (some ⟨g, 0, none⟩) (o.length + 1) c5) (o.length + 1) (flatOf stepC (o ++ [y])) from by rw [← hW]; exact Hown.out.alloc _)
        have BW := Lib.hid (show Below w.heap.size w W from by rw [← hW]; exact hbr.alloc hs5 _)
        have lib : wr.heap.size < W.heap.size := by rw [← hW]; simp
        have lg : g < W.heap.size := by omega
        obtain ⟨ib, hib⟩ : ∃ ib, wr.heap.size = ib := ⟨_, rfl⟩
        rw [hib] at e0 e1 e2 lib ⊢
        have hq0 : Below W.heap.size W W := Below.refl _ _
        clear hW q0 q1 q2 Hown hbr hb hs5 hgl pf hib
        go_cut [9, 10] (fun s9 s10 wx => AtJoinT W y x s9 s10 wx)
        case first =>
          go_region_held3 (fun w' => w'.cell? ⟨g, o.length * 3, none⟩ = some (.int .i64 y.m) ∧ w'.cell? ⟨g, o.length * 3 + 1, none⟩ = some (.int .i64 y.f) ∧ w'.cell? ⟨g, o.length * 3 + 2, none⟩ = some (.int .i64 y.e) ∧ w'.cell? ⟨ib, 0, none⟩ = some (.int .i64 x.m) ∧ w'.cell? ⟨ib, 1, none⟩ = some (.int .i64 x.f) ∧ w'.cell? ⟨ib, 2, none⟩ = some (.int .i64 x.e) ∧ W.heap.size ≤ w'.heap.size ∧ Below W.heap.size W w')
            (((try go_split_ands); refine ⟨?cc90, ?cc91, ?cc92, ?cc93, ?cc94, ?cc95, ?sz9, ?bl9⟩; (case cc90 => (repeat (first | with_reducible assumption | with_reducible refine cell_below hb (by first | omega | (simp; done) | (simp; omega)) ?_ | with_reducible refine cell_set_far (by first | omega | (simp; done) | (simp; omega)) ?_ | with_reducible exact cell_alloc_swap (by with_reducible assumption) (by first | omega | (simp; done) | (simp; omega)) | with_reducible refine cell_alloc_far ?_ | with_reducible refine cell_drew ?_))); (case cc91 => (repeat (first | with_reducible assumption | with_reducible refine cell_below hb (by first | omega | (simp; done) | (simp; omega)) ?_ | with_reducible refine cell_set_far (by first | omega | (simp; done) | (simp; omega)) ?_ | with_reducible exact cell_alloc_swap (by with_reducible assumption) (by first | omega | (simp; done) | (simp; omega)) | with_reducible refine cell_alloc_far ?_ | with_reducible refine cell_drew ?_))); (case cc92 => (repeat (first | with_reducible assumption | with_reducible refine cell_below hb (by first | omega | (simp; done) | (simp; omega)) ?_ | with_reducible refine cell_set_far (by first | omega | (simp; done) | (simp; omega)) ?_ | with_reducible exact cell_alloc_swap (by with_reducible assumption) (by first | omega | (simp; done) | (simp; omega)) | with_reducible refine cell_alloc_far ?_ | with_reducible refine cell_drew ?_))); (case cc93 => (repeat (first | with_reducible assumption | with_reducible refine cell_below hb (by first | omega | (simp; done) | (simp; omega)) ?_ | with_reducible refine cell_set_far (by first | omega | (simp; done) | (simp; omega)) ?_ | with_reducible exact cell_alloc_swap (by with_reducible assumption) (by first | omega | (simp; done) | (simp; omega)) | with_reducible refine cell_alloc_far ?_ | with_reducible refine cell_drew ?_))); (case cc94 => (repeat (first | with_reducible assumption | with_reducible refine cell_below hb (by first | omega | (simp; done) | (simp; omega)) ?_ | with_reducible refine cell_set_far (by first | omega | (simp; done) | (simp; omega)) ?_ | with_reducible exact cell_alloc_swap (by with_reducible assumption) (by first | omega | (simp; done) | (simp; omega)) | with_reducible refine cell_alloc_far ?_ | with_reducible refine cell_drew ?_))); (case cc95 => (repeat (first | with_reducible assumption | with_reducible refine cell_below hb (by first | omega | (simp; done) | (simp; omega)) ?_ | with_reducible refine cell_set_far (by first | omega | (simp; done) | (simp; omega)) ?_ | with_reducible exact cell_alloc_swap (by with_reducible assumption) (by first | omega | (simp; done) | (simp; omega)) | with_reducible refine cell_alloc_far ?_ | with_reducible refine cell_drew ?_))); (case sz9 => (first | with_reducible assumption | (have := hb.size; omega) | omega | (simp; done) | (simp; omega) | (have := hb.size; simp at this ⊢; omega))); (case bl9 => (repeat (first | with_reducible assumption | with_reducible exact hq0 | with_reducible refine Below.drew ?_ | with_reducible refine Below.trans ?_ (hb.mono (by first | omega | (simp; done) | (simp; omega))) | with_reducible refine Below.setCell ?_ (by first | omega | (simp; done) | (simp; omega)) _ | with_reducible exact below_alloc_swap (by with_reducible assumption) (by first | omega | (simp; done) | (simp; omega)) | with_reducible refine Below.alloc ?_ (by first | omega | (simp; done) | (simp; omega)) _)))))
            ((go_at_call 63; refine (joinedSt_any y x _).mono ?_; rintro e w1 ⟨⟨r, hr, rfl⟩, hb⟩; have hsz : W.heap.size ≤ w1.heap.size := (by have := hb.size; first | omega | (simp at this; omega)); obtain ⟨hc, hf, hl⟩ := bcell3 hb; (try (have hz2 : W.heap.size < w1.heap.size := (by have := hb.size; first | omega | (simp at this; omega))))))
          all_goals (go_wp2_with fail; go_meet; unfold AtJoinT; rename_i hH; obtain ⟨z0, z1, z2, z3, z4, z5, z6, z7⟩ := hH; refine ⟨_, r, rfl, rfl, hr, ?_, ?_, ?_, ?_, z7⟩)
          any_goals (first | omega | (simp; omega) | (go_simp; done) | (simp (maxDischargeDepth := 6) [*, go_sem]; done))
          all_goals go_show
        case rest =>
          obtain ⟨g', r, rfl, rfl, hr, k0, k1, k2, hg', hbW⟩ := hcut
          have hwc := hbW.size
          have OC := Lib.hid (ownsKeep OW.out hbW)
          have BC := Lib.hid (BW.out.trans (hbW.mono BW.out.size))
          replace p0 := cellBelow hbW lg p0
          replace p1 := cellBelow hbW lg p1
          replace p2 := cellBelow hbW lg p2
          replace e0 := cellBelow hbW lib e0
          replace e1 := cellBelow hbW lib e1
          replace e2 := cellBelow hbW lib e2
          have HR := Lib.hid hr
          have hsw := BW.out.size
          clear hbW OW BW hq0 hr
          cases hj : touchSt y x
          · have HJ := Lib.hid hj
            have HT2 := Lib.hid (show joinSts (zs.take (k + 1)) = o ++ [y] ++ [x] from by rw [HT.out, stepSt_at, HJ.out]; rfl)
            clear hj
            go_wp2_with (at_builtin; refine wpList_append_own _ rfl _ _ 25 rfl w.heap.size 31 i0 _ 3 24 Try.underlying25 Hi.out Hz0.out Hz1.out Hz2.out rfl (by decide) _ (o.length + 1) (flatOf stepC (o ++ [y])) rfl (OC.out.alloc _) ⟨wc.heap.size, 0, none⟩ 1 1 [.int .i64 x.m, .int .i64 x.f, .int .i64 x.e] rfl rfl (newsThree (by simp) (by simp) (by simp)) (by simp [Value.oneCell']) (by unfold maxLen; omega) (by omega) (by simp; omega) ?_; intro v' w3 hown' hgrow hnil; have O3 := Lib.hid hown'; have B3 := Lib.hid ((BC.out.alloc (by omega) _).grown hgrow (by simp; omega) (fun i e => by have := (OC.out.lt i e).1; omega)); clear hown' hgrow hnil)
            refine ⟨⟨k + 1, by omega, by simp, ?_, B3.out⟩, ?_⟩
            · rw [HT2.out, flatOf_append, flatOf_one]
              have := O3.out
              rw [show (o ++ [y] ++ [x]).length = o.length + 1 + 1 by simp]
              exact this
            · simp [intOf]; omega
          · have HJ := Lib.hid hj
            have HT2 := Lib.hid (show joinSts (zs.take (k + 1)) = o ++ [joinSt y x] from by rw [HT.out, stepSt_at, HJ.out]; rfl)
            have hr := HR.out hj
            subst hr
            have pf : ∀ j, wc.frozen? ⟨g, j, none⟩ = false := fun j => by simpa using OC.out.frozenAt j
            clear hj
            go_wp2
            go_roundw
            case measure => simp [intOf]; omega
            case rel =>
              refine ⟨k + 1, by omega, by go_num, ?_, ?_⟩
              · rw [HT2.out]
                have s1 := (OC.out.stored (o.length * 3) (.int .i64 y.m)).1
                have s2 := (s1.stored (o.length * 3 + 1) (.int .i64 y.f)).1
                have s4 := (s2.stored (o.length * 3 + 2) (.int .i64 x.e)).1
                rw [show (o ++ [joinSt y x]).length = o.length + 1 by simp, ← flat_lastT o y (joinSt y x)]
                exact s4
              · repeat (first | exact BC.out | refine Below.setCell ?_ (by first | omega | (simp; done) | (simp; omega)) _)
    · obtain rfl : k = zs.length := by omega
      rw [List.take_length] at Hown
      obtain ⟨A', c', hv⟩ := owns_sliceE Hown.out
      subst hv
      go_wp2
      go_ret
      exact ⟨A', c', rfl, Hown.out, hbr⟩
end Go.Proofs.Ytphinkcfmdnpfaa
