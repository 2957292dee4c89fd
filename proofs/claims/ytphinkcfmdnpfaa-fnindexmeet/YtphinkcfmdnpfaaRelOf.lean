/-
  Walks: the table of rows in any order.
-/
import Derived.Test.YtphinkcfmdnpfaaElK
import Derived.Test.YtphinkcfmdnpfaaRelQ
import Derived.Laws.AppendOwnNone
import Derived.OwnWalk
import Derived.Test.YtphinkcfmdnpfaaRelS
import Derived.Laws.EntriesVeiled
namespace Go.Proofs.Ytphinkcfmdnpfaa
open Go.Shelf Go.RowKit Go.Lib Go.Sort

theorem Try.infoR70 : (Try.prog.info? 70).map (fun i => (i.zero, i.size, i.bytes)) = some (some (.agg #[.string ⟨#[]⟩, .string ⟨#[]⟩, .int .i64 0, .int .i64 0]), 4, 48) := by kernel_rfl

/-- A slice whose cells can be read. -/
def Src (w : World) (u : Value) (ms : List RowV) : Prop := (u = .slice none 0 0 ∧ ms = []) ∨ ∃ ad c, u = .slice (some ad) ms.length c ∧ ∀ j x, (flatOf rowC ms)[j]? = some x → w.cell? (ad.add j) = some x
theorem flat_oneR (l : List RowV) : ∀ u ∈ flatOf rowC l, u.oneCell' = true := by
  induction l with
  | nil => intro u hu; cases hu
  | cons x l ih =>
    intro u hu
    rw [flatOf, List.mem_append] at hu
    rcases hu with hu | hu
    · exact rowC_one x u hu
    · exact ih u hu
theorem addr_add (b off j : Nat) : (⟨b, off, none⟩ : Addr).add j = ⟨b, off + j, none⟩ := by
  cases j with
  | zero => simp [Addr.add]
  | succ j => simp [Addr.add]
theorem src_of {w : World} {A : Option Addr} {zs : List RowV} {cap : Nat} (h : RowsA w A zs) (hA : A = none → cap = 0) : Src w (.slice A zs.length cap) zs := by
  cases zs with
  | nil =>
    cases A with
    | none => rw [hA rfl]; exact .inl ⟨rfl, rfl⟩
    | some a => exact .inr ⟨a, cap, rfl, fun j x hx => by simp [flatOf] at hx⟩
  | cons z zs =>
    obtain ⟨b, off, rfl, hb, hc⟩ := h (by simp)
    refine .inr ⟨⟨b, off, none⟩, cap, rfl, fun j x hx => ?_⟩
    have hj : j < (flatOf rowC (z :: zs)).length := (List.getElem?_eq_some_iff.1 hx).1
    rw [flatOf_length rowC_len] at hj
    have hi : j / 4 < (z :: zs).length := by omega
    have hy : (z :: zs)[j / 4]? = some (z :: zs)[j / 4] := List.getElem?_eq_getElem hi
    have h1 := flatOf_get rowC_len (z :: zs) (j / 4) _ (j % 4) hy (by omega)
    rw [show j / 4 * 4 + j % 4 = j by omega, hx] at h1
    have := hc (j / 4) _ hy (j % 4) x h1.symm
    rw [addr_add]
    rwa [show off + j / 4 * 4 + j % 4 = off + j by omega] at this
theorem owns_nilcap {w : World} {base n k cap : Nat} {A : Option Addr} {t : TypeId} {xs : List Value} (h : w.ownsRow base t k (.slice A n cap) n xs) (hA : A = none) : cap = 0 := by
  subst hA
  rcases h.2 with ⟨e0, _⟩ | ⟨g, c, cur, e0, _⟩
  · injection e0
  · cases e0
theorem wpList_append_src {P : Program} (w : World) {ops : Array Oper} {rest : List Oper} {o : Oper} {a : Act} {Q : Exit → Act → World → Prop} (hgd : o.guard = none) (s x : Operand) (t : TypeId)
    (ho : o.op = .call { callee := .builtin .append, args := #[s, x], argTypes := #[t, t] }) (base : Nat) (e : TypeId) (i : TypeInfo) (z : Value) (bytes : Nat)
    (ht : P.underlying t = some (.slice e)) (hi : P.info? e = some i) (hz : i.zero = some z) (hsize : i.size = 4) (hby : i.bytes = bytes) (hzs : z.cells.size = 4)
    (v : Value) (n : Nat) (zs : List RowV) (hs : a.eval s = v) (hown : w.ownsRow base e 4 v n (flatOf rowC zs)) (u : Value) (ms : List RowV) (hx : a.eval x = u) (hu : Src w u ms)
    (h63 : n + ms.length ≤ maxLen) (hbytes : (n + ms.length) * bytes ≤ 140737488355328) (hbase : base ≤ w.heap.size)
    (h : ∀ v' w', w'.ownsRow base e 4 v' (n + ms.length) (flatOf rowC (zs ++ ms)) → w.grownBy w' v.ownBlock → wpList P ops Q rest (a.put o.dst v') w') : wpList P ops Q (o :: rest) a w := by
  rcases hu with ⟨rfl, rfl⟩ | ⟨ad, c, rfl, hc⟩
  · exact wpList_append_own_none hgd s x t ho base e i 4 ht hi v n _ hs hown hx (h v w (by simpa using hown) ⟨rfl, rfl, rfl, Nat.le_refl _, fun _ _ _ => rfl⟩)
  · exact wpList_append_own _ hgd s x t ho base e i z 4 bytes ht hi hz hsize hby hzs (by omega) v n _ hs hown ad ms.length c (flatOf rowC ms) hx (flatOf_length rowC_len ms) hc (flat_oneR ms) h63 hbytes hbase (fun v' w' h1 h2 _ => h v' w' (by rw [flatOf_append]; exact h1) h2)

/-- The list in order lies in memory: how it compares, and its rows. -/
def BoxO (w : World) (ob : Nat) (v : Value) : Prop := w.heap[ob]? = some (.cells #[.func (.func 102) #[] #[], v] 131)
theorem BoxO.cell0 {w : World} {ob : Nat} {v : Value} (h : BoxO w ob v) : w.cell? ⟨ob, 0, none⟩ = some (.func (.func 102) #[] #[]) := by
  simp [World.cell?, show w.heap[ob]? = _ from h]
theorem BoxO.cell1 {w : World} {ob : Nat} {v : Value} (h : BoxO w ob v) : w.cell? ⟨ob, 1, none⟩ = some v := by
  simp [World.cell?, show w.heap[ob]? = _ from h]
theorem BoxO.lt {w : World} {ob : Nat} {v : Value} (h : BoxO w ob v) : ob < w.heap.size := (Array.getElem?_eq_some_iff.1 h).1
theorem BoxO.ne {w : World} {ob g base n c : Nat} {v : Value} {xs : List Value} (h : BoxO w ob v) (ho : w.ownsRow base 70 4 (.slice (some ⟨g, 0, none⟩) n c) n xs) : ob ≠ g := fun e => by
  rcases ho.2 with ⟨e0, _⟩ | ⟨g', cap', cur, e0, hb, hg, _⟩
  · cases e0
  · injection e0 with e1 _ e3
    injection e1 with e1
    injection e1 with e1
    subst e1 e
    have := (show w.heap[ob]? = _ from h).symm.trans hg
    simp at this
theorem BoxO.apart {w : World} {ob base n : Nat} {v v0 : Value} {xs : List Value} (h : BoxO w ob v0) (ho : w.ownsRow base 70 4 v n xs) : some ob ≠ v.ownBlock := fun e => by
  rcases ho.2 with ⟨e0, _⟩ | ⟨g', cap', cur, e0, hb, hg, _⟩
  · subst e0; simp [Value.ownBlock] at e
  · subst e0
    simp [Value.ownBlock] at e
    subst e
    have := (show w.heap[ob]? = _ from h).symm.trans hg
    simp at this
theorem BoxO.frozen {w : World} {ob : Nat} {v : Value} (h : BoxO w ob v) (o : Nat) : w.frozen? ⟨ob, o, none⟩ = false := by
  simp [World.frozen?, show w.heap[ob]? = _ from h]
theorem BoxO.stored {w : World} {ob : Nat} {v : Value} (h : BoxO w ob v) (u : Value) : BoxO (w.setCell ⟨ob, 1, none⟩ u) ob u := by
  unfold BoxO
  rw [heap_setCell_same w ob 1 _ _ u h]
  rfl
theorem BoxO.keep {w w' : World} {ob : Nat} {v : Value} (h : BoxO w ob v) (he : w'.heap[ob]? = w.heap[ob]?) : BoxO w' ob v := he.trans h
/-- A row that lies in another block. -/
theorem owns_setBox {w : World} {ob base n : Nat} {v v0 u : Value} {xs : List Value} (h : BoxO w ob v0) (ho : w.ownsRow base 70 4 v n xs) : (w.setCell ⟨ob, 1, none⟩ u).ownsRow base 70 4 v n xs := by
  have ha := h.apart ho
  rcases ho.2 with ⟨e0, h0⟩ | ⟨g, cap, cur, e0, hb, hg, r⟩
  · exact ⟨ho.1, .inl ⟨e0, h0⟩⟩
  · subst e0
    have hne : g ≠ ob := fun e => ha (by simp [Value.ownBlock, e])
    exact ⟨ho.1, .inr ⟨g, cap, cur, rfl, hb, (heap_setCell_other w ⟨ob, 1, none⟩ g u (by simpa using hne)).trans hg, r⟩⟩

theorem owns_formN {w : World} {base n k : Nat} {t : TypeId} {v : Value} {xs : List Value} (h : w.ownsRow base t k v n xs) : ∃ A cap, v = .slice A n cap := by
  rcases h.2 with ⟨e0, h0⟩ | ⟨g, cap, cur, e0, _⟩
  · exact ⟨none, 0, by rw [e0, h0]⟩
  · exact ⟨_, _, e0⟩

set_option maxRecDepth 100000 in
set_option maxHeartbeats 4000000 in
theorem put_any (base ob : Nat) (v u : Value) (zs ms : List RowV) (w : World) (hbx : BoxO w ob v) (hob : base ≤ ob) (hown : w.ownsRow base 70 4 v zs.length (flatOf rowC zs)) (hu : Src w u ms) (hlen : zs.length + ms.length ≤ 4194304) :
    Calls Try.prog 103 #[.pointer (some ⟨ob, 0, none⟩), u] w fun e w' => e = .returned (.tuple #[]) ∧ ∃ v' l, BoxO w' ob v' ∧ w'.ownsRow base 70 4 v' l.length (flatOf rowC l) ∧ Ordered l ∧ l.Perm (zs ++ ms) ∧ Below base w w' := by
  obtain ⟨i0, hi, hz0, hz1, hz2⟩ := info_parts Try.infoR70
  have Hi := Lib.hid hi
  have Hz0 := Lib.hid hz0
  have Hz1 := Lib.hid hz1
  have Hz2 := Lib.hid hz2
  have c0 := hbx.cell0
  have c1 := hbx.cell1
  have HB := Lib.hid hbx
  have HO := Lib.hid hown
  have HU := Lib.hid hu
  have hoblt := hbx.lt
  clear hi hz0 hz1 hz2 hbx hown hu
  go_enter Try.func103, Try.ntmps103
  go_wp2_with (at_builtin; refine wpList_append_src _ rfl _ _ 23 rfl base 70 i0 _ 48 Try.underlying23 Hi.out Hz0.out Hz1.out Hz2.out rfl v zs.length zs rfl HO.out u ms rfl HU.out (by unfold maxLen; omega) (by omega) (by omega) ?_; intro v1 w1 ho1 hg1; obtain ⟨A1, k1, rfl⟩ := owns_formN ho1; have HB1 := Lib.hid (HB.out.keep (hg1.block ob hoblt (HB.out.apart HO.out))); have HO1 := Lib.hid ho1; have HG1 := Lib.hid hg1; have c0' := HB1.out.cell0; have c1' := HB1.out.cell1; have fr := HB1.out.frozen; clear ho1 hg1 c0 c1)
  have HB2 := Lib.hid (HB1.out.stored (.slice A1 (zs.length + ms.length) k1))
  have HO2 := Lib.hid (owns_setBox (u := .slice A1 (zs.length + ms.length) k1) HB1.out HO1.out)
  have BL2 := Lib.hid (show Below base w (w1.setCell ⟨ob, 1, none⟩ (.slice A1 (zs.length + ms.length) k1)) from ((Below.refl base w).grown HG1.out (by omega) (fun i e => (HO.out.lt i e).1)).setCell (by simpa using hob) _)
  generalize w1.setCell ⟨ob, 1, none⟩ (.slice A1 (zs.length + ms.length) k1) = w2 at HB2 HO2 BL2 ⊢
  have d0 := HB2.out.cell0
  have d1 := HB2.out.cell1
  refine wp_region_still_tail 8 (by kernel_rfl) (by kernel_rfl) ?_
  simp only [List.take_succ_cons, List.take_zero, List.drop_succ_cons, List.drop_zero]
  repeat still_step
  refine wpStill_nil ?_
  change wpList _ _ _ _ _ w2.drew
  replace HB2 := Lib.hid (show BoxO w2.drew ob (.slice A1 (zs.length + ms.length) k1) from HB2.out)
  replace HO2 := Lib.hid (World.ownsRow.drew HO2.out)
  replace BL2 := Lib.hid (show Below base w w2.drew from BL2.out.drew)
  clear d0 d1
  generalize w2.drew = w2 at HB2 HO2 BL2 ⊢
  rcases HO2.out.2 with ⟨e0, h0⟩ | ⟨g, kc, cur, e0, hbg, hg, -⟩
  · injection e0 with e1 e2 e3
    subst e1
    subst e3
    rw [h0]
    go_wp2_with (go_at_call 139; refine (SortStable_nil _ _).mono ?_; rintro e w3 ⟨rfl, rfl⟩)
    first | go_end0 | go_ret
    have hnil : zs ++ ms = [] := List.length_eq_zero_iff.1 (by rw [List.length_append]; exact h0)
    refine ⟨rfl, .slice none 0 0, [], by have := HB2.out; rwa [h0] at this, World.ownsRow_nil _ _ _ _, List.Pairwise.nil, by rw [hnil], BL2.out⟩
  · injection e0 with e1 e2 e3
    subst e1
    subst e3
    have hgl : g < w2.heap.size := (Array.getElem?_eq_some_iff.1 hg).1
    have hlz : zs.length + ms.length = (zs ++ ms).length := by simp
    have eg : ∀ args w, (callFunc 102 args).run Try.prog w = .ok (.enter 102 args) w := enters_of Try.func102 (by kernel_rfl) rfl
    have hcon := SortStable_row 102 #[] eg byKey_lays g 0 k1 (zs ++ ms).toArray w2 ⟨rowC_len, rowC_one, holds_ofK rowC_len (by omega) HO2.out hlz, hgl⟩ (by simp; omega)
    simp only [List.size_toArray, List.length_append] at hcon
    have HC := Lib.hid hcon
    have HLZ := Lib.hid hlz
    clear hcon hlz e2 eg hg
    go_wp2_with (go_at_call 139; refine HC.out.mono ?_; rintro e w3 ⟨rfl, d', hp, hs, hw⟩; have HS := Lib.hid hs; have HP := Lib.hid hp; have HW := Lib.hid hw; clear hp hs hw)
    first | go_end0 | go_ret
    have hsz : d'.size = zs.length + ms.length := by have := HP.out.1; simpa using this
    obtain ⟨q1, q2, q3⟩ := sorted_own (l' := d'.toList) rowC_len (by omega) HO2.out HLZ.out (by simp; omega) (by simpa using HW.out)
    have HQ3 := HB2.out.keep (q3 ob HB2.out.lt (HB2.out.ne HO2.out))
    refine ⟨rfl, .slice (some ⟨g, 0, none⟩) (zs.length + ms.length) k1, d'.toList, HQ3, ?_, ?_, ?_, BL2.out.trans q2⟩
    · have hl : d'.toList.length = zs.length + ms.length := by simpa using hsz
      rw [hl]; exact q1
    · refine List.pairwise_iff_getElem.2 fun i j hi hj hij => ?_
      have hj' : j < d'.size := by simpa using hj
      have hi' : i < d'.size := by simpa using hi
      have := HS.out i j (Nat.zero_le _) hij (by omega)
      rw [getElem!_pos d' i hi', getElem!_pos d' j hj'] at this
      simpa using this
    · have := HP.out.2.2
      have h2 : (List.take (zs.length + ms.length) d'.toList).Perm (zs ++ ms) := by
        have h3 : (List.take (zs.length + ms.length) d'.toList).Perm (List.take (zs.length + ms.length) (zs ++ ms)) := by simpa using this
        rwa [List.take_of_length_le (l := zs ++ ms) (by simp)] at h3
      rwa [List.take_of_length_le (by simp; omega)] at h2
end Go.Proofs.Ytphinkcfmdnpfaa
namespace Go.Proofs.Ytphinkcfmdnpfaa
open Go.Shelf Go.RowKit Go.Lib Go.Sort

theorem rowsA_own {w : World} {base n : Nat} {A : Option Addr} {cap : Nat} {t : TypeId} {zs : List RowV} (h : w.ownsRow base t 4 (.slice A n cap) n (flatOf rowC zs)) (hn : n = zs.length) : RowsA w A zs := by
  subst hn
  intro h0
  rcases h.2 with ⟨e0, h1⟩ | ⟨g, c, cur, e0, hb, hg, _⟩
  · omega
  · injection e0 with e1 _ e3
    subst e1
    subst e3
    refine ⟨g, 0, rfl, (Array.getElem?_eq_some_iff.1 hg).1, fun i x hx j u hu => ?_⟩
    have hj : j < 4 := by have := (List.getElem?_eq_some_iff.1 hu).1; rwa [rowC_len] at this
    have hi : i < zs.length := (List.getElem?_eq_some_iff.1 hx).1
    rw [Nat.zero_add, h.cellAt (i * 4 + j) (by omega), flatOf_get rowC_len zs i x j hx hj]
    exact hu
/-- The last row of a list that a call owns. -/
theorem last_own {w : World} {base n : Nat} {v : Value} {o : List RowV} {y : RowV} (h : w.ownsRow base 70 4 v n (flatOf rowC (o ++ [y]))) (hn : n = o.length + 1) :
    ∃ g c, v = .slice (some ⟨g, 0, none⟩) n c ∧ base ≤ g ∧ g < w.heap.size ∧ w.cell? ⟨g, o.length * 4, none⟩ = some (.string y.k) ∧ w.cell? ⟨g, o.length * 4 + 1, none⟩ = some (.string y.t) ∧ w.cell? ⟨g, o.length * 4 + 2, none⟩ = some (.int .i64 y.f) ∧ w.cell? ⟨g, o.length * 4 + 3, none⟩ = some (.int .i64 y.e) ∧ ∀ j, w.frozen? ⟨g, j, none⟩ = false := by
  rcases h.2 with ⟨e0, h1⟩ | ⟨g, c, cur, e0, hb, hg, _⟩
  · omega
  · subst e0
    have hx : (o ++ [y])[o.length]? = some y := by simp
    have at_ : ∀ j, j < 4 → w.cell? ⟨g, o.length * 4 + j, none⟩ = (rowC y)[j]? := fun j hj => by
      rw [h.cellAt (o.length * 4 + j) (by omega), flatOf_get rowC_len (o ++ [y]) o.length y j hx hj]
    refine ⟨g, c, rfl, hb, (Array.getElem?_eq_some_iff.1 hg).1, at_ 0 (by omega), at_ 1 (by omega), at_ 2 (by omega), at_ 3 (by omega), fun j => ?_⟩
    simp [World.frozen?, hg]
theorem flat_last (o : List RowV) (y z : RowV) : ((((flatOf rowC (o ++ [y])).set (o.length * 4) (.string z.k)).set (o.length * 4 + 1) (.string z.t)).set (o.length * 4 + 2) (.int .i64 z.f)).set (o.length * 4 + 3) (.int .i64 z.e) = flatOf rowC (o ++ [z]) := by
  have hl : (flatOf rowC o).length = o.length * 4 := flatOf_length rowC_len o
  rw [flatOf_append, flatOf_append, flatOf_one, flatOf_one, ← hl]
  rw [List.set_append_right _ _ (by omega), List.set_append_right _ _ (by omega), List.set_append_right _ _ (by omega), List.set_append_right _ _ (by omega)]
  simp [rowC]
theorem newsFour {w : World} {g : Nat} {a b c d : Value} (h0 : w.cell? ⟨g, 0, none⟩ = some a) (h1 : w.cell? ⟨g, 1, none⟩ = some b) (h2 : w.cell? ⟨g, 2, none⟩ = some c) (h3 : w.cell? ⟨g, 3, none⟩ = some d) : ∀ j u, [a, b, c, d][j]? = some u → w.cell? ((⟨g, 0, none⟩ : Addr).add j) = some u := by
  intro j u h
  match j, h with
  | 0, h => simp at h; subst h; simpa [Addr.add] using h0
  | 1, h => simp at h; subst h; simpa [Addr.add] using h1
  | 2, h => simp at h; subst h; simpa [Addr.add] using h2
  | 3, h => simp at h; subst h; simpa [Addr.add] using h3
  | j + 4, h => simp at h
/-- Behind the test whether two rows touch: what was told, and where the one row lies. -/
def AtJoin (W : World) (y x : RowV) (s9 s10 : Value) (wx : World) : Prop :=
  ∃ (g' : Nat) (r : RowV), s9 = .pointer (some ⟨g', 0, none⟩) ∧ s10 = .bool (joinB y x) ∧ (joinB y x = true → r = ⟨y.k, y.t, y.f, x.e⟩) ∧ wx.cell? ⟨g', 0, none⟩ = some (.string r.k) ∧ wx.cell? ⟨g', 1, none⟩ = some (.string r.t) ∧ wx.cell? ⟨g', 2, none⟩ = some (.int .i64 r.f) ∧ wx.cell? ⟨g', 3, none⟩ = some (.int .i64 r.e) ∧ W.heap.size ≤ g' ∧ Below W.heap.size W wx
theorem touch_join (a b : RowV) : touchB a b = joinB a b := rfl

set_option maxRecDepth 100000 in
set_option maxHeartbeats 4000000 in
theorem folded_any (ob base : Nat) (v : Value) (zs : List RowV) (w : World) (hbx : BoxO w ob v) (hown : w.ownsRow base 70 4 v zs.length (flatOf rowC zs)) (hl : zs.length ≤ 4194304) :
    Calls Try.prog 140 #[.pointer (some ⟨ob, 0, none⟩), .func (.func 120) #[] #[]] w (GetsE rowC 4 70 w (joinRows zs)) := by
  obtain ⟨i0, hi, hz0, hz1, hz2⟩ := info_parts Try.infoR70
  have Hi := Lib.hid hi
  have Hz0 := Lib.hid hz0
  have Hz1 := Lib.hid hz1
  have Hz2 := Lib.hid hz2
  have c1 := hbx.cell1
  obtain ⟨A, kc, rfl⟩ := owns_sliceE hown
  have HZ := Lib.hid (rowsA_own hown rfl)
  clear hi hz0 hz1 hz2 hbx hown
  go_enter Try.func140, Try.ntmps140
  go_wp2
  go_loopw [5, 16] (fun v i wr => ∃ k : Nat, k ≤ zs.length ∧ i = .int .i64 k ∧ wr.ownsRow w.heap.size 70 4 v (joinRows (zs.take k)).length (flatOf rowC (joinRows (zs.take k))) ∧ Below w.heap.size w wr) (fun _ i _ => zs.length - (intOf i).toNat)
  case atStart => exact ⟨0, Nat.zero_le _, rfl, World.ownsRow_nil _ _ _ _, Below.refl _ _⟩
  case round =>
    obtain ⟨k, hk, rfl, hown, hbr⟩ := hrel
    have Hown := Lib.hid hown
    clear hown
    by_cases hlt : k < zs.length
    · obtain ⟨b, off, x, rfl, hb, hx, q0, q1, q2, q3⟩ := (HZ.out.below hbr).at_ hlt
      have HT := Lib.hid (join_take hx)
      have hlo := joinRows_len (zs.take k)
      rw [List.length_take, Nat.min_eq_left hk] at hlo
      obtain ⟨oo, hoo⟩ : ∃ oo, joinRows (zs.take k) = oo := ⟨_, rfl⟩
      rw [hoo] at Hown HT hlo
      clear hx hoo
      rcases List.eq_nil_or_concat oo with h0 | ⟨o, y, h0⟩
      · subst h0
        obtain ⟨A5, c5, rfl⟩ := owns_formN Hown.out
        have hs5 := hbr.size
        go_wp2_with (at_builtin; refine wpList_append_own _ rfl _ _ 23 rfl w.heap.size 70 i0 _ 4 48 Try.underlying23 Hi.out Hz0.out Hz1.out Hz2.out rfl (by decide) _ 0 (flatOf rowC []) rfl ((Hown.out.alloc _).alloc _) ⟨wr.heap.size + 1, 0, none⟩ 1 1 [.string x.k, .string x.t, .int .i64 x.f, .int .i64 x.e] rfl rfl (newsFour (by simp) (by simp) (by simp) (by simp)) (by simp [Value.oneCell']) (by unfold maxLen; omega) (by omega) (by simp; omega) ?_; intro v' w3 hown' hgrow hnil; have O3 := Lib.hid hown'; have B3 := Lib.hid (((hbr.alloc hs5 _).alloc (by simp; omega) _).grown hgrow (by simp; omega) (fun i e => by have := (Hown.out.lt i e).1; omega)); clear hown' hgrow hnil)
        refine ⟨⟨k + 1, by omega, by simp, ?_, B3.out⟩, ?_⟩
        · rw [HT.out]; exact O3.out
        · simp [intOf]; omega
      · rw [List.concat_eq_append] at h0
        subst h0
        have hlen : (o ++ [y]).length = o.length + 1 := by simp
        rw [hlen] at Hown hlo
        obtain ⟨g, c5, rfl, hgb, hgl, p0, p1, p2, p3, pf⟩ := last_own Hown.out rfl
        have hs5 := hbr.size
        clear hlen
        have hob1 : ((o.length : Nat) : Int) < (o.length : Int) + 1 := by omega
        have hob0 : (0 : Int) ≤ (o.length : Int) := by omega
        go_upto_region 7 with fail
        generalize hW : wr.alloc _ = W
        have e0 : W.cell? ⟨wr.heap.size, 0, none⟩ = some (.string x.k) := by rw [← hW]; simp [go_sem]
        have e1 : W.cell? ⟨wr.heap.size, 1, none⟩ = some (.string x.t) := by rw [← hW]; simp [go_sem]
        have e2 : W.cell? ⟨wr.heap.size, 2, none⟩ = some (.int .i64 x.f) := by rw [← hW]; simp [go_sem]
        have e3 : W.cell? ⟨wr.heap.size, 3, none⟩ = some (.int .i64 x.e) := by rw [← hW]; simp [go_sem]
        replace p0 : W.cell? ⟨g, o.length * 4, none⟩ = some (.string y.k) := by rw [← hW]; exact (World.cell?_alloc_lt _ _ _ hgl).trans p0
        replace p1 : W.cell? ⟨g, o.length * 4 + 1, none⟩ = some (.string y.t) := by rw [← hW]; exact (World.cell?_alloc_lt _ _ _ hgl).trans p1
        replace p2 : W.cell? ⟨g, o.length * 4 + 2, none⟩ = some (.int .i64 y.f) := by rw [← hW]; exact (World.cell?_alloc_lt _ _ _ hgl).trans p2
        replace p3 : W.cell? ⟨g, o.length * 4 + 3, none⟩ = some (.int .i64 y.e) := by rw [← hW]; exact (World.cell?_alloc_lt _ _ _ hgl).trans p3
        have OW := Lib.hid (show W.ownsRow w.heap.size 70 4 (.slice (some ⟨g, 0, none⟩) (o.length + 1) c5) (o.length + 1) (flatOf rowC (o ++ [y])) from by rw [← hW]; exact Hown.out.alloc _)
        have BW := Lib.hid (show Below w.heap.size w W from by rw [← hW]; exact hbr.alloc hs5 _)
        have lib : wr.heap.size < W.heap.size := by rw [← hW]; simp
        have lg : g < W.heap.size := by omega
        obtain ⟨ib, hib⟩ : ∃ ib, wr.heap.size = ib := ⟨_, rfl⟩
        rw [hib] at e0 e1 e2 e3 lib ⊢
        have hq0 : Below W.heap.size W W := Below.refl _ _
        clear hW q0 q1 q2 q3 Hown hbr hb hs5 hgl pf hib
        go_cut [9, 10] (fun s9 s10 wx => AtJoin W y x s9 s10 wx)
        case first =>
          go_region_held3 (fun w' => w'.cell? ⟨g, o.length * 4, none⟩ = some (.string y.k) ∧ w'.cell? ⟨g, o.length * 4 + 1, none⟩ = some (.string y.t) ∧ w'.cell? ⟨g, o.length * 4 + 2, none⟩ = some (.int .i64 y.f) ∧ w'.cell? ⟨g, o.length * 4 + 3, none⟩ = some (.int .i64 y.e) ∧ w'.cell? ⟨ib, 0, none⟩ = some (.string x.k) ∧ w'.cell? ⟨ib, 1, none⟩ = some (.string x.t) ∧ w'.cell? ⟨ib, 2, none⟩ = some (.int .i64 x.f) ∧ w'.cell? ⟨ib, 3, none⟩ = some (.int .i64 x.e) ∧ W.heap.size ≤ w'.heap.size ∧ Below W.heap.size W w')
            (((try go_split_ands); refine ⟨?c0, ?c1, ?c2, ?c3, ?c4, ?c5, ?c6, ?c7, ?s, ?b⟩; (case c0 => (repeat (first | with_reducible assumption | with_reducible refine cell_below hb (by first | omega | (simp; done) | (simp; omega)) ?_ | with_reducible refine cell_set_far (by first | omega | (simp; done) | (simp; omega)) ?_ | with_reducible exact cell_alloc_swap (by with_reducible assumption) (by first | omega | (simp; done) | (simp; omega)) | with_reducible refine cell_alloc_far ?_ | with_reducible refine cell_drew ?_))); (case c1 => (repeat (first | with_reducible assumption | with_reducible refine cell_below hb (by first | omega | (simp; done) | (simp; omega)) ?_ | with_reducible refine cell_set_far (by first | omega | (simp; done) | (simp; omega)) ?_ | with_reducible exact cell_alloc_swap (by with_reducible assumption) (by first | omega | (simp; done) | (simp; omega)) | with_reducible refine cell_alloc_far ?_ | with_reducible refine cell_drew ?_))); (case c2 => (repeat (first | with_reducible assumption | with_reducible refine cell_below hb (by first | omega | (simp; done) | (simp; omega)) ?_ | with_reducible refine cell_set_far (by first | omega | (simp; done) | (simp; omega)) ?_ | with_reducible exact cell_alloc_swap (by with_reducible assumption) (by first | omega | (simp; done) | (simp; omega)) | with_reducible refine cell_alloc_far ?_ | with_reducible refine cell_drew ?_))); (case c3 => (repeat (first | with_reducible assumption | with_reducible refine cell_below hb (by first | omega | (simp; done) | (simp; omega)) ?_ | with_reducible refine cell_set_far (by first | omega | (simp; done) | (simp; omega)) ?_ | with_reducible exact cell_alloc_swap (by with_reducible assumption) (by first | omega | (simp; done) | (simp; omega)) | with_reducible refine cell_alloc_far ?_ | with_reducible refine cell_drew ?_))); (case c4 => (repeat (first | with_reducible assumption | with_reducible refine cell_below hb (by first | omega | (simp; done) | (simp; omega)) ?_ | with_reducible refine cell_set_far (by first | omega | (simp; done) | (simp; omega)) ?_ | with_reducible exact cell_alloc_swap (by with_reducible assumption) (by first | omega | (simp; done) | (simp; omega)) | with_reducible refine cell_alloc_far ?_ | with_reducible refine cell_drew ?_))); (case c5 => (repeat (first | with_reducible assumption | with_reducible refine cell_below hb (by first | omega | (simp; done) | (simp; omega)) ?_ | with_reducible refine cell_set_far (by first | omega | (simp; done) | (simp; omega)) ?_ | with_reducible exact cell_alloc_swap (by with_reducible assumption) (by first | omega | (simp; done) | (simp; omega)) | with_reducible refine cell_alloc_far ?_ | with_reducible refine cell_drew ?_))); (case c6 => (repeat (first | with_reducible assumption | with_reducible refine cell_below hb (by first | omega | (simp; done) | (simp; omega)) ?_ | with_reducible refine cell_set_far (by first | omega | (simp; done) | (simp; omega)) ?_ | with_reducible exact cell_alloc_swap (by with_reducible assumption) (by first | omega | (simp; done) | (simp; omega)) | with_reducible refine cell_alloc_far ?_ | with_reducible refine cell_drew ?_))); (case c7 => (repeat (first | with_reducible assumption | with_reducible refine cell_below hb (by first | omega | (simp; done) | (simp; omega)) ?_ | with_reducible refine cell_set_far (by first | omega | (simp; done) | (simp; omega)) ?_ | with_reducible exact cell_alloc_swap (by with_reducible assumption) (by first | omega | (simp; done) | (simp; omega)) | with_reducible refine cell_alloc_far ?_ | with_reducible refine cell_drew ?_))); (case s => (first | with_reducible assumption | (have := hb.size; omega) | omega | (simp; done) | (simp; omega) | (have := hb.size; simp at this ⊢; omega))); (case b => (repeat (first | with_reducible assumption | with_reducible exact hq0 | with_reducible refine Below.drew ?_ | with_reducible refine Below.trans ?_ (hb.mono (by first | omega | (simp; done) | (simp; omega))) | with_reducible refine Below.setCell ?_ (by first | omega | (simp; done) | (simp; omega)) _ | with_reducible exact below_alloc_swap (by with_reducible assumption) (by first | omega | (simp; done) | (simp; omega)) | with_reducible refine Below.alloc ?_ (by first | omega | (simp; done) | (simp; omega)) _)))))
            ((go_at_call 120; refine (joined_any y x _).mono ?_; rintro e w1 ⟨⟨r, hr, rfl⟩, hb⟩; have hsz : W.heap.size ≤ w1.heap.size := (by have := hb.size; first | omega | (simp at this; omega)); obtain ⟨hc, hf, hl⟩ := bcell3 hb; (try (have hz2 : W.heap.size < w1.heap.size := (by have := hb.size; first | omega | (simp at this; omega))))))
          all_goals (go_wp2_with fail; go_meet; unfold AtJoin; rename_i hH; obtain ⟨z0, z1, z2, z3, z4, z5, z6, z7, z8, z9⟩ := hH; refine ⟨_, r, rfl, rfl, hr, ?_, ?_, ?_, ?_, ?_, z9⟩)
          any_goals (first | omega | (simp; omega) | (go_simp; done) | (simp (maxDischargeDepth := 6) [*, go_sem]; done))
          all_goals go_show
        case rest =>
          obtain ⟨g', r, rfl, rfl, hr, k0, k1, k2, k3, hg', hbW⟩ := hcut
          have hwc := hbW.size
          have OC := Lib.hid (ownsKeep OW.out hbW)
          have BC := Lib.hid (BW.out.trans (hbW.mono BW.out.size))
          replace p0 := cellBelow hbW lg p0
          replace p1 := cellBelow hbW lg p1
          replace p2 := cellBelow hbW lg p2
          replace p3 := cellBelow hbW lg p3
          replace e0 := cellBelow hbW lib e0
          replace e1 := cellBelow hbW lib e1
          replace e2 := cellBelow hbW lib e2
          replace e3 := cellBelow hbW lib e3
          have HR := Lib.hid hr
          have hsw := BW.out.size
          clear hbW OW BW hq0 hr
          cases hj : joinB y x
          · have HJ := Lib.hid hj
            have HT2 := Lib.hid (show joinRows (zs.take (k + 1)) = o ++ [y] ++ [x] from by rw [HT.out, joinStep_at, touch_join, HJ.out]; rfl)
            clear hj
            go_wp2_with (at_builtin; refine wpList_append_own _ rfl _ _ 23 rfl w.heap.size 70 i0 _ 4 48 Try.underlying23 Hi.out Hz0.out Hz1.out Hz2.out rfl (by decide) _ (o.length + 1) (flatOf rowC (o ++ [y])) rfl (OC.out.alloc _) ⟨wc.heap.size, 0, none⟩ 1 1 [.string x.k, .string x.t, .int .i64 x.f, .int .i64 x.e] rfl rfl (newsFour (by simp) (by simp) (by simp) (by simp)) (by simp [Value.oneCell']) (by unfold maxLen; omega) (by omega) (by simp; omega) ?_; intro v' w3 hown' hgrow hnil; have O3 := Lib.hid hown'; have B3 := Lib.hid ((BC.out.alloc (by omega) _).grown hgrow (by simp; omega) (fun i e => by have := (OC.out.lt i e).1; omega)); clear hown' hgrow hnil)
            refine ⟨⟨k + 1, by omega, by simp, ?_, B3.out⟩, ?_⟩
            · rw [HT2.out, flatOf_append, flatOf_one]
              have := O3.out
              rw [show (o ++ [y] ++ [x]).length = o.length + 1 + 1 by simp]
              exact this
            · simp [intOf]; omega
          · have HJ := Lib.hid hj
            have HT2 := Lib.hid (show joinRows (zs.take (k + 1)) = o ++ [joinR y x] from by rw [HT.out, joinStep_at, touch_join, HJ.out]; rfl)
            have hr := HR.out hj
            subst hr
            have pf : ∀ j, wc.frozen? ⟨g, j, none⟩ = false := fun j => by simpa using OC.out.frozenAt j
            clear hj
            go_wp2
            go_roundw
            case measure => simp [intOf]; omega
            case rel =>
              refine ⟨k + 1, by omega, by go_num, ?_, ?_⟩
              · rw [HT2.out]
                have s1 := (OC.out.stored (o.length * 4) (.string y.k)).1
                have s2 := (s1.stored (o.length * 4 + 1) (.string y.t)).1
                have s3 := (s2.stored (o.length * 4 + 2) (.int .i64 y.f)).1
                have s4 := (s3.stored (o.length * 4 + 3) (.int .i64 x.e)).1
                rw [show (o ++ [joinR y x]).length = o.length + 1 by simp, ← flat_last o y (joinR y x)]
                exact s4
              · repeat (first | exact BC.out | refine Below.setCell ?_ (by first | omega | (simp; done) | (simp; omega)) _)
    · obtain rfl : k = zs.length := by omega
      rw [List.take_length] at Hown
      obtain ⟨A', c', hv⟩ := owns_sliceE Hown.out
      subst hv
      go_wp2
      go_ret
      exact ⟨A', c', rfl, Hown.out, hbr⟩
theorem joinStep_all {p : RowV → Prop} (hj : ∀ y x, p y → p x → p (joinR y x)) {out : List RowV} {x : RowV} (h1 : ∀ y ∈ out, p y) (h2 : p x) : ∀ y ∈ joinStep out x, p y := by
  rcases List.eq_nil_or_concat out with h | ⟨o, z, h⟩
  · subst h; intro y hy; simp [joinStep] at hy; subst hy; exact h2
  · rw [List.concat_eq_append] at h
    subst h
    rw [joinStep_at]
    have hz : p z := h1 z (by simp)
    have ho : ∀ y ∈ o, p y := fun y hy => h1 y (by simp [hy])
    by_cases ht : touchB z x = true
    · rw [if_pos ht]
      intro y hy
      rcases List.mem_append.1 hy with hy | hy
      · exact ho y hy
      · rw [List.mem_singleton.1 hy]; exact hj z x hz h2
    · rw [if_neg ht]
      intro y hy
      rcases List.mem_append.1 hy with hy | hy
      · exact h1 y hy
      · rw [List.mem_singleton.1 hy]; exact h2
theorem joinRows_all {p : RowV → Prop} (hj : ∀ y x, p y → p x → p (joinR y x)) {zs : List RowV} (h : ∀ x ∈ zs, p x) : ∀ x ∈ joinRows zs, p x := by
  have : ∀ (l out : List RowV), (∀ y ∈ out, p y) → (∀ x ∈ l, p x) → ∀ y ∈ l.foldl joinStep out, p y := by
    intro l
    induction l with
    | nil => intro out h1 _ y hy; exact h1 y hy
    | cons x l ih => intro out h1 h2; exact ih _ (joinStep_all hj h1 (h2 x (by simp))) (fun z hz => h2 z (by simp [hz]))
  exact this zs [] (by intro y hy; cases hy) h
theorem owns_baseE {w : World} {base base' n : Nat} {v : Value} {xs : List Value} {e : TypeId} {size : Nat} (h : w.ownsRow base e size v n xs) (hb : base' ≤ base) : w.ownsRow base' e size v n xs :=
  ⟨h.1, h.2.imp id fun ⟨g, c, cur, e1, e2, r⟩ => ⟨g, c, cur, e1, Nat.le_trans hb e2, r⟩⟩
/-- Texts that are not too long for a machine. -/
def Short (zs : List RowV) : Prop := ∀ r ∈ zs, r.k.size ≤ maxLen ∧ r.t.size ≤ maxLen
theorem Short.join {zs : List RowV} (h : Short zs) : Short (joinRows zs) := joinRows_all (p := fun r => r.k.size ≤ maxLen ∧ r.t.size ≤ maxLen) (fun _ _ hy _ => hy) h
theorem Short.perm {zs l : List RowV} (h : Short zs) (hp : l.Perm zs) : Short l := fun r hr => h r (hp.subset hr)
/-- The table of rows in order, and whether it is one. -/
def tableP (s : List RowV) : List RowV × Bool := if relOk (joinRows s) = true then (joinRows s, true) else ([], false)
/-- A slice of rows and a bool. -/
def GetsRB (w : World) (p : List RowV × Bool) (e : Ending) (w' : World) : Prop :=
  ∃ A cap, e = .returned (.tuple #[.slice A p.1.length cap, .bool p.2]) ∧ w'.ownsRow w.heap.size 70 4 (.slice A p.1.length cap) p.1.length (flatOf rowC p.1) ∧ Below w.heap.size w w'

set_option maxRecDepth 100000 in
set_option maxHeartbeats 4000000 in
theorem tableOf_any (base : Nat) (v : Value) (zs : List RowV) (w : World) (hown : w.ownsRow base 70 4 v zs.length (flatOf rowC zs)) (hl : zs.length ≤ 1048577) (hs : Short zs) :
    Calls Try.prog 104 #[.agg #[.func (.func 102) #[] #[], v]] w (GetsRB w (tableP zs)) := by
  have HO := Lib.hid hown
  have HS := Lib.hid hs
  have hjl := joinRows_len zs
  obtain ⟨js, hjs⟩ : ∃ js, joinRows zs = js := ⟨_, rfl⟩
  have HJ := Lib.hid hjs
  rw [hjs] at hjl
  obtain ⟨ok, hok⟩ : ∃ ok, relOk js = ok := ⟨_, rfl⟩
  have HK := Lib.hid hok
  clear hown hs hjs hok
  go_enter Try.func104, Try.ntmps104
  go_wp2_with fail
  refine (folded_any w.heap.size base v zs _ ?_ (HO.out.alloc _) (by omega)).mono ?_
  · show (w.alloc _).heap[w.heap.size]? = _
    exact heap_alloc_new w _
  rintro e w1 ⟨A1, c1, rfl, ho1, hb1⟩
  rw [HJ.out] at ho1 ⊢
  have O1 := Lib.hid ho1
  have B1 := Lib.hid (((Below.refl w.heap.size w).alloc (Nat.le_refl _) (.cells #[.func (.func 102) #[] #[], v] 131)).trans (hb1.mono (by simp)))
  clear ho1 hb1
  go_wp2_with fail
  refine (RelOk_any A1 c1 js w1 (rowsA_own O1.out rfl) (by omega) (by rw [← HJ.out]; exact HS.out.join)).mono ?_
  rintro e w2 ⟨rfl, hb2⟩
  rw [HK.out]
  have O2 := Lib.hid (ownsKeep O1.out hb2)
  have B2 := Lib.hid (B1.out.trans (hb2.mono B1.out.size))
  clear hb2
  cases ok
  · go_wp2
    have HP : tableP zs = ([], false) := by rw [tableP, HJ.out, HK.out]; rfl
    refine bodyPost_ret (v := .tuple #[.slice none 0 0, .bool false]) (by simp [results, Try.results104, go_sem]) rfl ?_
    rw [HP]
    exact ⟨none, 0, rfl, World.ownsRow_nil _ _ _ _, B2.out⟩
  · go_wp2
    have HP : tableP zs = (js, true) := by rw [tableP, HJ.out, HK.out]; rfl
    refine bodyPost_ret (v := .tuple #[.slice A1 js.length c1, .bool true]) (by simp [results, Try.results104, go_sem]) rfl ?_
    rw [HP]
    exact ⟨A1, c1, rfl, owns_baseE O2.out (by simp), B2.out⟩
end Go.Proofs.Ytphinkcfmdnpfaa
namespace Go.Proofs.Ytphinkcfmdnpfaa
open Go.Shelf Go.RowKit Go.Lib Go.Sort

theorem relOf_bad {zs : List RowV} {x : RowV} (hx : x ∈ zs) (h : rowOk x = false) : relOfL zs = [] := by
  unfold relOfL
  cases e : layAll [] zs with
  | none => rfl
  | some m =>
    obtain ⟨_, h2, h3⟩ := layAll_some zs [] m List.Pairwise.nil (by intro x hx; cases hx) e
    rw [List.append_nil] at h3
    rw [h2 x (h3.symm.subset hx)] at h
    cases h
theorem tableP_L (s : List RowV) : (tableP s).1 = tableL s := by
  unfold tableP tableL
  split <;> rfl
theorem relOf_len (zs : List RowV) : (relOfL zs).length ≤ 24 := by
  unfold relOfL
  cases layAll [] zs with
  | none => simp
  | some m =>
    show (if (joinRows m).length ≤ 24 then joinRows m else []).length ≤ 24
    split
    · assumption
    · simp

set_option maxRecDepth 100000 in
set_option maxHeartbeats 4000000 in
theorem RelOf_any (A : Option Addr) (cap : Nat) (zs : List RowV) (w : World) (hz : RowsA w A zs) (hN : A = none → cap = 0) (hl : zs.length ≤ 1048577) (hs : Short zs) :
    Calls Try.prog 51 #[.slice A zs.length cap] w (GetsE rowC 4 70 w (relOfL zs)) := by
  have HZ := Lib.hid hz
  have HS := Lib.hid hs
  have HNn := Lib.hid hN
  clear hz hs hN
  go_enter Try.func51, Try.ntmps51
  go_wp2
  go_loopw [10] (fun i wr => ∃ k : Nat, k ≤ zs.length ∧ i = .int .i64 k ∧ (∀ j x, j < k → zs[j]? = some x → rowOk x = true) ∧ Below w.heap.size w wr) (fun i _ => zs.length - (intOf i).toNat)
  case atStart => exact ⟨0, Nat.zero_le _, rfl, fun j x hj => absurd hj (by omega), Below.refl _ _⟩
  case round =>
    obtain ⟨k, hk, rfl, hall, hbr⟩ := hrel
    have Hall := Lib.hid hall
    clear hall
    by_cases hlt : k < zs.length
    · obtain ⟨b, off, x, rfl, hb, hx, q0, q1, q2, q3⟩ := (HZ.out.below hbr).at_ hlt
      have HX := Lib.hid hx
      have hm := HS.out x (List.mem_of_getElem? hx)
      clear hx
      obtain ⟨ro, hro⟩ : ∃ ro, rowOk x = ro := ⟨_, rfl⟩
      have HRO := Lib.hid hro
      clear hro
      have hs5 := hbr.size
      go_wp2_with fail
      refine (rowOkM_val x _ ro hm.1 hm.2 HRO.out).mono ?_
      rintro e w2 ⟨rfl, hb2⟩
      have B2 := Lib.hid ((hbr.alloc hs5 (Obj.cells #[Value.string x.k, Value.string x.t, Value.int IntKind.i64 x.f, Value.int IntKind.i64 x.e] 70)).trans (hb2.mono (by simp; omega)))
      clear hb2 hbr q0 q1 q2 q3
      cases ro
      · go_wp2
        go_ret
        rw [relOf_bad (List.mem_of_getElem? HX.out) HRO.out]
        exact getsE_nil _ _ _ B2.out
      · go_wp2
        go_roundw
        case rel => exact ⟨k + 1, by omega, by go_num, fun j y hj hy => by
          by_cases e : j = k
          · subst e
            have := hy.symm.trans HX.out
            injection this with this
            rw [this]; exact HRO.out
          · exact Hall.out j y (by omega) hy, B2.out⟩
        case measure => simp [intOf]; omega
    · obtain rfl : k = zs.length := by omega
      have HR := Lib.hid (show ∀ x ∈ zs, rowOk x = true from fun x hx => by
        obtain ⟨j, hj, rfl⟩ := List.mem_iff_getElem.1 hx
        exact Hall.out j _ hj (List.getElem?_eq_getElem hj))
      have hs5 := hbr.size
      go_wp2_with fail
      generalize hW : wr.alloc _ = W
      have hbx : BoxO W wr.heap.size (.slice none 0 0) := by rw [← hW]; exact heap_alloc_new wr _
      have BW := Lib.hid (show Below w.heap.size w W from by
        rw [← hW]
        repeat (first | exact hbr | refine Below.setCell ?_ (by first | omega | (simp; done) | (simp; omega)) _ | refine Below.alloc ?_ (by first | omega | (simp; done) | (simp; omega)) _))
      clear hW
      refine (put_any w.heap.size wr.heap.size (.slice none 0 0) (.slice A zs.length cap) [] zs W hbx hs5 (World.ownsRow_nil _ _ _ _) (src_of (HZ.out.below BW.out) HNn.out) (by simp; omega)).mono ?_
      rintro e w3 ⟨rfl, v3, l, hb3, ho3, hord, hperm, hbl⟩
      rw [List.nil_append] at hperm
      have c0 := hb3.cell0
      have c1 := hb3.cell1
      have O3 := Lib.hid ho3
      have HP := Lib.hid hperm
      have HOr := Lib.hid hord
      have B3 := Lib.hid (BW.out.trans hbl)
      have hll : l.length ≤ 1048577 := by rw [hperm.length_eq]; exact hl
      obtain ⟨A3, k3, rfl⟩ := owns_sliceE ho3
      clear hb3 ho3 hord hperm hbl hbx
      go_wp2_with fail
      refine (tableOf_any w.heap.size _ l w3 O3.out hll (HS.out.perm HP.out)).mono ?_
      rintro e w4 ⟨A4, c4, rfl, ho4, hb4⟩
      have O4 := Lib.hid ho4
      have B4 := Lib.hid (B3.out.trans (hb4.mono B3.out.size))
      clear ho4 hb4
      have HE := Lib.hid (show (tableP l).1 = relOfL zs from (tableP_L l).trans (table_of zs l HR.out HOr.out HP.out))
      generalize (tableP l).1 = tl at HE O4 ⊢
      generalize (tableP l).2 = tb
      have hs3 := B3.out.size
      go_wp2
      go_ret
      rw [← HE.out]
      exact ⟨A4, c4, rfl, owns_baseE O4.out hs3, B4.out⟩
end Go.Proofs.Ytphinkcfmdnpfaa
