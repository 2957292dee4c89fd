/-
  Walks: the table of rows in any order.
-/
import Derived.Test.YtacddgipcafdlaaElK
import Derived.Test.YtacddgipcafdlaaStoreD
import Derived.Laws.AppendOwnNone
import Derived.OwnWalk
import Derived.Test.YtacddgipcafdlaaRelS
import Derived.Laws.EntriesVeiled
namespace Go.Proofs.Ytacddgipcafdlaa
open Go.Shelf Go.RowKit Go.Lib Go.Sort

theorem Try.infoR72 : (Try.prog.info? 72).map (fun i => (i.zero, i.size, i.bytes)) = some (some (.agg #[.string ⟨#[]⟩, .string ⟨#[]⟩, .int .i64 0, .int .i64 0]), 4, 48) := by kernel_rfl

/-- A slice whose cells can be read. -/
def Src (w : World) (u : Value) (ms : List RowV) : Prop := (u = .slice none 0 0 ∧ ms = []) ∨ ∃ ad c, u = .slice (some ad) ms.length c ∧ ∀ j x, (flatOf rowC ms)[j]? = some x → w.cell? (ad.add j) = some x
theorem flat_oneR (l : List RowV) : ∀ u ∈ flatOf rowC l, u.oneCell' = true := by
  induction l with
  | nil => intro u hu; cases hu
  | cons x l ih =>
    intro u hu
    rw [flatOf, List.mem_append] at hu
    rcases hu with hu | hu
    · exact rowC_one x u hu
    · exact ih u hu
theorem addr_add (b off j : Nat) : (⟨b, off, none⟩ : Addr).add j = ⟨b, off + j, none⟩ := by
  cases j with
  | zero => simp [Addr.add]
  | succ j => simp [Addr.add]
theorem src_of {w : World} {A : Option Addr} {zs : List RowV} {cap : Nat} (h : RowsA w A zs) (hA : A = none → cap = 0) : Src w (.slice A zs.length cap) zs := by
  cases zs with
  | nil =>
    cases A with
    | none => rw [hA rfl]; exact .inl ⟨rfl, rfl⟩
    | some a => exact .inr ⟨a, cap, rfl, fun j x hx => by simp [flatOf] at hx⟩
  | cons z zs =>
    obtain ⟨b, off, rfl, hb, hc⟩ := h (by simp)
    refine .inr ⟨⟨b, off, none⟩, cap, rfl, fun j x hx => ?_⟩
    have hj : j < (flatOf rowC (z :: zs)).length := (List.getElem?_eq_some_iff.1 hx).1
    rw [flatOf_length rowC_len] at hj
    have hi : j / 4 < (z :: zs).length := by omega
    have hy : (z :: zs)[j / 4]? = some (z :: zs)[j / 4] := List.getElem?_eq_getElem hi
    have h1 := flatOf_get rowC_len (z :: zs) (j / 4) _ (j % 4) hy (by omega)
    rw [show j / 4 * 4 + j % 4 = j by omega, hx] at h1
    have := hc (j / 4) _ hy (j % 4) x h1.symm
    rw [addr_add]
    rwa [show off + j / 4 * 4 + j % 4 = off + j by omega] at this
theorem owns_nilcap {w : World} {base n k cap : Nat} {A : Option Addr} {t : TypeId} {xs : List Value} (h : w.ownsRow base t k (.slice A n cap) n xs) (hA : A = none) : cap = 0 := by
  subst hA
  rcases h.2 with ⟨e0, _⟩ | ⟨g, c, cur, e0, _⟩
  · injection e0
  · cases e0
theorem wpList_append_src {P : Program} (w : World) {ops : Array Oper} {rest : List Oper} {o : Oper} {a : Act} {Q : Exit → Act → World → Prop} (hgd : o.guard = none) (s x : Operand) (t : TypeId)
    (ho : o.op = .call { callee := .builtin .append, args := #[s, x], argTypes := #[t, t] }) (base : Nat) (e : TypeId) (i : TypeInfo) (z : Value) (bytes : Nat)
    (ht : P.underlying t = some (.slice e)) (hi : P.info? e = some i) (hz : i.zero = some z) (hsize : i.size = 4) (hby : i.bytes = bytes) (hzs : z.cells.size = 4)
    (v : Value) (n : Nat) (zs : List RowV) (hs : a.eval s = v) (hown : w.ownsRow base e 4 v n (flatOf rowC zs)) (u : Value) (ms : List RowV) (hx : a.eval x = u) (hu : Src w u ms)
    (h63 : n + ms.length ≤ maxLen) (hbytes : (n + ms.length) * bytes ≤ 140737488355328) (hbase : base ≤ w.heap.size)
    (h : ∀ v' w', w'.ownsRow base e 4 v' (n + ms.length) (flatOf rowC (zs ++ ms)) → w.grownBy w' v.ownBlock → wpList P ops Q rest (a.put o.dst v') w') : wpList P ops Q (o :: rest) a w := by
  rcases hu with ⟨rfl, rfl⟩ | ⟨ad, c, rfl, hc⟩
  · exact wpList_append_own_none hgd s x t ho base e i 4 ht hi v n _ hs hown hx (h v w (by simpa using hown) ⟨rfl, rfl, rfl, Nat.le_refl _, fun _ _ _ => rfl⟩)
  · exact wpList_append_own _ hgd s x t ho base e i z 4 bytes ht hi hz hsize hby hzs (by omega) v n _ hs hown ad ms.length c (flatOf rowC ms) hx (flatOf_length rowC_len ms) hc (flat_oneR ms) h63 hbytes hbase (fun v' w' h1 h2 _ => h v' w' (by rw [flatOf_append]; exact h1) h2)

/-- The list in order lies in memory: how it compares, and its rows. -/
def BoxO (w : World) (ob : Nat) (v : Value) : Prop := w.heap[ob]? = some (.cells #[.func (.func 112) #[] #[], v] 133)
theorem BoxO.cell0 {w : World} {ob : Nat} {v : Value} (h : BoxO w ob v) : w.cell? ⟨ob, 0, none⟩ = some (.func (.func 112) #[] #[]) := by
  simp [World.cell?, show w.heap[ob]? = _ from h]
theorem BoxO.cell1 {w : World} {ob : Nat} {v : Value} (h : BoxO w ob v) : w.cell? ⟨ob, 1, none⟩ = some v := by
  simp [World.cell?, show w.heap[ob]? = _ from h]
theorem BoxO.lt {w : World} {ob : Nat} {v : Value} (h : BoxO w ob v) : ob < w.heap.size := (Array.getElem?_eq_some_iff.1 h).1
theorem BoxO.ne {w : World} {ob g base n c : Nat} {v : Value} {xs : List Value} (h : BoxO w ob v) (ho : w.ownsRow base 72 4 (.slice (some ⟨g, 0, none⟩) n c) n xs) : ob ≠ g := fun e => by
  rcases ho.2 with ⟨e0, _⟩ | ⟨g', cap', cur, e0, hb, hg, _⟩
  · cases e0
  · injection e0 with e1 _ e3
    injection e1 with e1
    injection e1 with e1
    subst e1 e
    have := (show w.heap[ob]? = _ from h).symm.trans hg
    simp at this
theorem BoxO.apart {w : World} {ob base n : Nat} {v v0 : Value} {xs : List Value} (h : BoxO w ob v0) (ho : w.ownsRow base 72 4 v n xs) : some ob ≠ v.ownBlock := fun e => by
  rcases ho.2 with ⟨e0, _⟩ | ⟨g', cap', cur, e0, hb, hg, _⟩
  · subst e0; simp [Value.ownBlock] at e
  · subst e0
    simp [Value.ownBlock] at e
    subst e
    have := (show w.heap[ob]? = _ from h).symm.trans hg
    simp at this
theorem BoxO.frozen {w : World} {ob : Nat} {v : Value} (h : BoxO w ob v) (o : Nat) : w.frozen? ⟨ob, o, none⟩ = false := by
  simp [World.frozen?, show w.heap[ob]? = _ from h]
theorem BoxO.stored {w : World} {ob : Nat} {v : Value} (h : BoxO w ob v) (u : Value) : BoxO (w.setCell ⟨ob, 1, none⟩ u) ob u := by
  unfold BoxO
  rw [heap_setCell_same w ob 1 _ _ u h]
  rfl
theorem BoxO.keep {w w' : World} {ob : Nat} {v : Value} (h : BoxO w ob v) (he : w'.heap[ob]? = w.heap[ob]?) : BoxO w' ob v := he.trans h
/-- A row that lies in another block. -/
theorem owns_setBox {w : World} {ob base n : Nat} {v v0 u : Value} {xs : List Value} (h : BoxO w ob v0) (ho : w.ownsRow base 72 4 v n xs) : (w.setCell ⟨ob, 1, none⟩ u).ownsRow base 72 4 v n xs := by
  have ha := h.apart ho
  rcases ho.2 with ⟨e0, h0⟩ | ⟨g, cap, cur, e0, hb, hg, r⟩
  · exact ⟨ho.1, .inl ⟨e0, h0⟩⟩
  · subst e0
    have hne : g ≠ ob := fun e => ha (by simp [Value.ownBlock, e])
    exact ⟨ho.1, .inr ⟨g, cap, cur, rfl, hb, (heap_setCell_other w ⟨ob, 1, none⟩ g u (by simpa using hne)).trans hg, r⟩⟩

theorem owns_formN {w : World} {base n k : Nat} {t : TypeId} {v : Value} {xs : List Value} (h : w.ownsRow base t k v n xs) : ∃ A cap, v = .slice A n cap := by
  rcases h.2 with ⟨e0, h0⟩ | ⟨g, cap, cur, e0, _⟩
  · exact ⟨none, 0, by rw [e0, h0]⟩
  · exact ⟨_, _, e0⟩

set_option maxRecDepth 100000 in
set_option maxHeartbeats 4000000 in
theorem put_any (base ob : Nat) (v u : Value) (zs ms : List RowV) (w : World) (hbx : BoxO w ob v) (hob : base ≤ ob) (hown : w.ownsRow base 72 4 v zs.length (flatOf rowC zs)) (hu : Src w u ms) (hlen : zs.length + ms.length ≤ 4194304) :
    Calls Try.prog 113 #[.pointer (some ⟨ob, 0, none⟩), u] w fun e w' => e = .returned (.tuple #[]) ∧ ∃ v' l, BoxO w' ob v' ∧ w'.ownsRow base 72 4 v' l.length (flatOf rowC l) ∧ Ordered l ∧ l.Perm (zs ++ ms) ∧ Below base w w' := by
  obtain ⟨i0, hi, hz0, hz1, hz2⟩ := info_parts Try.infoR72
  have Hi := Lib.hid hi
  have Hz0 := Lib.hid hz0
  have Hz1 := Lib.hid hz1
  have Hz2 := Lib.hid hz2
  have c0 := hbx.cell0
  have c1 := hbx.cell1
  have HB := Lib.hid hbx
  have HO := Lib.hid hown
  have HU := Lib.hid hu
  have hoblt := hbx.lt
  clear hi hz0 hz1 hz2 hbx hown hu
  go_enter Try.func113, Try.ntmps113
  go_wp2_with (at_builtin; refine wpList_append_src _ rfl _ _ 58 rfl base 72 i0 _ 48 Try.underlying58 Hi.out Hz0.out Hz1.out Hz2.out rfl v zs.length zs rfl HO.out u ms rfl HU.out (by unfold maxLen; omega) (by omega) (by omega) ?_; intro v1 w1 ho1 hg1; obtain ⟨A1, k1, rfl⟩ := owns_formN ho1; have HB1 := Lib.hid (HB.out.keep (hg1.block ob hoblt (HB.out.apart HO.out))); have HO1 := Lib.hid ho1; have HG1 := Lib.hid hg1; have c0' := HB1.out.cell0; have c1' := HB1.out.cell1; have fr := HB1.out.frozen; clear ho1 hg1 c0 c1)
  have HB2 := Lib.hid (HB1.out.stored (.slice A1 (zs.length + ms.length) k1))
  have HO2 := Lib.hid (owns_setBox (u := .slice A1 (zs.length + ms.length) k1) HB1.out HO1.out)
  have BL2 := Lib.hid (show Below base w (w1.setCell ⟨ob, 1, none⟩ (.slice A1 (zs.length + ms.length) k1)) from ((Below.refl base w).grown HG1.out (by omega) (fun i e => (HO.out.lt i e).1)).setCell (by simpa using hob) _)
  generalize w1.setCell ⟨ob, 1, none⟩ (.slice A1 (zs.length + ms.length) k1) = w2 at HB2 HO2 BL2 ⊢
  have d0 := HB2.out.cell0
  have d1 := HB2.out.cell1
  refine wp_region_still_tail 8 (by kernel_rfl) (by kernel_rfl) ?_
  simp only [List.take_succ_cons, List.take_zero, List.drop_succ_cons, List.drop_zero]
  repeat still_step
  refine wpStill_nil ?_
  change wpList _ _ _ _ _ w2.drew
  replace HB2 := Lib.hid (show BoxO w2.drew ob (.slice A1 (zs.length + ms.length) k1) from HB2.out)
  replace HO2 := Lib.hid (World.ownsRow.drew HO2.out)
  replace BL2 := Lib.hid (show Below base w w2.drew from BL2.out.drew)
  clear d0 d1
  generalize w2.drew = w2 at HB2 HO2 BL2 ⊢
  rcases HO2.out.2 with ⟨e0, h0⟩ | ⟨g, kc, cur, e0, hbg, hg, -⟩
  · injection e0 with e1 e2 e3
    subst e1
    subst e3
    rw [h0]
    go_wp2_with (go_at_call 140; refine (SortStable_nil _ _).mono ?_; rintro e w3 ⟨rfl, rfl⟩)
    first | go_end0 | go_ret
    have hnil : zs ++ ms = [] := List.length_eq_zero_iff.1 (by rw [List.length_append]; exact h0)
    refine ⟨rfl, .slice none 0 0, [], by have := HB2.out; rwa [h0] at this, World.ownsRow_nil _ _ _ _, List.Pairwise.nil, by rw [hnil], BL2.out⟩
  · injection e0 with e1 e2 e3
    subst e1
    subst e3
    have hgl : g < w2.heap.size := (Array.getElem?_eq_some_iff.1 hg).1
    have hlz : zs.length + ms.length = (zs ++ ms).length := by simp
    have eg : ∀ args w, (callFunc 112 args).run Try.prog w = .ok (.enter 112 args) w := enters_of Try.func112 (by kernel_rfl) rfl
    have hcon := SortStable_row 112 #[] eg byKey_lays g 0 k1 (zs ++ ms).toArray w2 ⟨rowC_len, rowC_one, holds_ofK rowC_len (by omega) HO2.out hlz, hgl⟩ (by simp; omega)
    simp only [List.size_toArray, List.length_append] at hcon
    have HC := Lib.hid hcon
    have HLZ := Lib.hid hlz
    clear hcon hlz e2 eg hg
    go_wp2_with (go_at_call 140; refine HC.out.mono ?_; rintro e w3 ⟨rfl, d', hp, hs, hw⟩; have HS := Lib.hid hs; have HP := Lib.hid hp; have HW := Lib.hid hw; clear hp hs hw)
    first | go_end0 | go_ret
    have hsz : d'.size = zs.length + ms.length := by have := HP.out.1; simpa using this
    obtain ⟨q1, q2, q3⟩ := sorted_own (l' := d'.toList) rowC_len (by omega) HO2.out HLZ.out (by simp; omega) (by simpa using HW.out)
    have HQ3 := HB2.out.keep (q3 ob HB2.out.lt (HB2.out.ne HO2.out))
    refine ⟨rfl, .slice (some ⟨g, 0, none⟩) (zs.length + ms.length) k1, d'.toList, HQ3, ?_, ?_, ?_, BL2.out.trans q2⟩
    · have hl : d'.toList.length = zs.length + ms.length := by simpa using hsz
      rw [hl]; exact q1
    · refine List.pairwise_iff_getElem.2 fun i j hi hj hij => ?_
      have hj' : j < d'.size := by simpa using hj
      have hi' : i < d'.size := by simpa using hi
      have := HS.out i j (Nat.zero_le _) hij (by omega)
      rw [getElem!_pos d' i hi', getElem!_pos d' j hj'] at this
      simpa using this
    · have := HP.out.2.2
      have h2 : (List.take (zs.length + ms.length) d'.toList).Perm (zs ++ ms) := by
        have h3 : (List.take (zs.length + ms.length) d'.toList).Perm (List.take (zs.length + ms.length) (zs ++ ms)) := by simpa using this
        rwa [List.take_of_length_le (l := zs ++ ms) (by simp)] at h3
      rwa [List.take_of_length_le (by simp; omega)] at h2
end Go.Proofs.Ytacddgipcafdlaa
namespace Go.Proofs.Ytacddgipcafdlaa
open Go.Shelf Go.RowKit Go.Lib Go.Sort

theorem rowsA_own {w : World} {base n : Nat} {A : Option Addr} {cap : Nat} {t : TypeId} {zs : List RowV} (h : w.ownsRow base t 4 (.slice A n cap) n (flatOf rowC zs)) (hn : n = zs.length) : RowsA w A zs := by
  subst hn
  intro h0
  rcases h.2 with ⟨e0, h1⟩ | ⟨g, c, cur, e0, hb, hg, _⟩
  · omega
  · injection e0 with e1 _ e3
    subst e1
    subst e3
    refine ⟨g, 0, rfl, (Array.getElem?_eq_some_iff.1 hg).1, fun i x hx j u hu => ?_⟩
    have hj : j < 4 := by have := (List.getElem?_eq_some_iff.1 hu).1; rwa [rowC_len] at this
    have hi : i < zs.length := (List.getElem?_eq_some_iff.1 hx).1
    rw [Nat.zero_add, h.cellAt (i * 4 + j) (by omega), flatOf_get rowC_len zs i x j hx hj]
    exact hu
/-- The last row of a list that a call owns. -/
theorem last_own {w : World} {base n : Nat} {v : Value} {o : List RowV} {y : RowV} (h : w.ownsRow base 72 4 v n (flatOf rowC (o ++ [y]))) (hn : n = o.length + 1) :
    ∃ g c, v = .slice (some ⟨g, 0, none⟩) n c ∧ base ≤ g ∧ g < w.heap.size ∧ w.cell? ⟨g, o.length * 4, none⟩ = some (.string y.k) ∧ w.cell? ⟨g, o.length * 4 + 1, none⟩ = some (.string y.t) ∧ w.cell? ⟨g, o.length * 4 + 2, none⟩ = some (.int .i64 y.f) ∧ w.cell? ⟨g, o.length * 4 + 3, none⟩ = some (.int .i64 y.e) ∧ ∀ j, w.frozen? ⟨g, j, none⟩ = false := by
  rcases h.2 with ⟨e0, h1⟩ | ⟨g, c, cur, e0, hb, hg, _⟩
  · omega
  · subst e0
    have hx : (o ++ [y])[o.length]? = some y := by simp
    have at_ : ∀ j, j < 4 → w.cell? ⟨g, o.length * 4 + j, none⟩ = (rowC y)[j]? := fun j hj => by
      rw [h.cellAt (o.length * 4 + j) (by omega), flatOf_get rowC_len (o ++ [y]) o.length y j hx hj]
    refine ⟨g, c, rfl, hb, (Array.getElem?_eq_some_iff.1 hg).1, at_ 0 (by omega), at_ 1 (by omega), at_ 2 (by omega), at_ 3 (by omega), fun j => ?_⟩
    simp [World.frozen?, hg]
theorem flat_last (o : List RowV) (y z : RowV) : ((((flatOf rowC (o ++ [y])).set (o.length * 4) (.string z.k)).set (o.length * 4 + 1) (.string z.t)).set (o.length * 4 + 2) (.int .i64 z.f)).set (o.length * 4 + 3) (.int .i64 z.e) = flatOf rowC (o ++ [z]) := by
  have hl : (flatOf rowC o).length = o.length * 4 := flatOf_length rowC_len o
  rw [flatOf_append, flatOf_append, flatOf_one, flatOf_one, ← hl]
  rw [List.set_append_right _ _ (by omega), List.set_append_right _ _ (by omega), List.set_append_right _ _ (by omega), List.set_append_right _ _ (by omega)]
  simp [rowC]
theorem newsFour {w : World} {g : Nat} {a b c d : Value} (h0 : w.cell? ⟨g, 0, none⟩ = some a) (h1 : w.cell? ⟨g, 1, none⟩ = some b) (h2 : w.cell? ⟨g, 2, none⟩ = some c) (h3 : w.cell? ⟨g, 3, none⟩ = some d) : ∀ j u, [a, b, c, d][j]? = some u → w.cell? ((⟨g, 0, none⟩ : Addr).add j) = some u := by
  intro j u h
  match j, h with
  | 0, h => simp at h; subst h; simpa [Addr.add] using h0
  | 1, h => simp at h; subst h; simpa [Addr.add] using h1
  | 2, h => simp at h; subst h; simpa [Addr.add] using h2
  | 3, h => simp at h; subst h; simpa [Addr.add] using h3
  | j + 4, h => simp at h
/-- Behind the test whether two rows touch: what was told, and where the one row lies. -/
def AtJoin (W : World) (y x : RowV) (s9 s10 : Value) (wx : World) : Prop :=
  ∃ (g' : Nat) (r : RowV), s9 = .pointer (some ⟨g', 0, none⟩) ∧ s10 = .bool (joinB y x) ∧ (joinB y x = true → r = ⟨y.k, y.t, y.f, x.e⟩) ∧ wx.cell? ⟨g', 0, none⟩ = some (.string r.k) ∧ wx.cell? ⟨g', 1, none⟩ = some (.string r.t) ∧ wx.cell? ⟨g', 2, none⟩ = some (.int .i64 r.f) ∧ wx.cell? ⟨g', 3, none⟩ = some (.int .i64 r.e) ∧ W.heap.size ≤ g' ∧ Below W.heap.size W wx
theorem touch_join (a b : RowV) : touchB a b = joinB a b := rfl

theorem joinStep_all {p : RowV → Prop} (hj : ∀ y x, p y → p x → p (joinR y x)) {out : List RowV} {x : RowV} (h1 : ∀ y ∈ out, p y) (h2 : p x) : ∀ y ∈ joinStep out x, p y := by
  rcases List.eq_nil_or_concat out with h | ⟨o, z, h⟩
  · subst h; intro y hy; simp [joinStep] at hy; subst hy; exact h2
  · rw [List.concat_eq_append] at h
    subst h
    rw [joinStep_at]
    have hz : p z := h1 z (by simp)
    have ho : ∀ y ∈ o, p y := fun y hy => h1 y (by simp [hy])
    by_cases ht : touchB z x = true
    · rw [if_pos ht]
      intro y hy
      rcases List.mem_append.1 hy with hy | hy
      · exact ho y hy
      · rw [List.mem_singleton.1 hy]; exact hj z x hz h2
    · rw [if_neg ht]
      intro y hy
      rcases List.mem_append.1 hy with hy | hy
      · exact h1 y hy
      · rw [List.mem_singleton.1 hy]; exact h2
theorem joinRows_all {p : RowV → Prop} (hj : ∀ y x, p y → p x → p (joinR y x)) {zs : List RowV} (h : ∀ x ∈ zs, p x) : ∀ x ∈ joinRows zs, p x := by
  have : ∀ (l out : List RowV), (∀ y ∈ out, p y) → (∀ x ∈ l, p x) → ∀ y ∈ l.foldl joinStep out, p y := by
    intro l
    induction l with
    | nil => intro out h1 _ y hy; exact h1 y hy
    | cons x l ih => intro out h1 h2; exact ih _ (joinStep_all hj h1 (h2 x (by simp))) (fun z hz => h2 z (by simp [hz]))
  exact this zs [] (by intro y hy; cases hy) h
theorem owns_baseE {w : World} {base base' n : Nat} {v : Value} {xs : List Value} {e : TypeId} {size : Nat} (h : w.ownsRow base e size v n xs) (hb : base' ≤ base) : w.ownsRow base' e size v n xs :=
  ⟨h.1, h.2.imp id fun ⟨g, c, cur, e1, e2, r⟩ => ⟨g, c, cur, e1, Nat.le_trans hb e2, r⟩⟩
/-- Texts that are not too long for a machine. -/
def Short (zs : List RowV) : Prop := ∀ r ∈ zs, r.k.size ≤ maxLen ∧ r.t.size ≤ maxLen
theorem Short.join {zs : List RowV} (h : Short zs) : Short (joinRows zs) := joinRows_all (p := fun r => r.k.size ≤ maxLen ∧ r.t.size ≤ maxLen) (fun _ _ hy _ => hy) h
theorem Short.perm {zs l : List RowV} (h : Short zs) (hp : l.Perm zs) : Short l := fun r hr => h r (hp.subset hr)
/-- The table of rows in order, and whether it is one. -/
def tableP (s : List RowV) : List RowV × Bool := if relOk (joinRows s) = true then (joinRows s, true) else ([], false)
/-- A slice of rows and a bool. -/
def GetsRB (w : World) (p : List RowV × Bool) (e : Ending) (w' : World) : Prop :=
  ∃ A cap, e = .returned (.tuple #[.slice A p.1.length cap, .bool p.2]) ∧ w'.ownsRow w.heap.size 72 4 (.slice A p.1.length cap) p.1.length (flatOf rowC p.1) ∧ Below w.heap.size w w'

end Go.Proofs.Ytacddgipcafdlaa
namespace Go.Proofs.Ytacddgipcafdlaa
open Go.Shelf Go.RowKit Go.Lib Go.Sort

theorem relOf_bad {zs : List RowV} {x : RowV} (hx : x ∈ zs) (h : rowOk x = false) : relOfL zs = [] := by
  unfold relOfL
  cases e : layAll [] zs with
  | none => rfl
  | some m =>
    obtain ⟨_, h2, h3⟩ := layAll_some zs [] m List.Pairwise.nil (by intro x hx; cases hx) e
    rw [List.append_nil] at h3
    rw [h2 x (h3.symm.subset hx)] at h
    cases h
theorem tableP_L (s : List RowV) : (tableP s).1 = tableL s := by
  unfold tableP tableL
  split <;> rfl
theorem relOf_len (zs : List RowV) : (relOfL zs).length ≤ 24 := by
  unfold relOfL
  cases layAll [] zs with
  | none => simp
  | some m =>
    show (if (joinRows m).length ≤ 24 then joinRows m else []).length ≤ 24
    split
    · assumption
    · simp

end Go.Proofs.Ytacddgipcafdlaa
