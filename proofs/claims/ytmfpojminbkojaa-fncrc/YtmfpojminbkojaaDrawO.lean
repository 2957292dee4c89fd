/-
  Walks: what is drawn of a code: what is to be done.
-/
import Derived.Test.YtmfpojminbkojaaDrawR
import Derived.Test.YtmfpojminbkojaaOpT
import Derived.Test.YtmfpojminbkojaaDrawC
namespace Go.Proofs.Ytmfpojminbkojaa
open Go.RowKit Go.Lib

/-- What is drawn to be done, with short texts. -/
def DrawnOp (w : World) (R : Nat) (bs : List Int) (p c : Int) (e : Ending) (w' : World) : Prop :=
  ∃ (k t : Int) (r : RowV), e = .returned (.agg #[.int .i64 k, .int .i64 t, .string r.k, .string r.t, .int .i64 r.f, .int .i64 r.e]) ∧ (r.k.size ≤ 20 ∧ r.t.size ≤ 20) ∧ ∃ p', p ≤ p' ∧ p' ≤ p + c ∧ Rd w' R bs p' ∧ w.grownBy w' (some R)

/-- The same, of a known kind, and where its span may lie. -/
def DrawnOpK (w : World) (R : Nat) (bs : List Int) (p c : Int) (e : Ending) (w' : World) : Prop :=
  ∃ (k t : Int) (r : RowV), e = .returned (.agg #[.int .i64 k, .int .i64 t, .string r.k, .string r.t, .int .i64 r.f, .int .i64 r.e]) ∧ (r.k.size ≤ 20 ∧ r.t.size ≤ 20) ∧ ((1 ≤ k ∧ k ≤ 4) ∧ (0 ≤ t ∧ t ≤ 1) ∧ (0 ≤ r.f ∧ r.f ≤ 100 ∧ 0 ≤ r.e ∧ r.e ≤ 100)) ∧ ∃ p', p ≤ p' ∧ p' ≤ p + c ∧ Rd w' R bs p' ∧ w.grownBy w' (some R)

def opCells (k t : Int) (r : RowV) : List Value := [.int .i64 k, .int .i64 t, .string r.k, .string r.t, .int .i64 r.f, .int .i64 r.e]
theorem opCells_one (k t : Int) (r : RowV) : ∀ v ∈ opCells k t r, v.oneCell' = true := by
  intro v hv
  simp [opCells] at hv
  rcases hv with rfl | rfl | rfl | rfl | rfl | rfl <;> rfl
theorem range_set {w : World} {g i : Nat} {cs : List Value} {v : Value} (h : w.rangeAt g 0 cs) (hi : i < cs.length) : (w.setCell ⟨g, i, none⟩ v).rangeAt g 0 (cs.set i v) := fun j u hu => by
  have h0 : ∀ j u, cs[j]? = some u → w.cell? ⟨g, j, none⟩ = some u := fun j u hu => by have := h j u hu; rwa [Nat.zero_add] at this
  rw [Nat.zero_add]
  by_cases e : i = j
  · subst e
    rw [List.getElem?_set_self hi] at hu
    injection hu with hu
    subst hu
    exact World.cell?_setCell_same _ _ _ (h0 i _ (List.getElem?_eq_getElem hi))
  · rw [List.getElem?_set_ne e] at hu
    rw [World.cell?_setCell_other _ _ _ _ (by intro e'; injection e' with _ e2 _; exact e e2)]
    exact h0 j u hu
theorem range_other {w : World} {g b i : Nat} {cs : List Value} {v : Value} (h : w.rangeAt g 0 cs) (hn : b ≠ g) : (w.setCell ⟨b, i, none⟩ v).rangeAt g 0 cs := fun j u hu => by
  rw [World.cell?_setCell_other _ _ _ _ (by intro e'; injection e' with e1 _ _; exact hn e1)]
  exact h j u hu
theorem range_grown {w w' : World} {g R : Nat} {cs : List Value} (h : w.rangeAt g 0 cs) (hg : w.grownBy w' (some R)) (hn : g ≠ R) : w'.rangeAt g 0 cs := fun j u hu => grown_cell hg hn (h j u hu)
theorem range_at {w : World} {g : Nat} {cs : List Value} (h : w.rangeAt g 0 cs) (j : Nat) {v : Value} (hv : cs[j]? = some v) : w.cell? ⟨g, j, none⟩ = some v := by have := h j v hv; rwa [Nat.zero_add] at this

def zeroOp : List Value := opCells 0 0 ⟨⟨#[]⟩, ⟨#[]⟩, 0, 0⟩
/-- The box of what is to be done, and the result's own. -/
structure OpBox (w W : World) (R g h : Nat) (bs : List Int) (q k t : Int) (r : RowV) : Prop where
  box : W.rangeAt g 0 (opCells k t r)
  res : W.rangeAt h 0 zeroOp
  fg : ∀ o, W.frozen? ⟨g, o, none⟩ = false
  fh : ∀ o, W.frozen? ⟨h, o, none⟩ = false
  short : r.k.size ≤ 20 ∧ r.t.size ≤ 20
  rd : Rd W R bs q
  grown : w.grownBy W (some R)
  gR : R < g
  hR : R < h
  gh : g ≠ h
  wg : w.heap.size ≤ g
  wh : w.heap.size ≤ h
theorem OpBox.lg {w W : World} {R g h : Nat} {bs : List Int} {q k t : Int} {r : RowV} (b : OpBox w W R g h bs q k t r) : g < W.heap.size := World.block_lt_of_cell? _ _ (range_at b.box 0 rfl)
theorem OpBox.lh {w W : World} {R g h : Nat} {bs : List Int} {q k t : Int} {r : RowV} (b : OpBox w W R g h bs q k t r) : h < W.heap.size := World.block_lt_of_cell? _ _ (range_at b.res 0 rfl)
theorem OpBox.grow {w W W' : World} {R g h : Nat} {bs : List Int} {q q' k t : Int} {r : RowV} (b : OpBox w W R g h bs q k t r) (hg : W.grownBy W' (some R)) (hrd : Rd W' R bs q') : OpBox w W' R g h bs q' k t r :=
  have n1 : g ≠ R := by have := b.gR; omega
  have n2 : h ≠ R := by have := b.hR; omega
  ⟨range_grown b.box hg n1, range_grown b.res hg n2, fun o => ((gcell hg).2 _ _ b.lg n1).trans (b.fg o), fun o => ((gcell hg).2 _ _ b.lh n2).trans (b.fh o), b.short, hrd, grown_trans b.grown hg, b.gR, b.hR, b.gh, b.wg, b.wh⟩
theorem OpBox.set {w W : World} {R g h i : Nat} {bs : List Int} {q k t k' t' : Int} {r r' : RowV} {v : Value} (b : OpBox w W R g h bs q k t r) (hi : i < 6) (hs : opCells k' t' r' = (opCells k t r).set i v) (hr : r'.k.size ≤ 20 ∧ r'.t.size ≤ 20) : OpBox w (W.setCell ⟨g, i, none⟩ v) R g h bs q k' t' r' :=
  ⟨by rw [hs]; exact range_set b.box hi, range_other b.res b.gh, fun o => (World.frozen?_setCell ..).trans (b.fg o), fun o => (World.frozen?_setCell ..).trans (b.fh o), hr, rd_set b.rd b.gR v, grown_set_new b.grown b.wg v, b.gR, b.hR, b.gh, b.wg, b.wh⟩
theorem grown_setCells {w : World} {R h : Nat} (hw : w.heap.size ≤ h) : ∀ (vs : List Value) (o : Nat) (W : World), w.grownBy W (some R) → w.grownBy (W.setCells h o vs) (some R)
  | [], _, _, hg => hg
  | v :: l, o, W, hg => by
    rw [World.setCells]
    exact grown_setCells hw l (o + 1) _ (grown_set_new hg hw v)
theorem rd_setCells {R h : Nat} {bs : List Int} {q : Int} (hR : R < h) : ∀ (vs : List Value) (o : Nat) (W : World), Rd W R bs q → Rd (W.setCells h o vs) R bs q
  | [], _, _, hd => hd
  | v :: l, o, W, hd => by
    rw [World.setCells]
    exact rd_setCells hR l (o + 1) _ (rd_set hd hR v)

set_option maxRecDepth 100000 in
set_option maxHeartbeats 4000000 in
theorem l20OpK_any (R : Nat) (bs : List Int) (p : Int) (w : World) (h : Rd w R bs p) (hp0 : 0 ≤ p) (hp1 : p ≤ 600000) :
    Calls Try.prog 87 #[.pointer (some ⟨R, 0, none⟩)] w (DrawnOpK w R bs p 10) := by
  have hR := h.lt
  have hne : w.heap.size ≠ R := by omega
  go_enter Try.func87, Try.ntmps87
  go_wp2_with fail
  refine (one_any R (w.heap.size + 1) 6 bs [1, 1, 2, 3, 4, 4] p _ (rd_alloc (rd_alloc h _) _) hp0 (by omega) (by simp) (by simp) (by omega) (by
    intro i hi
    match i, hi with
    | 0, _ => first | (simp; done) | (simp [go_sem]; done)
    | 1, _ => first | (simp; done) | (simp [go_sem]; done)
    | 2, _ => first | (simp; done) | (simp [go_sem]; done)
    | 3, _ => first | (simp; done) | (simp [go_sem]; done)
    | 4, _ => first | (simp; done) | (simp [go_sem]; done)
    | 5, _ => first | (simp; done) | (simp [go_sem]; done))).mono ?_
  rintro e w1 ⟨kd, rfl, hkd, hrd1, hgr1⟩
  have hkd' : 1 ≤ kd ∧ kd ≤ 4 := by simp at hkd; omega
  clear hkd
  go_wp2_with fail
  refine (pick_any R bs (p + 1) _ _ hrd1 (by omega) (by omega) (by omega) (by omega)).mono ?_
  rintro e w2 ⟨tb, rfl, t0, t1, hrd2, hgr2⟩
  go_wp2_with fail
  refine (l20RowB_any R bs (p + 1 + 1) _ hrd2 (by omega) (by omega)).mono ?_
  rintro e w3 ⟨r, rfl, hr, hrb, p3, hp3a, hp3b, hrd3, hgr3⟩
  have gA := grown_trans (grown_trans (grown_alloc (grown_refl (w.alloc (Obj.cells #[.int .i64 0, .int .i64 0, .string ⟨#[]⟩, .string ⟨#[]⟩, .int .i64 0, .int .i64 0] 119)) (some R)) _) hgr1) (grown_trans hgr2 hgr3)
  have HA := Lib.hid gA
  have HR := Lib.hid hrd3
  have hz3 : w.heap.size < w3.heap.size := by have := gA.size; simp at this; omega
  clear hgr1 hgr2 hgr3 gA hrd1 hrd2 hrd3
  go_upto_region 2 with fail
  generalize hW : w3.alloc _ = W1
  have b1 : OpBox w W1 R w3.heap.size w.heap.size bs p3 kd tb r := by
    have hgW : w3.grownBy W1 (some R) := by rw [← hW]; exact grown_alloc (grown_refl _ _) _
    have z : ∀ j v, zeroOp[j]? = some v → w3.cell? ⟨w.heap.size, j, none⟩ = some v := fun j v hv => grown_cell HA.out hne (by
      match j, hv with
      | 0, hv => simp [zeroOp, opCells] at hv; subst hv; simp
      | 1, hv => simp [zeroOp, opCells] at hv; subst hv; simp
      | 2, hv => simp [zeroOp, opCells] at hv; subst hv; simp
      | 3, hv => simp [zeroOp, opCells] at hv; subst hv; simp
      | 4, hv => simp [zeroOp, opCells] at hv; subst hv; simp
      | 5, hv => simp [zeroOp, opCells] at hv; subst hv; simp)
    refine ⟨range6 ?_ ?_ ?_ ?_ ?_ ?_, fun j v hv => by rw [Nat.zero_add]; exact grown_cell hgW hne (z j v hv), fun o => ?_, fun o => ?_, hr, ?_, ?_, by omega, by omega, by omega, by omega, Nat.le_refl _⟩
    · rw [← hW]; simp [go_sem]
    · rw [← hW]; simp [go_sem]
    · rw [← hW]; simp [go_sem]
    · rw [← hW]; simp [go_sem]
    · rw [← hW]; simp [go_sem]
    · rw [← hW]; simp [go_sem]
    · rw [← hW]; simp [go_sem]
    · exact ((gcell (grown_trans HA.out hgW)).2 _ _ (by simp) hne).trans (by simp)
    · rw [← hW]; exact rd_alloc HR.out _
    · exact grown_trans (grown_alloc (grown_refl w (some R)) _) (grown_trans HA.out hgW)
  obtain ⟨g, hg⟩ : ∃ g, w3.heap.size = g := ⟨_, rfl⟩
  rw [hg] at b1 ⊢
  clear hW hg HA HR hz3 hr
  have c0 := range_at b1.box 0 rfl
  have c1 := range_at b1.box 1 rfl
  have B1 := Lib.hid b1
  clear b1
  by_cases e1 : tb = 1
  · subst e1
    go_wp2_with fail
    refine (l20Key_any R bs p3 _ B1.out.rd (by omega) (by omega)).mono ?_
    rintro e w4 ⟨s, rfl, hs, hrd, hgr⟩
    have B2 := Lib.hid (B1.out.grow hgr hrd)
    have d3 := range_at B2.out.box 3 rfl
    have ff := B2.out.fg
    have c0' := range_at B2.out.box 0 rfl
    clear hrd hgr c0 c1 B1
    go_upto_region 4 with fail
    have B3 := Lib.hid (B2.out.set (i := 3) (v := .string s) (k' := kd) (t' := 1) (r' := ⟨r.k, s, r.f, r.e⟩) (by omega) rfl ⟨B2.out.short.1, hs⟩)
    obtain ⟨W2, hW2⟩ : ∃ W2, w4.setCell ⟨g, 3, none⟩ (.string s) = W2 := ⟨_, rfl⟩
    obtain ⟨q3, hq3⟩ : ∃ q3, p3 + 1 = q3 := ⟨_, rfl⟩
    obtain ⟨r2, hr2⟩ : ∃ r2 : RowV, (⟨r.k, s, r.f, r.e⟩ : RowV) = r2 := ⟨_, rfl⟩
    have hb2 : 0 ≤ r2.f ∧ r2.f ≤ 100 ∧ 0 ≤ r2.e ∧ r2.e ≤ 100 := by rw [← hr2]; exact hrb
    obtain ⟨t2, ht2⟩ : ∃ t2 : Int, 1 = t2 := ⟨_, rfl⟩
    have htb2 : 0 ≤ t2 ∧ t2 ≤ 1 := by omega
    rw [hr2, hq3] at B3
    rw [hW2] at B3 ⊢
    rw [ht2] at B3
    have hb3 : p ≤ q3 ∧ q3 ≤ p + 9 := by omega
    clear hW2 hq3 hr2 ht2 d3 ff c0' B2 hs
    have c0 := range_at B3.out.box 0 rfl
    by_cases e2 : kd = 2
    · subst e2
      have d3 := range_at B3.out.box 3 rfl
      have ff := B3.out.fg
      go_upto_region 6 with fail
      have B4 := Lib.hid (B3.out.set (i := 3) (v := .string ⟨#[]⟩) (k' := 2) (t' := t2) (r' := ⟨r2.k, ⟨#[]⟩, r2.f, r2.e⟩) (by omega) rfl ⟨B3.out.short.1, by simp [ByteArray.size]⟩)
      obtain ⟨W3, hW3⟩ : ∃ W3, W2.setCell ⟨g, 3, none⟩ (.string ⟨#[]⟩) = W3 := ⟨_, rfl⟩
      obtain ⟨r3, hr3⟩ : ∃ r3 : RowV, (⟨r2.k, ⟨#[]⟩, r2.f, r2.e⟩ : RowV) = r3 := ⟨_, rfl⟩
      have hb3 : 0 ≤ r3.f ∧ r3.f ≤ 100 ∧ 0 ≤ r3.e ∧ r3.e ≤ 100 := by rw [← hr3]; first | exact hb2 | exact hrb
      obtain ⟨k3, hk3⟩ : ∃ k3 : Int, 2 = k3 := ⟨_, rfl⟩
      have hk4 : 1 ≤ k3 ∧ k3 ≤ 4 := by omega
      obtain ⟨t3, ht3⟩ : ∃ t3 : Int, t2 = t3 := ⟨_, rfl⟩
      have htb3 : 0 ≤ t3 ∧ t3 ≤ 1 := by omega
      obtain ⟨q4, hq4⟩ : ∃ q4 : Int, q3 = q4 := ⟨_, rfl⟩
      rw [hr3] at B4
      rw [hW3] at B4 ⊢
      rw [hk3, ht3, hq4] at B4
      clear hW3 hr3 hk3 ht3 d3 ff c0 B3
      have TQ : W3.there w.heap.size 0 6 := fun j hj => ⟨B4.out.res.isSome j hj, B4.out.fh _⟩
      refine wp_region_lit ?_
      refine wpList_load_mid rfl 119 _ rfl g 0 rfl (opCells k3 t3 r3) _ B4.out.box Try.underlying119 rfl (by kernel_rfl) ?_
      refine wpList_store_mid rfl 119 _ _ rfl w.heap.size 0 (opCells k3 t3 r3).toArray rfl rfl TQ (by kernel_rfl) (all_oneCell_toArray (opCells_one k3 t3 r3)) ?_
      refine wpList_nil ?_
      have RS := World.rangeAt_setCells_same W3 w.heap.size 0 (opCells k3 t3 r3) TQ
      have HG := Lib.hid (grown_setCells B4.out.wh (opCells k3 t3 r3) 0 W3 B4.out.grown)
      have HD := Lib.hid (rd_setCells B4.out.hR (opCells k3 t3 r3) 0 W3 B4.out.rd)
      have HSH := Lib.hid B4.out.short
      show Exit.then _ _ _ _ (W3.setCells w.heap.size 0 (opCells k3 t3 r3))
      obtain ⟨Z, hZ⟩ : ∃ Z, W3.setCells w.heap.size 0 (opCells k3 t3 r3) = Z := ⟨_, rfl⟩
      rw [hZ] at RS HG HD ⊢
      clear hZ TQ B4
      have Q0 : Z.cell? ⟨w.heap.size, 0, none⟩ = some (.int .i64 k3) := range_at RS 0 rfl
      have Q1 : Z.cell? ⟨w.heap.size, 1, none⟩ = some (.int .i64 t3) := range_at RS 1 rfl
      have Q2 : Z.cell? ⟨w.heap.size, 2, none⟩ = some (.string r3.k) := range_at RS 2 rfl
      have Q3 : Z.cell? ⟨w.heap.size, 3, none⟩ = some (.string r3.t) := range_at RS 3 rfl
      have Q4 : Z.cell? ⟨w.heap.size, 4, none⟩ = some (.int .i64 r3.f) := range_at RS 4 rfl
      have Q5 : Z.cell? ⟨w.heap.size, 5, none⟩ = some (.int .i64 r3.e) := range_at RS 5 rfl
      clear RS
      go_wp2
      refine bodyPost_ret (v := .agg #[.int .i64 k3, .int .i64 t3, .string r3.k, .string r3.t, .int .i64 r3.f, .int .i64 r3.e]) (by simp [results, Try.results87, go_sem, Q0, Q1, Q2, Q3, Q4, Q5]) rfl ?_
      exact ⟨k3, t3, r3, rfl, HSH.out, ⟨hk4, htb3, hb3⟩, q4, by omega, by omega, HD.out, HG.out⟩
    · have e2' : (kd == 2) = false := by simpa using e2
      go_upto_region 6 with fail
      obtain ⟨W3, hW3⟩ : ∃ W3, W2 = W3 := ⟨_, rfl⟩
      obtain ⟨r3, hr3⟩ : ∃ r3 : RowV, r2 = r3 := ⟨_, rfl⟩
      have hb3 : 0 ≤ r3.f ∧ r3.f ≤ 100 ∧ 0 ≤ r3.e ∧ r3.e ≤ 100 := by rw [← hr3]; first | exact hb2 | exact hrb
      obtain ⟨k3, hk3⟩ : ∃ k3 : Int, kd = k3 := ⟨_, rfl⟩
      have hk4 : 1 ≤ k3 ∧ k3 ≤ 4 := by omega
      obtain ⟨t3, ht3⟩ : ∃ t3 : Int, t2 = t3 := ⟨_, rfl⟩
      have htb3 : 0 ≤ t3 ∧ t3 ≤ 1 := by omega
      obtain ⟨q4, hq4⟩ : ∃ q4 : Int, q3 = q4 := ⟨_, rfl⟩
      have B4 := Lib.hid B3.out
      rw [hW3, hr3, hk3, ht3, hq4] at B4
      rw [hW3]
      clear hW3 hr3 hk3 ht3 c0 B3
      have TQ : W3.there w.heap.size 0 6 := fun j hj => ⟨B4.out.res.isSome j hj, B4.out.fh _⟩
      refine wp_region_lit ?_
      refine wpList_load_mid rfl 119 _ rfl g 0 rfl (opCells k3 t3 r3) _ B4.out.box Try.underlying119 rfl (by kernel_rfl) ?_
      refine wpList_store_mid rfl 119 _ _ rfl w.heap.size 0 (opCells k3 t3 r3).toArray rfl rfl TQ (by kernel_rfl) (all_oneCell_toArray (opCells_one k3 t3 r3)) ?_
      refine wpList_nil ?_
      have RS := World.rangeAt_setCells_same W3 w.heap.size 0 (opCells k3 t3 r3) TQ
      have HG := Lib.hid (grown_setCells B4.out.wh (opCells k3 t3 r3) 0 W3 B4.out.grown)
      have HD := Lib.hid (rd_setCells B4.out.hR (opCells k3 t3 r3) 0 W3 B4.out.rd)
      have HSH := Lib.hid B4.out.short
      show Exit.then _ _ _ _ (W3.setCells w.heap.size 0 (opCells k3 t3 r3))
      obtain ⟨Z, hZ⟩ : ∃ Z, W3.setCells w.heap.size 0 (opCells k3 t3 r3) = Z := ⟨_, rfl⟩
      rw [hZ] at RS HG HD ⊢
      clear hZ TQ B4
      have Q0 : Z.cell? ⟨w.heap.size, 0, none⟩ = some (.int .i64 k3) := range_at RS 0 rfl
      have Q1 : Z.cell? ⟨w.heap.size, 1, none⟩ = some (.int .i64 t3) := range_at RS 1 rfl
      have Q2 : Z.cell? ⟨w.heap.size, 2, none⟩ = some (.string r3.k) := range_at RS 2 rfl
      have Q3 : Z.cell? ⟨w.heap.size, 3, none⟩ = some (.string r3.t) := range_at RS 3 rfl
      have Q4 : Z.cell? ⟨w.heap.size, 4, none⟩ = some (.int .i64 r3.f) := range_at RS 4 rfl
      have Q5 : Z.cell? ⟨w.heap.size, 5, none⟩ = some (.int .i64 r3.e) := range_at RS 5 rfl
      clear RS
      go_wp2
      refine bodyPost_ret (v := .agg #[.int .i64 k3, .int .i64 t3, .string r3.k, .string r3.t, .int .i64 r3.f, .int .i64 r3.e]) (by simp [results, Try.results87, go_sem, Q0, Q1, Q2, Q3, Q4, Q5]) rfl ?_
      exact ⟨k3, t3, r3, rfl, HSH.out, ⟨hk4, htb3, hb3⟩, q4, by omega, by omega, HD.out, HG.out⟩
  · have e1' : (tb == 1) = false := by simpa using e1
    go_upto_region 4 with fail
    obtain ⟨W2, hW2⟩ : ∃ W2, W1 = W2 := ⟨_, rfl⟩
    obtain ⟨q3, hq3⟩ : ∃ q3, p3 = q3 := ⟨_, rfl⟩
    obtain ⟨r2, hr2⟩ : ∃ r2 : RowV, r = r2 := ⟨_, rfl⟩
    have hb2 : 0 ≤ r2.f ∧ r2.f ≤ 100 ∧ 0 ≤ r2.e ∧ r2.e ≤ 100 := by rw [← hr2]; exact hrb
    obtain ⟨t2, ht2⟩ : ∃ t2 : Int, tb = t2 := ⟨_, rfl⟩
    have htb2 : 0 ≤ t2 ∧ t2 ≤ 1 := by omega
    have B3 := Lib.hid B1.out
    rw [hW2, hq3] at B3
    rw [hr2, ht2] at B3
    rw [hW2]
    have hb3 : p ≤ q3 ∧ q3 ≤ p + 9 := by omega
    clear hW2 hq3 hr2 ht2 B1 c0 c1
    have c0 := range_at B3.out.box 0 rfl
    by_cases e2 : kd = 2
    · subst e2
      have d3 := range_at B3.out.box 3 rfl
      have ff := B3.out.fg
      go_upto_region 6 with fail
      have B4 := Lib.hid (B3.out.set (i := 3) (v := .string ⟨#[]⟩) (k' := 2) (t' := t2) (r' := ⟨r2.k, ⟨#[]⟩, r2.f, r2.e⟩) (by omega) rfl ⟨B3.out.short.1, by simp [ByteArray.size]⟩)
      obtain ⟨W3, hW3⟩ : ∃ W3, W2.setCell ⟨g, 3, none⟩ (.string ⟨#[]⟩) = W3 := ⟨_, rfl⟩
      obtain ⟨r3, hr3⟩ : ∃ r3 : RowV, (⟨r2.k, ⟨#[]⟩, r2.f, r2.e⟩ : RowV) = r3 := ⟨_, rfl⟩
      have hb3 : 0 ≤ r3.f ∧ r3.f ≤ 100 ∧ 0 ≤ r3.e ∧ r3.e ≤ 100 := by rw [← hr3]; first | exact hb2 | exact hrb
      obtain ⟨k3, hk3⟩ : ∃ k3 : Int, 2 = k3 := ⟨_, rfl⟩
      have hk4 : 1 ≤ k3 ∧ k3 ≤ 4 := by omega
      obtain ⟨t3, ht3⟩ : ∃ t3 : Int, t2 = t3 := ⟨_, rfl⟩
      have htb3 : 0 ≤ t3 ∧ t3 ≤ 1 := by omega
      obtain ⟨q4, hq4⟩ : ∃ q4 : Int, q3 = q4 := ⟨_, rfl⟩
      rw [hr3] at B4
      rw [hW3] at B4 ⊢
      rw [hk3, ht3, hq4] at B4
      clear hW3 hr3 hk3 ht3 d3 ff c0 B3
      have TQ : W3.there w.heap.size 0 6 := fun j hj => ⟨B4.out.res.isSome j hj, B4.out.fh _⟩
      refine wp_region_lit ?_
      refine wpList_load_mid rfl 119 _ rfl g 0 rfl (opCells k3 t3 r3) _ B4.out.box Try.underlying119 rfl (by kernel_rfl) ?_
      refine wpList_store_mid rfl 119 _ _ rfl w.heap.size 0 (opCells k3 t3 r3).toArray rfl rfl TQ (by kernel_rfl) (all_oneCell_toArray (opCells_one k3 t3 r3)) ?_
      refine wpList_nil ?_
      have RS := World.rangeAt_setCells_same W3 w.heap.size 0 (opCells k3 t3 r3) TQ
      have HG := Lib.hid (grown_setCells B4.out.wh (opCells k3 t3 r3) 0 W3 B4.out.grown)
      have HD := Lib.hid (rd_setCells B4.out.hR (opCells k3 t3 r3) 0 W3 B4.out.rd)
      have HSH := Lib.hid B4.out.short
      show Exit.then _ _ _ _ (W3.setCells w.heap.size 0 (opCells k3 t3 r3))
      obtain ⟨Z, hZ⟩ : ∃ Z, W3.setCells w.heap.size 0 (opCells k3 t3 r3) = Z := ⟨_, rfl⟩
      rw [hZ] at RS HG HD ⊢
      clear hZ TQ B4
      have Q0 : Z.cell? ⟨w.heap.size, 0, none⟩ = some (.int .i64 k3) := range_at RS 0 rfl
      have Q1 : Z.cell? ⟨w.heap.size, 1, none⟩ = some (.int .i64 t3) := range_at RS 1 rfl
      have Q2 : Z.cell? ⟨w.heap.size, 2, none⟩ = some (.string r3.k) := range_at RS 2 rfl
      have Q3 : Z.cell? ⟨w.heap.size, 3, none⟩ = some (.string r3.t) := range_at RS 3 rfl
      have Q4 : Z.cell? ⟨w.heap.size, 4, none⟩ = some (.int .i64 r3.f) := range_at RS 4 rfl
      have Q5 : Z.cell? ⟨w.heap.size, 5, none⟩ = some (.int .i64 r3.e) := range_at RS 5 rfl
      clear RS
      go_wp2
      refine bodyPost_ret (v := .agg #[.int .i64 k3, .int .i64 t3, .string r3.k, .string r3.t, .int .i64 r3.f, .int .i64 r3.e]) (by simp [results, Try.results87, go_sem, Q0, Q1, Q2, Q3, Q4, Q5]) rfl ?_
      exact ⟨k3, t3, r3, rfl, HSH.out, ⟨hk4, htb3, hb3⟩, q4, by omega, by omega, HD.out, HG.out⟩
    · have e2' : (kd == 2) = false := by simpa using e2
      go_upto_region 6 with fail
      obtain ⟨W3, hW3⟩ : ∃ W3, W2 = W3 := ⟨_, rfl⟩
      obtain ⟨r3, hr3⟩ : ∃ r3 : RowV, r2 = r3 := ⟨_, rfl⟩
      have hb3 : 0 ≤ r3.f ∧ r3.f ≤ 100 ∧ 0 ≤ r3.e ∧ r3.e ≤ 100 := by rw [← hr3]; first | exact hb2 | exact hrb
      obtain ⟨k3, hk3⟩ : ∃ k3 : Int, kd = k3 := ⟨_, rfl⟩
      have hk4 : 1 ≤ k3 ∧ k3 ≤ 4 := by omega
      obtain ⟨t3, ht3⟩ : ∃ t3 : Int, t2 = t3 := ⟨_, rfl⟩
      have htb3 : 0 ≤ t3 ∧ t3 ≤ 1 := by omega
      obtain ⟨q4, hq4⟩ : ∃ q4 : Int, q3 = q4 := ⟨_, rfl⟩
      have B4 := Lib.hid B3.out
      rw [hW3, hr3, hk3, ht3, hq4] at B4
      rw [hW3]
      clear hW3 hr3 hk3 ht3 c0 B3
      have TQ : W3.there w.heap.size 0 6 := fun j hj => ⟨B4.out.res.isSome j hj, B4.out.fh _⟩
      refine wp_region_lit ?_
      refine wpList_load_mid rfl 119 _ rfl g 0 rfl (opCells k3 t3 r3) _ B4.out.box Try.underlying119 rfl (by kernel_rfl) ?_
      refine wpList_store_mid rfl 119 _ _ rfl w.heap.size 0 (opCells k3 t3 r3).toArray rfl rfl TQ (by kernel_rfl) (all_oneCell_toArray (opCells_one k3 t3 r3)) ?_
      refine wpList_nil ?_
      have RS := World.rangeAt_setCells_same W3 w.heap.size 0 (opCells k3 t3 r3) TQ
      have HG := Lib.hid (grown_setCells B4.out.wh (opCells k3 t3 r3) 0 W3 B4.out.grown)
      have HD := Lib.hid (rd_setCells B4.out.hR (opCells k3 t3 r3) 0 W3 B4.out.rd)
      have HSH := Lib.hid B4.out.short
      show Exit.then _ _ _ _ (W3.setCells w.heap.size 0 (opCells k3 t3 r3))
      obtain ⟨Z, hZ⟩ : ∃ Z, W3.setCells w.heap.size 0 (opCells k3 t3 r3) = Z := ⟨_, rfl⟩
      rw [hZ] at RS HG HD ⊢
      clear hZ TQ B4
      have Q0 : Z.cell? ⟨w.heap.size, 0, none⟩ = some (.int .i64 k3) := range_at RS 0 rfl
      have Q1 : Z.cell? ⟨w.heap.size, 1, none⟩ = some (.int .i64 t3) := range_at RS 1 rfl
      have Q2 : Z.cell? ⟨w.heap.size, 2, none⟩ = some (.string r3.k) := range_at RS 2 rfl
      have Q3 : Z.cell? ⟨w.heap.size, 3, none⟩ = some (.string r3.t) := range_at RS 3 rfl
      have Q4 : Z.cell? ⟨w.heap.size, 4, none⟩ = some (.int .i64 r3.f) := range_at RS 4 rfl
      have Q5 : Z.cell? ⟨w.heap.size, 5, none⟩ = some (.int .i64 r3.e) := range_at RS 5 rfl
      clear RS
      go_wp2
      refine bodyPost_ret (v := .agg #[.int .i64 k3, .int .i64 t3, .string r3.k, .string r3.t, .int .i64 r3.f, .int .i64 r3.e]) (by simp [results, Try.results87, go_sem, Q0, Q1, Q2, Q3, Q4, Q5]) rfl ?_
      exact ⟨k3, t3, r3, rfl, HSH.out, ⟨hk4, htb3, hb3⟩, q4, by omega, by omega, HD.out, HG.out⟩
theorem l20Op_any (R : Nat) (bs : List Int) (p : Int) (w : World) (h : Rd w R bs p) (hp0 : 0 ≤ p) (hp1 : p ≤ 600000) :
    Calls Try.prog 87 #[.pointer (some ⟨R, 0, none⟩)] w (DrawnOp w R bs p 10) :=
  (l20OpK_any R bs p w h hp0 hp1).mono fun _ _ ⟨k, t, r, h1, h2, _, h3⟩ => ⟨k, t, r, h1, h2, h3⟩

/-- What is drawn to be done. -/
def DrawnOO (w : World) (e : Ending) (w' : World) : Prop :=
  ∃ (k t : Int) (r : RowV), e = .returned (.agg #[.int .i64 k, .int .i64 t, .string r.k, .string r.t, .int .i64 r.f, .int .i64 r.e]) ∧ (r.k.size ≤ maxLen ∧ r.t.size ≤ maxLen) ∧ Below w.heap.size w w'
end Go.Proofs.Ytmfpojminbkojaa
