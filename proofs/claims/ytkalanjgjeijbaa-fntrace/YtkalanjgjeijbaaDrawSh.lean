/-
  Walks: what is drawn of a code: a store, and two more things.
-/
import Derived.Test.YtkalanjgjeijbaaDrawSb
import Derived.Deep.MidRow
import Derived.Laws.IdiomCopy
import Derived.Test.YtkalanjgjeijbaaDrawC
namespace Go.Proofs.Ytkalanjgjeijbaa
open Go.Shelf Go.RowKit Go.Lib Go.Sort

/-- A drawn store, and the reader further. -/
def DrawnSto (w : World) (R : Nat) (bs : List Int) (p c : Int) (e : Ending) (w' : World) : Prop :=
  ∃ (zs : List VerV) (now : Int) (A : Option Addr) (cap : Nat), e = .returned (.agg #[.int .i64 now, .slice A zs.length cap]) ∧ zs.length ≤ 120 ∧ ShortV zs ∧ (-1 ≤ now ∧ now ≤ 31) ∧ w'.ownsRow w.heap.size 62 6 (.slice A zs.length cap) zs.length (flatOf verC zs) ∧
    ∃ p', p ≤ p' ∧ p' ≤ p + c ∧ Rd w' R bs p' ∧ w.grownBy w' (some R)
theorem cellSetOff {w : World} {g i j : Nat} {u v : Value} (h : w.cell? ⟨g, j, none⟩ = some v) (hne : i ≠ j) : (w.setCell ⟨g, i, none⟩ u).cell? ⟨g, j, none⟩ = some v :=
  (World.cell?_setCell_other w ⟨g, i, none⟩ ⟨g, j, none⟩ u (by first | exact fun e => hne (congrArg Addr.off e) | exact fun e => hne (congrArg Addr.off e).symm)).trans h
theorem frSet {w : World} {a b : Addr} {u : Value} (h : w.frozen? b = false) : (w.setCell a u).frozen? b = false := (World.frozen?_setCell ..).trans h
theorem set_same {l : List Value} {i : Nat} {v : Value} (h : l[i]? = some v) : l.set i v = l := by
  obtain ⟨hi, e⟩ := List.getElem?_eq_some_iff.1 h
  rw [← e]; exact List.set_getElem_self hi
theorem step_store_mid {P : Program} (w : World) {ops : Array Oper} {o : Oper} {a : Act} {K : Act → World → Prop} {Q : Exit → Act → World → Prop} {E : Prop} (hgd : o.guard = none) (ty : TypeId) (x y : Operand) (ho : o.op = .store ty x y)
    (b f : Nat) (cells : Array Value) (hx : a.eval x = .pointer (some ⟨b, f, none⟩)) (hy : a.eval y = .agg cells) (ht : w.there b f cells.size) (hi : (P.info? ty).map (·.size) = some cells.size) (h1 : cells.all (·.oneCell') = true)
    (h : K (a.put o.dst undef) (w.setCells b f cells.toList)) : if Region.wanted o (yielded ops a.tmps) = true then Oper.wp P o a w K Q else E := by
  rw [if_pos (by simp [Region.wanted, hgd])]
  exact wp_store_mid ty x y ho b f cells hx hy ht hi h1 h
theorem ver_cell {w : World} {base g cap : Nat} {zs : List VerV} {k : Nat} (h : w.ownsRow base 62 6 (.slice (some ⟨g, 0, none⟩) zs.length cap) zs.length (flatOf verC zs)) (hk : k < zs.length) (j : Nat) (hj : j < 6) : w.cell? ⟨g, k * 6 + j, none⟩ = (verC zs[k])[j]? := by
  have := h.cellAt (k * 6 + j) (by omega)
  rw [flatOf_get verC_len zs k _ j (List.getElem?_eq_getElem hk) hj] at this
  exact this
theorem ver_cellx {w : World} {base g cap : Nat} {zs : List VerV} {k : Nat} {x : VerV} (h : w.ownsRow base 62 6 (.slice (some ⟨g, 0, none⟩) zs.length cap) zs.length (flatOf verC zs)) (hx : zs[k]? = some x) (j : Nat) (hj : j < 6) : w.cell? ⟨g, k * 6 + j, none⟩ = (verC x)[j]? := by
  obtain ⟨hk, rfl⟩ := List.getElem?_eq_some_iff.1 hx
  exact ver_cell h hk j hj
theorem there_row {w : World} {base g cap : Nat} {zs : List VerV} {k : Nat} (h : w.ownsRow base 62 6 (.slice (some ⟨g, 0, none⟩) zs.length cap) zs.length (flatOf verC zs)) (hk : k < zs.length) : w.there g (k * 6) 4 := fun j hj =>
  ⟨by
    rw [ver_cell h hk j (by omega)]
    match j, hj with
    | 0, _ => rfl
    | 1, _ => rfl
    | 2, _ => rfl
    | 3, _ => rfl, by simpa using h.frozenAt (k * 6 + j)⟩
theorem ver_out5 {w : World} {base g cap : Nat} {zs : List VerV} {k : Nat} (h : w.ownsRow base 62 6 (.slice (some ⟨g, 0, none⟩) zs.length cap) zs.length (flatOf verC zs)) (hk : k < zs.length) : w.cell? ⟨g, k * 6 + 5, none⟩ = some (.int .i64 zs[k].o) := ver_cell h hk 5 (by omega)
theorem flat_at {zs : List VerV} {k : Nat} (hk : k < zs.length) (j : Nat) (hj : j < 6) : (flatOf verC zs)[k * 6 + j]? = (verC zs[k])[j]? := flatOf_get verC_len zs k _ j (List.getElem?_eq_getElem hk) hj
theorem owns_row_set {w : World} {base g cap : Nat} {zs : List VerV} {k : Nat} (r : RowV) (h : w.ownsRow base 62 6 (.slice (some ⟨g, 0, none⟩) zs.length cap) zs.length (flatOf verC zs)) (hk : k < zs.length) :
    ((((w.setCell ⟨g, k * 6, none⟩ (.string r.k)).setCell ⟨g, k * 6 + 1, none⟩ (.string r.t)).setCell ⟨g, k * 6 + 2, none⟩ (.int .i64 r.f)).setCell ⟨g, k * 6 + 3, none⟩ (.int .i64 r.e)).ownsRow base 62 6 (.slice (some ⟨g, 0, none⟩) zs.length cap) zs.length (flatOf verC (zs.set k ⟨r, zs[k].i, zs[k].o⟩)) := by
  have s1 := (h.stored (k * 6) (.string r.k)).1
  have s2 := (s1.stored (k * 6 + 1) (.string r.t)).1
  have s3 := (s2.stored (k * 6 + 2) (.int .i64 r.f)).1
  have s4 := (s3.stored (k * 6 + 3) (.int .i64 r.e)).1
  have es : ((((((flatOf verC zs).set (k * 6) (.string r.k)).set (k * 6 + 1) (.string r.t)).set (k * 6 + 2) (.int .i64 r.f)).set (k * 6 + 3) (.int .i64 r.e)).set (k * 6 + 4) (.int .i64 zs[k].i)).set (k * 6 + 5) (.int .i64 zs[k].o) = flatOf verC (zs.set k ⟨r, zs[k].i, zs[k].o⟩) := flatOf_set verC_len ⟨r, zs[k].i, zs[k].o⟩ zs k hk
  have e4 := flat_at hk 4 (by omega)
  have e5 := flat_at hk 5 (by omega)
  rw [set_same (v := .int .i64 zs[k].i) (by
    rw [List.getElem?_set_ne (by omega), List.getElem?_set_ne (by omega), List.getElem?_set_ne (by omega), List.getElem?_set_ne (by omega)]; exact e4), set_same (v := .int .i64 zs[k].o) (by
    rw [List.getElem?_set_ne (by omega), List.getElem?_set_ne (by omega), List.getElem?_set_ne (by omega), List.getElem?_set_ne (by omega)]; exact e5)] at es
  rw [es] at s4
  exact s4
theorem row_far {w : World} {g o1 o2 o3 o4 b o : Nat} {u1 u2 u3 u4 : Value} (hb : b ≠ g) : ((((w.setCell ⟨g, o1, none⟩ u1).setCell ⟨g, o2, none⟩ u2).setCell ⟨g, o3, none⟩ u3).setCell ⟨g, o4, none⟩ u4).cell? ⟨b, o, none⟩ = w.cell? ⟨b, o, none⟩ := by
  have one : ∀ (W : World) (i : Nat) (u : Value), (W.setCell ⟨g, i, none⟩ u).cell? ⟨b, o, none⟩ = W.cell? ⟨b, o, none⟩ := fun W i u => World.cell?_setCell_other W ⟨g, i, none⟩ ⟨b, o, none⟩ u (fun e => hb (by injection e with e; exact e.symm))
  rw [one, one, one, one]
theorem row_frozen {w : World} {g o1 o2 o3 o4 b o : Nat} {u1 u2 u3 u4 : Value} : ((((w.setCell ⟨g, o1, none⟩ u1).setCell ⟨g, o2, none⟩ u2).setCell ⟨g, o3, none⟩ u3).setCell ⟨g, o4, none⟩ u4).frozen? ⟨b, o, none⟩ = w.frozen? ⟨b, o, none⟩ := by
  rw [World.frozen?_setCell, World.frozen?_setCell, World.frozen?_setCell, World.frozen?_setCell]
theorem owns_out_set {w : World} {base g cap : Nat} {zs : List VerV} {k : Nat} (u : Int) (h : w.ownsRow base 62 6 (.slice (some ⟨g, 0, none⟩) zs.length cap) zs.length (flatOf verC zs)) (hk : k < zs.length) :
    (w.setCell ⟨g, k * 6 + 5, none⟩ (.int .i64 u)).ownsRow base 62 6 (.slice (some ⟨g, 0, none⟩) zs.length cap) zs.length (flatOf verC (zs.set k ⟨zs[k].r, zs[k].i, u⟩)) := by
  have s1 := (h.stored (k * 6 + 5) (.int .i64 u)).1
  have es : ((((((flatOf verC zs).set (k * 6) (.string zs[k].r.k)).set (k * 6 + 1) (.string zs[k].r.t)).set (k * 6 + 2) (.int .i64 zs[k].r.f)).set (k * 6 + 3) (.int .i64 zs[k].r.e)).set (k * 6 + 4) (.int .i64 zs[k].i)).set (k * 6 + 5) (.int .i64 u) = flatOf verC (zs.set k ⟨zs[k].r, zs[k].i, u⟩) := flatOf_set verC_len ⟨zs[k].r, zs[k].i, u⟩ zs k hk
  have e0 := flat_at hk 0 (by omega)
  rw [set_same (i := k * 6) (v := .string zs[k].r.k) e0, set_same (v := .string zs[k].r.t) (flat_at hk 1 (by omega)), set_same (v := .int .i64 zs[k].r.f) (flat_at hk 2 (by omega)), set_same (v := .int .i64 zs[k].r.e) (flat_at hk 3 (by omega)), set_same (v := .int .i64 zs[k].i) (flat_at hk 4 (by omega))] at es
  rw [es] at s1
  exact s1
theorem owns_setK {w : World} {base n m cap g G i : Nat} {u : Value} {xs : List Value} {t : TypeId} {k : Nat} (h : w.ownsRow base t k (.slice (some ⟨g, 0, none⟩) m cap) n xs) (hg : g ≠ G) : (w.setCell ⟨G, i, none⟩ u).ownsRow base t k (.slice (some ⟨g, 0, none⟩) m cap) n xs :=
  h.kept (grown_setAtV w G i u) (.inr (fun e => hg (by injection e with e)))
theorem shortV_set {zs : List VerV} {x : VerV} {k : Nat} (h : ShortV zs) (hx : x.r.k.size ≤ maxLen ∧ x.r.t.size ≤ maxLen) : ShortV (zs.set k x) := fun y hy => by
  rcases List.mem_or_eq_of_mem_set hy with h' | rfl
  · exact h y h'
  · exact hx

set_option maxRecDepth 100000 in
set_option maxHeartbeats 8000000 in
theorem l20AnyStore_any (R : Nat) (bs : List Int) (p : Int) (w : World) (h : Rd w R bs p) (hp0 : 0 ≤ p) (hp1 : p ≤ 500000) :
    Calls Try.prog 20 #[.pointer (some ⟨R, 0, none⟩)] w (DrawnSto w R bs p 300) := by
  have hR := h.lt
  go_enter Try.func20, Try.ntmps20
  go_wp2_with fail
  have hrd0 := rd_alloc h (.cells #[.int .i64 0, .slice none 0 0] 25)
  have g0 := grown_alloc (grown_refl w (some R)) (.cells #[.int .i64 0, .slice none 0 0] 25)
  generalize hW : w.alloc _ = W0 at *
  have r0 : W0.cell? ⟨w.heap.size, 0, none⟩ = some (.int .i64 0) := by rw [← hW]; simp [go_sem]
  have r1 : W0.cell? ⟨w.heap.size, 1, none⟩ = some (.slice none 0 0) := by rw [← hW]; simp [go_sem]
  have rf : ∀ o, W0.frozen? ⟨w.heap.size, o, none⟩ = false := fun o => by rw [← hW]; simp [go_sem]
  have z0 : W0.heap.size = w.heap.size + 1 := by rw [← hW]; simp
  have hne : w.heap.size ≠ R := by omega
  clear hW h
  refine (l20Store_any R bs p W0 hrd0 hp0 (by omega)).mono ?_
  rintro e w1 ⟨zs, now, A, cap, rfl, hsb, ho, p1, hp1a, hp1b, hrd1, hgr1⟩
  replace r0 := grown_cell hgr1 hne r0
  replace r1 := grown_cell hgr1 hne r1
  replace rf : ∀ o, w1.frozen? ⟨w.heap.size, o, none⟩ = false := fun o => ((gcell hgr1).2 _ o (by omega) hne).trans (rf o)
  have g1 := grown_trans g0 hgr1
  have z1 : w.heap.size + 1 ≤ w1.heap.size := by have := hgr1.size; omega
  have hzl : zs.length ≤ 120 := versB_len (storeB_iff.1 hsb).2.1
  have hnow := (storeB_iff.1 hsb).1
  have HS := Lib.hid (store_short hsb)
  have O1 := Lib.hid (ownsBase (base' := w.heap.size + 1) ho (by omega))
  clear hgr1 hrd0 g0 hsb ho z0
  by_cases hn : 0 < zs.length
  · obtain ⟨g, c, e0, hgb, hgl⟩ := ownsForm O1.out (fun e => by injection e with _ e; omega)
    injection e0 with e0 _ e2
    subst e0 e2
    have hi' : (0 : Int) < (zs.length : Int) := by omega
    have hRg : R < g := by omega
    go_wp2_with fail
    have hrdB := rd_alloc hrd1 (.cells #[.int .i64 now, .slice (some ⟨g, 0, none⟩) zs.length cap] 25)
    have gB := grown_alloc g1 (.cells #[.int .i64 now, .slice (some ⟨g, 0, none⟩) zs.length cap] 25)
    have OB := O1.out.alloc (.cells #[.int .i64 now, .slice (some ⟨g, 0, none⟩) zs.length cap] 25)
    generalize hW : w1.alloc _ = W1 at *
    have k0 : W1.cell? ⟨w1.heap.size, 0, none⟩ = some (.int .i64 now) := by rw [← hW]; simp [go_sem]
    have k1 : W1.cell? ⟨w1.heap.size, 1, none⟩ = some (.slice (some ⟨g, 0, none⟩) zs.length cap) := by rw [← hW]; simp [go_sem]
    have kf : ∀ o, W1.frozen? ⟨w1.heap.size, o, none⟩ = false := fun o => by rw [← hW]; simp [go_sem]
    have zB : w1.heap.size < W1.heap.size := by rw [← hW]; simp
    have bB : Below w1.heap.size w1 W1 := by rw [← hW]; exact (Below.refl _ _).alloc (Nat.le_refl _) _
    replace r0 := cellBelow bB (by omega) r0
    replace r1 := cellBelow bB (by omega) r1
    replace rf : ∀ o, W1.frozen? ⟨w.heap.size, o, none⟩ = false := fun o => ((bcell bB).2 _ o (by omega)).trans (rf o)
    obtain ⟨GB, hGB⟩ : ∃ GB, w1.heap.size = GB := ⟨_, rfl⟩
    rw [hGB] at k0 k1 kf zB hgl z1
    rw [hGB]
    have hGR : GB ≠ R := by omega
    have hGg : GB ≠ g := by omega
    have hgG : g ≠ GB := by omega
    have hwG : w.heap.size ≠ GB := by omega
    have hGw : GB ≠ w.heap.size := by omega
    have hwg : w.heap.size ≠ g := by omega
    have hgw : g ≠ w.heap.size := by omega
    have hGle : w.heap.size ≤ GB := by omega
    have hgle : w.heap.size ≤ g := by omega
    have hRG : R < GB := by omega
    clear hW bB hrd1 g1 O1 hGB
    refine (pick_any R bs p1 _ _ hrdB (by omega) (by omega) (by omega) (by omega)).mono ?_
    rintro e w2 ⟨v, rfl, v0, v1, hrd2, hgr2⟩
    obtain ⟨k, rfl⟩ := Int.eq_ofNat_of_zero_le v0
    have hk : k < zs.length := by omega
    have O2 := Lib.hid (OB.kept hgr2 (owns_notR OB (by omega)))
    have g2 := grown_trans gB hgr2
    have z2 := hgr2.size
    replace r0 := grown_cell hgr2 hne r0
    replace r1 := grown_cell hgr2 hne r1
    replace rf : ∀ o, w2.frozen? ⟨w.heap.size, o, none⟩ = false := fun o => ((gcell hgr2).2 _ o (by omega) hne).trans (rf o)
    replace k0 := grown_cell hgr2 hGR k0
    replace k1 := grown_cell hgr2 hGR k1
    replace kf : ∀ o, w2.frozen? ⟨GB, o, none⟩ = false := fun o => ((gcell hgr2).2 _ o zB hGR).trans (kf o)
    clear hgr2 hrdB gB OB
    go_wp2_with fail
    refine (pick_any R bs (p1 + 1) _ _ hrd2 (by omega) (by omega) (by omega) (by omega)).mono ?_
    rintro e w3 ⟨v, rfl, u0, u1, hrd3, hgr3⟩
    have O3 := Lib.hid (O2.out.kept hgr3 (owns_notR O2.out (by omega)))
    have G3 := Lib.hid (grown_trans g2 hgr3)
    have R3 := Lib.hid hrd3
    have z3 := hgr3.size
    have zG : GB < w3.heap.size := by omega
    have zg : g < w3.heap.size := by omega
    have zw : w.heap.size < w3.heap.size := by omega
    replace r0 := grown_cell hgr3 hne r0
    replace r1 := grown_cell hgr3 hne r1
    replace rf : ∀ o, w3.frozen? ⟨w.heap.size, o, none⟩ = false := fun o => ((gcell hgr3).2 _ o (by omega) hne).trans (rf o)
    replace k0 := grown_cell hgr3 hGR k0
    replace k1 := grown_cell hgr3 hGR k1
    replace kf : ∀ o, w3.frozen? ⟨GB, o, none⟩ = false := fun o => ((gcell hgr3).2 _ o (by omega) hGR).trans (kf o)
    have hkz : (k : Int) < (zs.length : Int) := by omega
    have hkz0 : (0 : Int) ≤ (k : Int) := by omega
    clear g2 hgr3 hrd2 hrd3 O2 z2 z3 zB
    by_cases e0 : v = 0
    · subst e0
      obtain ⟨x, hxk⟩ : ∃ x, zs[k]? = some x := ⟨_, List.getElem?_eq_getElem hk⟩
      have hrdA : Rd w3.drew R bs (p1 + 1 + 1) := R3.out
      have k1A : w3.drew.cell? ⟨GB, 1, none⟩ = some (.slice (some ⟨g, 0, none⟩) zs.length cap) := k1
      go_upto_region 6 with fail
      go_region_held3 (fun w' => w'.cell? ⟨GB, 1, none⟩ = some (.slice (some ⟨g, 0, none⟩) zs.length cap))
        (first | with_reducible exact k1A | with_reducible exact k1 | with_reducible exact k4 | with_reducible assumption | (repeat (first | with_reducible exact k4 | with_reducible refine cell_set_far hGg ?_)))
        (first
          | (go_at_call 38; refine (l20AnyRow_any R bs (p1 + 1 + 1) _ hrdA (by omega) (by omega)).mono ?_; rintro e w4 ⟨r, rfl, hr, p4, hp4a, hp4b, hrd4, hgr4⟩; have gw : w3.grownBy w4 (some R) := ⟨hgr4.os, hgr4.tape, hgr4.output, hgr4.size, hgr4.block⟩; have O4 := Lib.hid (O3.out.kept gw (owns_notR O3.out (by omega))); have k4 := grown_cell gw hGR k1; have fr : (∀ j, w4.frozen? ⟨g, j, none⟩ = false) := (fun j => by simpa using O4.out.frozenAt j); have c0 : w4.cell? ⟨g, k * 6, none⟩ = some (.string x.r.k) := ver_cellx O4.out hxk 0 (by omega); have c1 : w4.cell? ⟨g, k * 6 + 1, none⟩ = some (.string x.r.t) := ver_cellx O4.out hxk 1 (by omega); have c2 : w4.cell? ⟨g, k * 6 + 2, none⟩ = some (.int .i64 x.r.f) := ver_cellx O4.out hxk 2 (by omega); have c3 : w4.cell? ⟨g, k * 6 + 3, none⟩ = some (.int .i64 x.r.e) := ver_cellx O4.out hxk 3 (by omega); have c1a := cellSetOff (i := k * 6) (u := .string r.k) c1 (by omega); have f1a := frSet (a := ⟨g, k * 6, none⟩) (u := .string r.k) (fr (k * 6 + 1)); have c2a := cellSetOff (i := k * 6 + 1) (u := .string r.t) (cellSetOff (i := k * 6) (u := .string r.k) c2 (by omega)) (by omega); have f2a := frSet (a := ⟨g, k * 6 + 1, none⟩) (u := .string r.t) (frSet (a := ⟨g, k * 6, none⟩) (u := .string r.k) (fr (k * 6 + 2))); have c3a := cellSetOff (i := k * 6 + 2) (u := .int .i64 r.f) (cellSetOff (i := k * 6 + 1) (u := .string r.t) (cellSetOff (i := k * 6) (u := .string r.k) c3 (by omega)) (by omega)) (by omega); have f3a := frSet (a := ⟨g, k * 6 + 2, none⟩) (u := .int .i64 r.f) (frSet (a := ⟨g, k * 6 + 1, none⟩) (u := .string r.t) (frSet (a := ⟨g, k * 6, none⟩) (u := .string r.k) (fr (k * 6 + 3))))))
      have O5 := Lib.hid (owns_row_set r O4.out hk)
      have b5 : ∀ b o, b ≠ g → ((((w4.setCell ⟨g, k * 6, none⟩ (.string r.k)).setCell ⟨g, k * 6 + 1, none⟩ (.string r.t)).setCell ⟨g, k * 6 + 2, none⟩ (.int .i64 r.f)).setCell ⟨g, k * 6 + 3, none⟩ (.int .i64 r.e)).cell? ⟨b, o, none⟩ = w4.cell? ⟨b, o, none⟩ := fun b o hb => row_far hb
      have f5 : ∀ b o, ((((w4.setCell ⟨g, k * 6, none⟩ (.string r.k)).setCell ⟨g, k * 6 + 1, none⟩ (.string r.t)).setCell ⟨g, k * 6 + 2, none⟩ (.int .i64 r.f)).setCell ⟨g, k * 6 + 3, none⟩ (.int .i64 r.e)).frozen? ⟨b, o, none⟩ = w4.frozen? ⟨b, o, none⟩ := fun b o => row_frozen
      have R5 := Lib.hid (rd_set (rd_set (rd_set (rd_set hrd4 hRg (.string r.k) (i := k * 6)) hRg (.string r.t) (i := k * 6 + 1)) hRg (.int .i64 r.f) (i := k * 6 + 2)) hRg (.int .i64 r.e) (i := k * 6 + 3))
      have G5 := Lib.hid (grown_set_new (grown_set_new (grown_set_new (grown_set_new (grown_trans G3.out gw) hgle (.string r.k) (i := k * 6)) hgle (.string r.t) (i := k * 6 + 1)) hgle (.int .i64 r.f) (i := k * 6 + 2)) hgle (.int .i64 r.e) (i := k * 6 + 3))
      have HRr := Lib.hid (short20 hr)
      replace r0 := (b5 w.heap.size 0 hwg).trans (grown_cell gw hne r0)
      replace r1 := (b5 w.heap.size 1 hwg).trans (grown_cell gw hne r1)
      replace rf : ∀ o, ((((w4.setCell ⟨g, k * 6, none⟩ (.string r.k)).setCell ⟨g, k * 6 + 1, none⟩ (.string r.t)).setCell ⟨g, k * 6 + 2, none⟩ (.int .i64 r.f)).setCell ⟨g, k * 6 + 3, none⟩ (.int .i64 r.e)).frozen? ⟨w.heap.size, o, none⟩ = false := fun o => (f5 _ o).trans (((gcell gw).2 _ o zw hne).trans (rf o))
      replace k0 := (b5 GB 0 hGg).trans (grown_cell gw hGR k0)
      replace k1 := (b5 GB 1 hGg).trans k4
      clear c0 c1 c2 c3 c1a c2a c3a f1a f2a f3a fr b5 f5 gw hrd4 hgr4 O4 k4 hrdA k1A R3 G3 O3
      generalize ((((w4.setCell ⟨g, k * 6, none⟩ (.string r.k)).setCell ⟨g, k * 6 + 1, none⟩ (.string r.t)).setCell ⟨g, k * 6 + 2, none⟩ (.int .i64 r.f)).setCell ⟨g, k * 6 + 3, none⟩ (.int .i64 r.e)) = W5 at *
      go_wp2
      refine bodyPost_ret (v := .agg #[.int .i64 now, .slice (some ⟨g, 0, none⟩) zs.length cap]) (by simp [results, Try.results20, go_sem, r0, r1]) rfl ?_
      refine ⟨zs.set k ⟨r, zs[k].i, zs[k].o⟩, now, some ⟨g, 0, none⟩, cap, (by first | (rw [List.length_set]; done) | (rw [List.length_set]; rfl)), by rw [List.length_set]; exact hzl, shortV_set HS.out HRr.out, by omega, ?_, p4, by omega, by omega, ?_, ?_⟩
      · rw [List.length_set]; exact ownsBase (base := w.heap.size + 1) (owns_set_farV (owns_set_farV O5.out (by omega)) (by omega)) (by omega)
      · repeat (first | exact R5.out | refine rd_set ?_ hR _)
      · repeat (first | exact G5.out | refine grown_set_new ?_ (Nat.le_refl _) _)
    by_cases e1 : v = 1
    · subst e1
      have hx1 : w3.heap.size ≠ R := by omega
      have hrdA : Rd (w3.alloc (.cells #[.int .i64 0, .int .i64 1, .int .i64 998, .int .i64 3] 3)).drew R bs (p1 + 1 + 1) := rd_alloc R3.out _
      have k1A : w3.drew.cell? ⟨GB, 1, none⟩ = some (.slice (some ⟨g, 0, none⟩) zs.length cap) := k1
      have k1B : (w3.alloc (.cells #[.int .i64 0, .int .i64 1, .int .i64 998, .int .i64 3] 3)).drew.cell? ⟨GB, 1, none⟩ = some (.slice (some ⟨g, 0, none⟩) zs.length cap) := cell_alloc_far k1
      go_upto_region 8 with fail
      go_region_held3 (fun w' => w'.cell? ⟨GB, 1, none⟩ = some (.slice (some ⟨g, 0, none⟩) zs.length cap))
        (first | with_reducible exact k1A | with_reducible exact k1B | with_reducible exact k1 | with_reducible exact k4 | with_reducible assumption | (repeat (first | with_reducible exact k4 | with_reducible refine cell_set_far hGg ?_)))
        (first
          | (go_at_call 39; refine (one_any R w3.heap.size 4 bs [0, 1, 998, 3] (p1 + 1 + 1) _ hrdA (by omega) (by omega) (by simp) (by simp) hx1 (by
              intro i hi
              match i, hi with
              | 0, _ => first | (simp; done) | (simp [go_sem]; done)
              | 1, _ => first | (simp; done) | (simp [go_sem]; done)
              | 2, _ => first | (simp; done) | (simp [go_sem]; done)
              | 3, _ => first | (simp; done) | (simp [go_sem]; done))).mono ?_; rintro e w4 ⟨n, rfl, hn4, hrd4, hgr4⟩; have gw : w3.grownBy w4 (some R) := grown_trans (grown_alloc (grown_refl w3 (some R)) (.cells #[.int .i64 0, .int .i64 1, .int .i64 998, .int .i64 3] 3)) ⟨hgr4.os, hgr4.tape, hgr4.output, hgr4.size, hgr4.block⟩; have O4 := Lib.hid (O3.out.kept gw (owns_notR O3.out (by omega))); have k4 := grown_cell gw hGR k1; have c5 := ver_out5 O4.out hk; have fr5 := O4.out.frozenAt (k * 6 + 5)))
      have O5 := Lib.hid (owns_out_set n O4.out hk)
      have R5 := Lib.hid (rd_set hrd4 hRg (.int .i64 n) (i := k * 6 + 5))
      have G5 := Lib.hid (grown_set_new (grown_trans G3.out gw) hgle (.int .i64 n) (i := k * 6 + 5))
      replace r0 := cell_set_far (u := .int .i64 n) (i := k * 6 + 5) hwg (grown_cell gw hne r0)
      replace r1 := cell_set_far (u := .int .i64 n) (i := k * 6 + 5) hwg (grown_cell gw hne r1)
      replace rf : ∀ o, (w4.setCell ⟨g, k * 6 + 5, none⟩ (.int .i64 n)).frozen? ⟨w.heap.size, o, none⟩ = false := fun o => frSet (((gcell gw).2 _ o zw hne).trans (rf o))
      replace k0 := cell_set_far (u := .int .i64 n) (i := k * 6 + 5) hGg (grown_cell gw hGR k0)
      replace k1 := cell_set_far (u := .int .i64 n) (i := k * 6 + 5) hGg k4
      have HX := Lib.hid (HS.out zs[k] (List.getElem_mem hk))
      clear gw hrd4 hgr4 O4 k4 hrdA k1A k1B R3 G3 O3 c5 fr5
      generalize w4.setCell ⟨g, k * 6 + 5, none⟩ (.int .i64 n) = W5 at *
      go_wp2
      refine bodyPost_ret (v := .agg #[.int .i64 now, .slice (some ⟨g, 0, none⟩) zs.length cap]) (by simp [results, Try.results20, go_sem, r0, r1]) rfl ?_
      refine ⟨zs.set k ⟨zs[k].r, zs[k].i, n⟩, now, some ⟨g, 0, none⟩, cap, (by first | (rw [List.length_set]; done) | (rw [List.length_set]; rfl)), by rw [List.length_set]; exact hzl, shortV_set HS.out HX.out, by omega, ?_, p1 + 1 + 1 + 1, by omega, by omega, ?_, ?_⟩
      · rw [List.length_set]; exact ownsBase (base := w.heap.size + 1) (owns_set_farV (owns_set_farV O5.out (by omega)) (by omega)) (by omega)
      · repeat (first | exact R5.out | refine rd_set ?_ hR _)
      · repeat (first | exact G5.out | refine grown_set_new ?_ (Nat.le_refl _) _)
    by_cases e2 : v = 2
    · subst e2
      have hx1 : w3.heap.size ≠ R := by omega
      have hrd4 := rd_alloc R3.out (.cells #[.int .i64 (-1), .int .i64 31, .int .i64 0, .int .i64 30] 3)
      have z4 : w3.heap.size < (w3.alloc (.cells #[.int .i64 (-1), .int .i64 31, .int .i64 0, .int .i64 30] 3)).heap.size := by simp
      go_wp2_with fail
      refine (one_any R w3.heap.size 4 bs [-1, 31, 0, 30] _ _ hrd4 (by omega) (by omega) (by simp) (by simp) hx1 (by
        intro i hi
        match i, hi with
        | 0, _ => first | (simp; done) | (simp [go_sem]; done)
        | 1, _ => first | (simp; done) | (simp [go_sem]; done)
        | 2, _ => first | (simp; done) | (simp [go_sem]; done)
        | 3, _ => first | (simp; done) | (simp [go_sem]; done))).mono ?_
      rintro e w4 ⟨n, rfl, hn4, hrd5, hgr5⟩
      have hn5 : -1 ≤ n ∧ n ≤ 31 := by
        simp at hn4
        omega
      have gA := grown_trans (grown_alloc (grown_refl w3 (some R)) (.cells #[.int .i64 (-1), .int .i64 31, .int .i64 0, .int .i64 30] 3)) hgr5
      have O4 := Lib.hid (O3.out.kept gA (owns_notR O3.out (by omega)))
      have G4 := Lib.hid (grown_trans G3.out gA)
      have R4 := Lib.hid hrd5
      replace r0 := grown_cell gA hne r0
      replace r1 := grown_cell gA hne r1
      replace rf : ∀ o, w4.frozen? ⟨w.heap.size, o, none⟩ = false := fun o => ((gcell gA).2 _ o zw hne).trans (rf o)
      replace k0 := grown_cell gA hGR k0
      replace k1 := grown_cell gA hGR k1
      replace kf : ∀ o, w4.frozen? ⟨GB, o, none⟩ = false := fun o => ((gcell gA).2 _ o zG hGR).trans (kf o)
      clear gA hgr5 hrd5 O3 G3 R3 hrd4 hn4
      go_wp2
      refine bodyPost_ret (v := .agg #[.int .i64 n, .slice (some ⟨g, 0, none⟩) zs.length cap]) (by simp [results, Try.results20, go_sem, r0, r1]) rfl ?_
      refine ⟨zs, n, some ⟨g, 0, none⟩, cap, rfl, hzl, HS.out, hn5, ?_, p1 + 1 + 1 + 1, by omega, by omega, ?_, ?_⟩
      · have := O4.out
        exact ownsBase (base := w.heap.size + 1) (owns_set_farV (owns_set_farV (owns_setK O4.out hgG) (by omega)) (by omega)) (by omega)
      · repeat (first | exact R4.out | refine rd_set ?_ hR _ | refine rd_set ?_ hRG _)
      · repeat (first | exact G4.out | refine grown_set_new ?_ (Nat.le_refl _) _ | refine grown_set_new ?_ hGle _)
    · have d0 : (v == 0) = false := by simpa using e0
      have d1 : (v == 1) = false := by simpa using e1
      have d2 : (v == 2) = false := by simpa using e2
      clear e0 e1 e2
      go_wp2
      refine bodyPost_ret (v := .agg #[.int .i64 now, .slice (some ⟨g, 0, none⟩) zs.length cap]) (by simp [results, Try.results20, go_sem, r0, r1]) rfl ?_
      refine ⟨zs, now, some ⟨g, 0, none⟩, cap, rfl, hzl, HS.out, by omega, ?_, p1 + 1 + 1, by omega, by omega, ?_, ?_⟩
      · exact ownsBase (base := w.heap.size + 1) (owns_set_farV (owns_set_farV O3.out (by omega)) (by omega)) (by omega)
      · repeat (first | exact R3.out | refine rd_set ?_ hR _)
      · repeat (first | exact G3.out | refine grown_set_new ?_ (Nat.le_refl _) _)
  · have hn' : ¬ (0 : Int) < (zs.length : Int) := by omega
    have hdd : decide ((0 : Int) < (zs.length : Int)) = false := decide_eq_false (by omega)
    have hd' : decide (0 < zs.length) = false := decide_eq_false (by omega)
    have HN := Lib.hid hn
    have b1 : w.heap.size ≠ w1.heap.size := by omega
    have b2 : w1.heap.size ≠ w.heap.size := by omega
    have hz1 : w.heap.size < w1.heap.size := by omega
    clear hn
    go_wp2
    refine bodyPost_ret (v := .agg #[.int .i64 now, .slice A zs.length cap]) (by simp [results, Try.results20, go_sem, r0, r1, hz1]) rfl ?_
    refine ⟨zs, now, A, cap, rfl, hzl, HS.out, by omega, ?_, p1, by omega, by omega, ?_, ?_⟩
    · exact ownsBase (base := w.heap.size + 1) ((owns_set_farV (owns_set_farV O1.out (by omega)) (by omega)).alloc _) (by omega)
    · repeat (first | exact hrd1 | refine rd_set ?_ hR _ | refine rd_alloc ?_ _)
    · repeat (first | exact g1 | refine grown_set_new ?_ (Nat.le_refl _) _ | refine grown_alloc ?_ _)
end Go.Proofs.Ytkalanjgjeijbaa
namespace Go.Proofs.Ytkalanjgjeijbaa
open Go.Shelf Go.RowKit Go.Lib Go.Sort

/-- A drawn store. -/
def StoW (w : World) (zs : List VerV) (now : Int) (A : Option Addr) (cap : Nat) (w' : World) : Prop :=
  zs.length ≤ 120 ∧ ShortV zs ∧ (-1 ≤ now ∧ now ≤ 31) ∧ w'.ownsRow w.heap.size 62 6 (.slice A zs.length cap) zs.length (flatOf verC zs) ∧ Below w.heap.size w w'
def DrawnStoM (w : World) (e : Ending) (w' : World) : Prop :=
  ∃ (zs : List VerV) (now : Int) (A : Option Addr) (cap : Nat), e = .returned (.agg #[.int .i64 now, .slice A zs.length cap]) ∧ StoW w zs now A cap w'
def DrawnStoI (w : World) (e : Ending) (w' : World) : Prop :=
  ∃ (zs : List VerV) (now : Int) (A : Option Addr) (cap : Nat) (v : Int), e = .returned (.tuple #[.agg #[.int .i64 now, .slice A zs.length cap], .int .i64 v]) ∧ (-1 ≤ v ∧ v ≤ 6) ∧ StoW w zs now A cap w'
def DrawnStoK (w : World) (e : Ending) (w' : World) : Prop :=
  ∃ (zs : List VerV) (now : Int) (A : Option Addr) (cap : Nat) (s : ByteArray), e = .returned (.tuple #[.agg #[.int .i64 now, .slice A zs.length cap], .string s]) ∧ s.size ≤ 20 ∧ StoW w zs now A cap w'

end Go.Proofs.Ytkalanjgjeijbaa
namespace Go.Proofs.Ytkalanjgjeijbaa
open Go.Shelf Go.RowKit Go.Lib Go.Sort

def DrawnStoKI (w : World) (e : Ending) (w' : World) : Prop :=
  ∃ (zs : List VerV) (now : Int) (A : Option Addr) (cap : Nat) (key : ByteArray) (v : Int), e = .returned (.tuple #[.agg #[.int .i64 now, .slice A zs.length cap], .string key, .int .i64 v]) ∧ key.size ≤ 20 ∧ StoW w zs now A cap w'
def DrawnStoII (w : World) (e : Ending) (w' : World) : Prop :=
  ∃ (zs : List VerV) (now : Int) (A : Option Addr) (cap : Nat) (a b : Int), e = .returned (.tuple #[.agg #[.int .i64 now, .slice A zs.length cap], .int .i64 a, .int .i64 b]) ∧ ((0 ≤ a ∧ a ≤ 6) ∧ 0 ≤ b ∧ b ≤ 6) ∧ StoW w zs now A cap w'

set_option maxRecDepth 100000 in
set_option maxHeartbeats 4000000 in
theorem DrawTraceOf_any (A : Option Addr) (cap : Nat) (bs : List Int) (w : World) (h : Bytes w w.heap.size A bs) (hc : bs.length ≤ cap) (hm : cap ≤ maxLen) :
    Calls Try.prog 12 #[.slice A bs.length cap] w (DrawnStoKI w) := by
  have hb0 : Below w.heap.size w (w.alloc (Obj.cells #[Value.int IntKind.i64 0, Value.slice none 0 0] 25)) := (Below.refl _ _).alloc (Nat.le_refl _) _
  go_enter Try.func12, Try.ntmps12
  go_wp2_with fail
  refine (l20Open_any A cap bs _ (bytes_below h hb0 (by simp)) hc hm).mono ?_
  rintro e w1 ⟨zs0, rfl, hrd1, hb1⟩
  simp only [World.size_alloc] at hrd1 hb1
  have r0 : w1.cell? ⟨w.heap.size, 0, none⟩ = some (.int .i64 0) := cell_below hb1 (by omega) (by simp)
  have r1 : w1.cell? ⟨w.heap.size, 1, none⟩ = some (.slice none 0 0) := cell_below hb1 (by omega) (by simp)
  have rf : ∀ o, w1.frozen? ⟨w.heap.size, o, none⟩ = false := fun o => (hb1.frozen (p := ⟨w.heap.size, o, none⟩) (by show w.heap.size < _; omega)).trans (by simp)
  have hB1 : Below w.heap.size w w1 := hb0.trans (hb1.mono (by omega))
  have hl1 := hrd1.lt
  clear hb0 hb1 h
  go_wp2_with fail
  obtain ⟨RD, hRD⟩ : ∃ R, w.heap.size + 1 = R := ⟨_, rfl⟩
  rw [hRD] at hrd1 hl1 ⊢
  have n0 : w.heap.size ≠ RD := by omega
  refine (l20AnyStore_any _ zs0 0 _ hrd1 (by omega) (by omega)).mono ?_
  rintro e w2 ⟨zs, now, A2, c2, rfl, hzl, hsh, hnow, ho, p2, hp2a, hp2b, hrd2, hgr2⟩
  have z2 := hgr2.size
  replace r0 := grown_cell hgr2 n0 r0
  replace r1 := grown_cell hgr2 n0 r1
  replace rf : ∀ o, w2.frozen? ⟨w.heap.size, o, none⟩ = false := fun o => ((gcell hgr2).2 _ o (by omega) n0).trans (rf o)
  have HS := Lib.hid hsh
  have O2 := Lib.hid (ownsBase (base' := w.heap.size + 2) ho (by omega))
  have B2 := Lib.hid (grown_below hB1 hgr2 (by omega))
  have zw : w.heap.size < w2.heap.size := by omega
  have R2 := Lib.hid hrd2
  have l2 := hrd2.lt
  clear hsh ho hgr2 hB1 hrd1 hrd2
  have b5 : Below w2.heap.size w2 (w2.alloc (.cells #[.int .i64 now, .slice A2 zs.length c2] 25)) := (Below.refl _ _).alloc (Nat.le_refl _) _
  have k0 : (w2.alloc (.cells #[.int .i64 now, .slice A2 zs.length c2] 25)).cell? ⟨w2.heap.size, 0, none⟩ = some (.int .i64 now) := by simp [go_sem]
  have k1 : (w2.alloc (.cells #[.int .i64 now, .slice A2 zs.length c2] 25)).cell? ⟨w2.heap.size, 1, none⟩ = some (.slice A2 zs.length c2) := by simp [go_sem]
  have z5 : w2.heap.size < (w2.alloc (.cells #[.int .i64 now, .slice A2 zs.length c2] 25)).heap.size := by simp
  replace r0 := cellBelow b5 zw r0
  replace r1 := cellBelow b5 zw r1
  replace rf : ∀ o, (w2.alloc (.cells #[.int .i64 now, .slice A2 zs.length c2] 25)).frozen? ⟨w.heap.size, o, none⟩ = false := fun o => ((bcell b5).2 _ o zw).trans (rf o)
  have O5 := Lib.hid (ownsKeep O2.out b5)
  have R5 := Lib.hid (R2.out.kept b5)
  have B5 := Lib.hid (B2.out.trans (b5.mono B2.out.size))
  go_upto_region 3 with fail
  generalize w2.alloc (.cells #[.int .i64 now, .slice A2 zs.length c2] 25) = W5 at *
  have gR : w2.heap.size ≠ RD := by omega
  have gw : w2.heap.size ≠ w.heap.size := by omega
  have wg : w.heap.size ≠ w2.heap.size := by omega
  generalize w2.heap.size = G at *
  have hrdA : Rd W5.drew RD zs0 p2 := R5.out
  have k0A : W5.drew.cell? ⟨G, 0, none⟩ = some (.int .i64 now) := k0
  have k1A : W5.drew.cell? ⟨G, 1, none⟩ = some (.slice A2 zs.length c2) := k1
  have r0A : W5.drew.cell? ⟨w.heap.size, 0, none⟩ = some (.int .i64 0) := r0
  have r1A : W5.drew.cell? ⟨w.heap.size, 1, none⟩ = some (.slice none 0 0) := r1
  have rfA : ∀ o, W5.drew.frozen? ⟨w.heap.size, o, none⟩ = false := rf
  clear b5 O2 R2 B2 z2
  go_region_held3 (fun w' => w'.cell? ⟨G, 0, none⟩ = some (.int .i64 now) ∧ w'.cell? ⟨G, 1, none⟩ = some (.slice A2 zs.length c2))
    (((try go_split_ands); refine ⟨?cc90, ?cc91⟩; (case cc90 => (repeat (first | with_reducible assumption | with_reducible exact grown_cell hgr4 gR k0A | with_reducible exact grown_cell hgr6 gR (grown_cell hgr4 gR k0A) | with_reducible refine cell_set_far gw ?_))); (case cc91 => (repeat (first | with_reducible assumption | with_reducible exact grown_cell hgr4 gR k1A | with_reducible exact grown_cell hgr6 gR (grown_cell hgr4 gR k1A) | with_reducible refine cell_set_far gw ?_)))))
    (first
      | (go_at_call 30; (with_reducible refine (l20Key_any RD zs0 p2 _ hrdA (by omega) (by omega)).mono ?_); rintro e w4 ⟨key, rfl, hkey, hrd4, hgr4⟩; have q0 := grown_cell hgr4 n0 r0A; have q1 := grown_cell hgr4 n0 r1A; have qf : (∀ o, w4.frozen? ⟨w.heap.size, o, none⟩ = false) := (fun o => ((gcell hgr4).2 _ o (by simp; omega) n0).trans (rfA o)))
      | (go_at_call 21; (with_reducible refine (pick_any RD zs0 _ 25 _ hrd4 (by omega) (by omega) (by omega) (by omega)).mono ?_); rintro e w6 ⟨v, rfl, v0, v1, hrd6, hgr6⟩; have u0 := grown_cell hgr6 n0 q0; have u1 := grown_cell hgr6 n0 q1; have uf : (∀ o, w6.frozen? ⟨w.heap.size, o, none⟩ = false) := (fun o => ((gcell hgr6).2 _ o (by have := hgr4.size; simp at this; omega) n0).trans (qf o))))
  have gw4 : W5.grownBy w4 (some RD) := ⟨hgr4.os, hgr4.tape, hgr4.output, hgr4.size, hgr4.block⟩
  have gw6 := grown_trans gw4 hgr6
  have O6 := Lib.hid (O5.out.kept gw6 (.inr fun e => by have := (O5.out.lt _ e).1; have := gR; omega))
  have B6 := Lib.hid (grown_below B5.out gw6 (by omega))
  clear gw4 gw6 hgr4 hrd4 hgr6 hrd6 O5 B5 R5 hrdA
  go_wp2
  refine bodyPost_ret (v := .tuple #[.agg #[.int .i64 now, .slice A2 zs.length c2], .string key, .int .i64 v]) (by simp [results, Try.results12, go_sem, u0, u1]) rfl ?_
  refine ⟨zs, now, A2, c2, key, v, rfl, hkey, hzl, HS.out, hnow, ownsBase (base := w.heap.size + 2) (owns_set_farV (owns_set_farV O6.out (by omega)) (by omega)) (by omega), (B6.out.setCell (Nat.le_refl _) _).setCell (Nat.le_refl _) _⟩

set_option maxRecDepth 100000 in
set_option maxHeartbeats 4000000 in
theorem DrawStoreDiff_any (A : Option Addr) (cap : Nat) (bs : List Int) (w : World) (h : Bytes w w.heap.size A bs) (hc : bs.length ≤ cap) (hm : cap ≤ maxLen) :
    Calls Try.prog 6 #[.slice A bs.length cap] w (DrawnStoII w) := by
  have hb0 : Below w.heap.size w (w.alloc (Obj.cells #[Value.int IntKind.i64 0, Value.slice none 0 0] 25)) := (Below.refl _ _).alloc (Nat.le_refl _) _
  go_enter Try.func6, Try.ntmps6
  go_wp2_with fail
  refine (l20Open_any A cap bs _ (bytes_below h hb0 (by simp)) hc hm).mono ?_
  rintro e w1 ⟨zs0, rfl, hrd1, hb1⟩
  simp only [World.size_alloc] at hrd1 hb1
  have r0 : w1.cell? ⟨w.heap.size, 0, none⟩ = some (.int .i64 0) := cell_below hb1 (by omega) (by simp)
  have r1 : w1.cell? ⟨w.heap.size, 1, none⟩ = some (.slice none 0 0) := cell_below hb1 (by omega) (by simp)
  have rf : ∀ o, w1.frozen? ⟨w.heap.size, o, none⟩ = false := fun o => (hb1.frozen (p := ⟨w.heap.size, o, none⟩) (by show w.heap.size < _; omega)).trans (by simp)
  have hB1 : Below w.heap.size w w1 := hb0.trans (hb1.mono (by omega))
  have hl1 := hrd1.lt
  clear hb0 hb1 h
  go_wp2_with fail
  obtain ⟨RD, hRD⟩ : ∃ R, w.heap.size + 1 = R := ⟨_, rfl⟩
  rw [hRD] at hrd1 hl1 ⊢
  have n0 : w.heap.size ≠ RD := by omega
  refine (l20AnyStore_any _ zs0 0 _ hrd1 (by omega) (by omega)).mono ?_
  rintro e w2 ⟨zs, now, A2, c2, rfl, hzl, hsh, hnow, ho, p2, hp2a, hp2b, hrd2, hgr2⟩
  have z2 := hgr2.size
  replace r0 := grown_cell hgr2 n0 r0
  replace r1 := grown_cell hgr2 n0 r1
  replace rf : ∀ o, w2.frozen? ⟨w.heap.size, o, none⟩ = false := fun o => ((gcell hgr2).2 _ o (by omega) n0).trans (rf o)
  have HS := Lib.hid hsh
  have O2 := Lib.hid (ownsBase (base' := w.heap.size + 2) ho (by omega))
  have B2 := Lib.hid (grown_below hB1 hgr2 (by omega))
  have zw : w.heap.size < w2.heap.size := by omega
  have R2 := Lib.hid hrd2
  have l2 := hrd2.lt
  clear hsh ho hgr2 hB1 hrd1 hrd2
  have b5 : Below w2.heap.size w2 (w2.alloc (.cells #[.int .i64 now, .slice A2 zs.length c2] 25)) := (Below.refl _ _).alloc (Nat.le_refl _) _
  have k0 : (w2.alloc (.cells #[.int .i64 now, .slice A2 zs.length c2] 25)).cell? ⟨w2.heap.size, 0, none⟩ = some (.int .i64 now) := by simp [go_sem]
  have k1 : (w2.alloc (.cells #[.int .i64 now, .slice A2 zs.length c2] 25)).cell? ⟨w2.heap.size, 1, none⟩ = some (.slice A2 zs.length c2) := by simp [go_sem]
  have z5 : w2.heap.size < (w2.alloc (.cells #[.int .i64 now, .slice A2 zs.length c2] 25)).heap.size := by simp
  replace r0 := cellBelow b5 zw r0
  replace r1 := cellBelow b5 zw r1
  replace rf : ∀ o, (w2.alloc (.cells #[.int .i64 now, .slice A2 zs.length c2] 25)).frozen? ⟨w.heap.size, o, none⟩ = false := fun o => ((bcell b5).2 _ o zw).trans (rf o)
  have O5 := Lib.hid (ownsKeep O2.out b5)
  have R5 := Lib.hid (R2.out.kept b5)
  have B5 := Lib.hid (B2.out.trans (b5.mono B2.out.size))
  go_upto_region 3 with fail
  generalize w2.alloc (.cells #[.int .i64 now, .slice A2 zs.length c2] 25) = W5 at *
  have gR : w2.heap.size ≠ RD := by omega
  have gw : w2.heap.size ≠ w.heap.size := by omega
  have wg : w.heap.size ≠ w2.heap.size := by omega
  generalize w2.heap.size = G at *
  have hrdA : Rd W5.drew RD zs0 p2 := R5.out
  have k0A : W5.drew.cell? ⟨G, 0, none⟩ = some (.int .i64 now) := k0
  have k1A : W5.drew.cell? ⟨G, 1, none⟩ = some (.slice A2 zs.length c2) := k1
  have r0A : W5.drew.cell? ⟨w.heap.size, 0, none⟩ = some (.int .i64 0) := r0
  have r1A : W5.drew.cell? ⟨w.heap.size, 1, none⟩ = some (.slice none 0 0) := r1
  have rfA : ∀ o, W5.drew.frozen? ⟨w.heap.size, o, none⟩ = false := rf
  clear b5 O2 R2 B2 z2
  go_region_held3 (fun w' => w'.cell? ⟨G, 0, none⟩ = some (.int .i64 now) ∧ w'.cell? ⟨G, 1, none⟩ = some (.slice A2 zs.length c2))
    (((try go_split_ands); refine ⟨?cc90, ?cc91⟩; (case cc90 => (repeat (first | with_reducible assumption | with_reducible exact grown_cell hgr4 gR k0A | with_reducible exact grown_cell hgr6 gR (grown_cell hgr4 gR k0A) | with_reducible refine cell_set_far gw ?_))); (case cc91 => (repeat (first | with_reducible assumption | with_reducible exact grown_cell hgr4 gR k1A | with_reducible exact grown_cell hgr6 gR (grown_cell hgr4 gR k1A) | with_reducible refine cell_set_far gw ?_)))))
    (first
      | (go_at_call 21; (with_reducible refine (pick_any RD zs0 p2 7 _ hrdA (by omega) (by omega) (by omega) (by omega)).mono ?_); rintro e w4 ⟨va, rfl, va0, va1, hrd4, hgr4⟩; have q0 := grown_cell hgr4 n0 r0A; have q1 := grown_cell hgr4 n0 r1A; have qf : (∀ o, w4.frozen? ⟨w.heap.size, o, none⟩ = false) := (fun o => ((gcell hgr4).2 _ o (by simp; omega) n0).trans (rfA o)))
      | (go_at_call 21; (with_reducible refine (pick_any RD zs0 _ 7 _ hrd4 (by omega) (by omega) (by omega) (by omega)).mono ?_); rintro e w6 ⟨vb, rfl, vb0, vb1, hrd6, hgr6⟩; have u0 := grown_cell hgr6 n0 q0; have u1 := grown_cell hgr6 n0 q1; have uf : (∀ o, w6.frozen? ⟨w.heap.size, o, none⟩ = false) := (fun o => ((gcell hgr6).2 _ o (by have := hgr4.size; simp at this; omega) n0).trans (qf o))))
  have gw4 : W5.grownBy w4 (some RD) := ⟨hgr4.os, hgr4.tape, hgr4.output, hgr4.size, hgr4.block⟩
  have gw6 := grown_trans gw4 hgr6
  have O6 := Lib.hid (O5.out.kept gw6 (.inr fun e => by have := (O5.out.lt _ e).1; have := gR; omega))
  have B6 := Lib.hid (grown_below B5.out gw6 (by omega))
  clear gw4 gw6 hgr4 hrd4 hgr6 hrd6 O5 B5 R5 hrdA
  go_wp2
  refine bodyPost_ret (v := .tuple #[.agg #[.int .i64 now, .slice A2 zs.length c2], .int .i64 va, .int .i64 vb]) (by simp [results, Try.results6, go_sem, u0, u1]) rfl ?_
  refine ⟨zs, now, A2, c2, va, vb, rfl, (by omega), hzl, HS.out, hnow, ownsBase (base := w.heap.size + 2) (owns_set_farV (owns_set_farV O6.out (by omega)) (by omega)) (by omega), (B6.out.setCell (Nat.le_refl _) _).setCell (Nat.le_refl _) _⟩
end Go.Proofs.Ytkalanjgjeijbaa
