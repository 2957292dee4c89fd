/-
  Walks: slices.DeleteFunc at versions, by what StorePrune strikes.
-/
import Derived.Test.YtacddgipcafdlaaPruA
namespace Go.Proofs.Ytacddgipcafdlaa
open Go.Shelf Go.RowKit Go.Lib Go.Sort

theorem elC {w : World} {base g cap : Nat} {zs : List VerV} {k : Nat} {x : VerV} (h : w.ownsRow base 74 6 (.slice (some ⟨g, 0, none⟩) zs.length cap) zs.length (flatOf verC zs)) (hx : zs[k]? = some x) (j : Nat) (hj : j < 6) : w.cell? ⟨g, k * 6 + j, none⟩ = (verC x)[j]? := by
  obtain ⟨hk, rfl⟩ := List.getElem?_eq_some_iff.1 hx
  have := h.cellAt (k * 6 + j) (by omega)
  rw [flatOf_get verC_len zs k _ j (List.getElem?_eq_getElem hk) hj] at this
  exact this

theorem gB_trans {a b c : World} {r : Option Nat} (h : a.grownBy b r) (k : b.grownBy c r) : a.grownBy c r :=
  ⟨k.os.trans h.os, k.tape.trans h.tape, k.output.trans h.output, Nat.le_trans h.size k.size, fun j hj hn => (k.block j (Nat.lt_of_lt_of_le hj h.size) hn).trans (h.block j hj hn)⟩
theorem gB_below {a b : World} {r : Option Nat} (h : Below a.heap.size a b) : a.grownBy b r := ⟨h.os, h.tape, h.output, h.size, fun k hk _ => h.block k hk⟩
theorem gB_cell {a b : World} {r g o : Nat} {v : Value} (h : a.grownBy b (some r)) (hn : g ≠ r) (hc : a.cell? ⟨g, o, none⟩ = some v) : b.cell? ⟨g, o, none⟩ = some v :=
  (World.cell?_of_block (a := ⟨g, o, none⟩) (h.block g (World.block_lt_of_cell? _ _ hc) (fun e => hn (by injection e)))).trans hc
theorem gB_setCells {a : World} {g : Nat} : ∀ (vs : List Value) (o : Nat) (b : World), a.grownBy b (some g) → a.grownBy (b.setCells g o vs) (some g)
  | [], _, _, h => h
  | v :: r, o, b, h => by
    rw [World.setCells]
    exact gB_setCells r (o + 1) _ (gB_trans h (grown_setAtV b g o v))
theorem zero_ofV {P : Program} {t : TypeId} {z : Value} {i : TypeInfo} (hi : P.info? t = some i) (hz : i.zero = some z) : ∀ w, (zeroValue t).run P w = .ok z w := fun w => by
  simp [zeroValue, typeInfo, hi, hz]
/-- The six cells of a version stored over another one. -/
theorem owns_ver_set {w : World} {base g cap : Nat} {ys : List VerV} {k : Nat} (x : VerV) (h : w.ownsRow base 74 6 (.slice (some ⟨g, 0, none⟩) ys.length cap) ys.length (flatOf verC ys)) (hk : k < ys.length) :
    ((((((w.setCell ⟨g, k * 6, none⟩ (.string x.r.k)).setCell ⟨g, k * 6 + 1, none⟩ (.string x.r.t)).setCell ⟨g, k * 6 + 2, none⟩ (.int .i64 x.r.f)).setCell ⟨g, k * 6 + 3, none⟩ (.int .i64 x.r.e)).setCell ⟨g, k * 6 + 4, none⟩ (.int .i64 x.i)).setCell ⟨g, k * 6 + 5, none⟩ (.int .i64 x.o)).ownsRow base 74 6 (.slice (some ⟨g, 0, none⟩) (ys.set k x).length cap) (ys.set k x).length (flatOf verC (ys.set k x)) := by
  have s0 := h.stored (k * 6) (.string x.r.k)
  have s1 := s0.1.stored (k * 6 + 1) (.string x.r.t)
  have s2 := s1.1.stored (k * 6 + 2) (.int .i64 x.r.f)
  have s3 := s2.1.stored (k * 6 + 3) (.int .i64 x.r.e)
  have s4 := s3.1.stored (k * 6 + 4) (.int .i64 x.i)
  have s5 := (s4.1.stored (k * 6 + 5) (.int .i64 x.o)).1
  have hset : (((((((flatOf verC ys).set (k * 6) (.string x.r.k)).set (k * 6 + 1) (.string x.r.t)).set (k * 6 + 2) (.int .i64 x.r.f)).set (k * 6 + 3) (.int .i64 x.r.e)).set (k * 6 + 4) (.int .i64 x.i)).set (k * 6 + 5) (.int .i64 x.o)) = flatOf verC (ys.set k x) := flatOf_set verC_len x ys k hk
  rw [hset] at s5
  rw [List.length_set]
  exact s5
theorem grown_ver_set {a w : World} {g k : Nat} (x : VerV) (h : a.grownBy w (some g)) :
    a.grownBy ((((((w.setCell ⟨g, k * 6, none⟩ (.string x.r.k)).setCell ⟨g, k * 6 + 1, none⟩ (.string x.r.t)).setCell ⟨g, k * 6 + 2, none⟩ (.int .i64 x.r.f)).setCell ⟨g, k * 6 + 3, none⟩ (.int .i64 x.r.e)).setCell ⟨g, k * 6 + 4, none⟩ (.int .i64 x.i)).setCell ⟨g, k * 6 + 5, none⟩ (.int .i64 x.o)) (some g) :=
  gB_trans (gB_trans (gB_trans (gB_trans (gB_trans (gB_trans h (grown_setAtV _ g _ _)) (grown_setAtV _ g _ _)) (grown_setAtV _ g _ _)) (grown_setAtV _ g _ _)) (grown_setAtV _ g _ _)) (grown_setAtV _ g _ _)

set_option maxRecDepth 100000 in
set_option maxHeartbeats 8000000 in
theorem deleteVer_any (A : Option Addr) (cap : Nat) (zs : List VerV) (B : Nat) (m : Int) (base : Nat) (w : World) (ho : w.ownsRow base 74 6 (.slice A zs.length cap) zs.length (flatOf verC zs)) (hB : w.cell? ⟨B, 0, none⟩ = some (.int .i64 m)) (hBb : B < base) (hl : zs.length ≤ 1048577) :
    Calls Try.prog 76 #[.slice A zs.length cap, .func (.func 77) #[] #[.pointer (some ⟨B, 0, none⟩)]] w fun e w' =>
      ∃ c' : Nat, e = .returned (.slice A (keepL m zs).length c') ∧ w'.ownsRow base 74 6 (.slice A (keepL m zs).length c') (keepL m zs).length (flatOf verC (keepL m zs)) ∧ w.grownBy w' (Value.slice A zs.length cap).ownBlock := by
  obtain ⟨i0, hi, hz0, hz1, hz2⟩ := info_parts Try.infoV74
  have O := Lib.hid ho
  have HB := Lib.hid hB
  have CI := Lib.hid (indexVer_any A cap zs B m w (el_of_owns verC_len ho) hB hl)
  have ZV := Lib.hid (zero_ofV hi hz0)
  have hBw : B < w.heap.size := World.block_lt_of_cell? _ _ hB
  clear ho hB hi hz0 hz1 hz2
  go_enter Try.func76, Try.ntmps76
  go_wp2_with fail
  refine CI.out.mono ?_
  rintro e w1 ⟨hcase, hb1⟩
  clear CI
  have O1 := Lib.hid (ownsKeep O.out hb1)
  have HB1 := Lib.hid (cellBelow hb1 hBw HB.out)
  have G1 := Lib.hid (show w.grownBy w1 (Value.slice A zs.length cap).ownBlock from gB_below hb1)
  clear O HB hb1
  rcases hcase with ⟨rfl, ha⟩ | ⟨k0, x0, rfl, hx0, hd0, ha0⟩
  · have e : keepL m zs = zs := List.filter_eq_self.2 (fun y hy => by
      obtain ⟨q, hq, e⟩ := List.mem_iff_getElem.1 hy
      exact ha q y (by rw [← e, List.getElem?_eq_getElem]))
    have E := Lib.hid e
    clear ha e
    go_wp2
    go_ret
    rw [E.out]
    exact ⟨cap, rfl, O1.out, G1.out⟩
  · have hk0 := (List.getElem?_eq_some_iff.1 hx0).1
    obtain ⟨g, hA, hg⟩ : ∃ g, A = some ⟨g, 0, none⟩ ∧ base ≤ g := by
      rcases O1.out.2 with ⟨_, h⟩ | ⟨g, c, cur, h, hb, _⟩
      · omega
      · injection h with h; exact ⟨g, h, hb⟩
    subst hA
    have hcap := owns_cap O1.out
    have K0 := Lib.hid (KeptI.start hx0 hd0 ha0)
    have hne1 : ((k0 : Int) == -1) = false := beq_eq_false_iff_ne.2 (by omega)
    have hBg : B ≠ g := by omega
    clear hx0 hd0 ha0
    go_wp2
    go_loopw [5, 6, 7] (fun s5 s6 _ wr => ∃ (i j : Nat) (ys : List VerV), s5 = .int .i64 i ∧ s6 = .int .i64 j ∧ j ≤ zs.length ∧ KeptI m zs j i ys ∧ wr.ownsRow base 74 6 (.slice (some ⟨g, 0, none⟩) ys.length cap) ys.length (flatOf verC ys) ∧ w1.grownBy wr (some g)) (fun _ j _ _ => zs.length - (intOf j).toNat)
    case atStart => exact ⟨k0, k0 + 1, zs, rfl, by go_num, by omega, K0.out, O1.out, gB_below (Below.refl _ _)⟩
    case round =>
      obtain ⟨i, j, ys, rfl, rfl, hj, hk, hown, hgr⟩ := hrel
      have hij := hk.lt
      have hyl := hk.len
      have hgl : g < wr.heap.size := (hown.lt g rfl).2
      have K := Lib.hid hk
      have Hown := Lib.hid hown
      have GR := Lib.hid hgr
      have hBr : wr.cell? ⟨B, 0, none⟩ = some (.int .i64 m) := gB_cell hgr hBg HB1.out
      clear hk hown hgr
      by_cases hlt : j < zs.length
      · obtain ⟨x, hx⟩ : ∃ x, zs[j]? = some x := ⟨_, List.getElem?_eq_getElem hlt⟩
        have HX := Lib.hid hx
        have hyx : ys[j]? = some x := by rw [K.out.tail j (Nat.le_refl _), hx]
        obtain ⟨y, hy⟩ : ∃ y, ys[i]? = some y := ⟨_, List.getElem?_eq_getElem (by omega)⟩
        have HYi := Lib.hid hy
        have c0 : wr.cell? ⟨g, j * 6, none⟩ = some (.string x.r.k) := elC Hown.out hyx 0 (by omega)
        have c1 : wr.cell? ⟨g, j * 6 + 1, none⟩ = some (.string x.r.t) := elC Hown.out hyx 1 (by omega)
        have c2 : wr.cell? ⟨g, j * 6 + 2, none⟩ = some (.int .i64 x.r.f) := elC Hown.out hyx 2 (by omega)
        have c3 : wr.cell? ⟨g, j * 6 + 3, none⟩ = some (.int .i64 x.r.e) := elC Hown.out hyx 3 (by omega)
        have c4 : wr.cell? ⟨g, j * 6 + 4, none⟩ = some (.int .i64 x.i) := elC Hown.out hyx 4 (by omega)
        have c5 : wr.cell? ⟨g, j * 6 + 5, none⟩ = some (.int .i64 x.o) := elC Hown.out hyx 5 (by omega)
        have hjz : (j : Int) < (zs.length : Int) := by omega
        have hiz : (i : Int) < (zs.length : Int) := by omega
        clear hx hyx hy
        go_wp2_with fail
        generalize hW : wr.alloc _ = W1
        have v0 : W1.cell? ⟨wr.heap.size, 0, none⟩ = some (.string x.r.k) := by rw [← hW]; simp [go_sem]
        have v1 : W1.cell? ⟨wr.heap.size, 1, none⟩ = some (.string x.r.t) := by rw [← hW]; simp [go_sem]
        have v2 : W1.cell? ⟨wr.heap.size, 2, none⟩ = some (.int .i64 x.r.f) := by rw [← hW]; simp [go_sem]
        have v3 : W1.cell? ⟨wr.heap.size, 3, none⟩ = some (.int .i64 x.r.e) := by rw [← hW]; simp [go_sem]
        have v4 : W1.cell? ⟨wr.heap.size, 4, none⟩ = some (.int .i64 x.i) := by rw [← hW]; simp [go_sem]
        have v5 : W1.cell? ⟨wr.heap.size, 5, none⟩ = some (.int .i64 x.o) := by rw [← hW]; simp [go_sem]
        have lW : wr.heap.size < W1.heap.size := by rw [← hW]; simp
        have hbW : Below wr.heap.size wr W1 := by rw [← hW]; exact (Below.refl _ _).alloc (Nat.le_refl _) _
        have hBW := cellBelow hbW (World.block_lt_of_cell? _ _ hBr) hBr
        clear hW hBr c0 c1 c2 c3 c4 c5
        refine (prune1_any B m x W1 hBW).mono ?_
        rintro e w2 ⟨rfl, hb2⟩
        replace v0 := cellBelow hb2 lW v0
        replace v1 := cellBelow hb2 lW v1
        replace v2 := cellBelow hb2 lW v2
        replace v3 := cellBelow hb2 lW v3
        replace v4 := cellBelow hb2 lW v4
        replace v5 := cellBelow hb2 lW v5
        have hb3 := hbW.trans (hb2.mono hbW.size)
        have O2 := Lib.hid (ownsKeep Hown.out hb3)
        have G2 := Lib.hid (gB_trans GR.out (gB_below (r := some g) hb3))
        clear hb2 hbW hBW lW hb3
        generalize wr.heap.size = V at *
        by_cases ho : x.o ≤ m
        · have hdo : decide (x.o ≤ m) = true := decide_eq_true ho
          have HK := Lib.hid (show keepB m x = false from decide_eq_false (by omega))
          go_wp2
          go_roundw
          case rel => exact ⟨i, j + 1, ys, rfl, by go_num, by omega, K.out.skip HX.out HK.out, O2.out, G2.out⟩
          case measure => simp [intOf]; omega
        · have hdo : decide (x.o ≤ m) = false := decide_eq_false ho
          have HK := Lib.hid (show keepB m x = true from decide_eq_true (by omega))
          have e0 : w2.cell? ⟨g, i * 6, none⟩ = some (.string y.r.k) := elC O2.out HYi.out 0 (by omega)
          have e1 : w2.cell? ⟨g, i * 6 + 1, none⟩ = some (.string y.r.t) := elC O2.out HYi.out 1 (by omega)
          have e2 : w2.cell? ⟨g, i * 6 + 2, none⟩ = some (.int .i64 y.r.f) := elC O2.out HYi.out 2 (by omega)
          have e3 : w2.cell? ⟨g, i * 6 + 3, none⟩ = some (.int .i64 y.r.e) := elC O2.out HYi.out 3 (by omega)
          have e4 : w2.cell? ⟨g, i * 6 + 4, none⟩ = some (.int .i64 y.i) := elC O2.out HYi.out 4 (by omega)
          have e5 : w2.cell? ⟨g, i * 6 + 5, none⟩ = some (.int .i64 y.o) := elC O2.out HYi.out 5 (by omega)
          have f0 := O2.out.frozenAt (i * 6)
          have f1 := O2.out.frozenAt (i * 6 + 1)
          have f2 := O2.out.frozenAt (i * 6 + 2)
          have f3 := O2.out.frozenAt (i * 6 + 3)
          have f4 := O2.out.frozenAt (i * 6 + 4)
          have f5 := O2.out.frozenAt (i * 6 + 5)
          have O3 := Lib.hid (owns_ver_set x O2.out (show i < ys.length from by omega))
          have G3 := Lib.hid (grown_ver_set (k := i) x G2.out)
          clear O2 G2
          go_wp2
          go_roundw
          case rel => exact ⟨i + 1, j + 1, ys.set i x, by go_num, by go_num, by omega, K.out.keep HX.out HK.out, O3.out, G3.out⟩
          case measure => simp [intOf]; omega
      · obtain rfl : j = zs.length := by omega
        have hcl : ∀ ty, (Builtin.clear_ #[24] ty #[.slice (some ⟨g, i * 6, none⟩) (zs.length - i) (cap - i)]).run Try.prog wr = .ok (.tuple #[]) (wr.setCells g (i * 6) (Builtin.zeroCells (Value.agg #[Value.string { data := #[] }, Value.string { data := #[] }, Value.int IntKind.i64 0, Value.int IntKind.i64 0, Value.int IntKind.i64 0, Value.int IntKind.i64 0]).cells (zs.length - i)).toList) := fun ty =>
          run_clear_ver wr _ _ ty _ Try.underlying24 ZV.out (by rfl) (by intro v hv; simp [Value.cells] at hv; rcases hv with rfl | rfl | rfl | rfl | rfl | rfl <;> rfl) g (i * 6) _ _ (by omega)
            (fun q hq => by rw [Hown.out.cellAt (i * 6 + q) (by omega), List.getElem?_eq_getElem (by rw [flatOf_length verC_len]; omega)]; rfl) (fun q _ => Hown.out.frozenAt _)
        have hkd := K.out.head
        have hkn := K.out.num
        rw [List.take_length] at hkd hkn
        have O2 := Lib.hid (show (wr.setCells g (i * 6) (Builtin.zeroCells (Value.agg #[Value.string { data := #[] }, Value.string { data := #[] }, Value.int IntKind.i64 0, Value.int IntKind.i64 0, Value.int IntKind.i64 0, Value.int IntKind.i64 0]).cells (zs.length - i)).toList).ownsRow base 74 6 (.slice (some ⟨g, 0, none⟩) i cap) i (flatOf verC (keepL m zs)) from owns_cleared _ _ _ (by
          have := owns_part Hown.out (show i ≤ ys.length from by omega)
          rwa [flat_takeV ys i (by omega), hkd] at this) (Nat.le_refl _))
        have G2 := Lib.hid (gB_setCells (Builtin.zeroCells (Value.agg #[Value.string { data := #[] }, Value.string { data := #[] }, Value.int IntKind.i64 0, Value.int IntKind.i64 0, Value.int IntKind.i64 0, Value.int IntKind.i64 0]).cells (zs.length - i)).toList (i * 6) _ GR.out)
        have hkn2 := Lib.hid hkn
        have hiz : (i : Int) ≤ (zs.length : Int) := by omega
        clear hkd hkn
        go_wp2
        go_ret
        refine ⟨cap, by rw [hkn2.out]; rfl, by rw [hkn2.out]; exact O2.out, gB_trans G1.out G2.out⟩
end Go.Proofs.Ytacddgipcafdlaa
