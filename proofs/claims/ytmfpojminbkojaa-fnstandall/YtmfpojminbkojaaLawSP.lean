/-
  The walk of the law of how rows stand to a span (P56).
-/
import Derived.Test.YtmfpojminbkojaaDrawT
import Derived.Test.YtmfpojminbkojaaDrawC
import Derived.Test.YtmfpojminbkojaaStandA
import Derived.Test.YtmfpojminbkojaaStandE
import Derived.Test.YtmfpojminbkojaaVaI
namespace Go.Proofs.Ytmfpojminbkojaa
open Go.Shelf Go.RowKit Go.Lib Go.Sort

theorem grown_setAtR (w : World) (g i : Nat) (u : Value) : w.grownBy (w.setCell ⟨g, i, none⟩ u) (some g) :=
  ⟨rfl, rfl, rfl, by simp [World.setCell], fun j _ hne => Below.heap_setCell _ _ _ _ (by show j ≠ g; intro e; exact hne (by rw [e]))⟩
theorem ownsFarR {w : World} {base n g i : Nat} {v u : Value} {xs : List Value} {t : TypeId} {k : Nat} (h : w.ownsRow base t k v n xs) (hg : g < base) : (w.setCell ⟨g, i, none⟩ u).ownsRow base t k v n xs :=
  h.kept (grown_setAtR w g i u) (.inr fun e => by have := (h.lt g e).1; omega)

def DrawnRS (w : World) (e : Ending) (w' : World) : Prop :=
  ∃ (zs : List RowV) (A : Option Addr) (cap : Nat) (a b : Int), e = .returned (.tuple #[.slice A zs.length cap, .agg #[.int .i64 a, .int .i64 b]]) ∧ zs.length ≤ 25 ∧ Short zs ∧ w'.ownsRow w.heap.size 63 4 (.slice A zs.length cap) zs.length (flatOf rowC zs) ∧ Below w.heap.size w w'

set_option maxRecDepth 100000 in
set_option maxHeartbeats 4000000 in
theorem DrawStandAll_any (A : Option Addr) (cap : Nat) (bs : List Int) (w : World) (h : Bytes w w.heap.size A bs) (hc : bs.length ≤ cap) (hm : cap ≤ maxLen) :
    Calls Try.prog 36 #[.slice A bs.length cap] w (DrawnRS w) := by
  have hb0 : Below w.heap.size w (w.alloc (Obj.cells #[Value.int IntKind.i64 0, Value.int IntKind.i64 0] 25)) := (Below.refl _ _).alloc (Nat.le_refl _) _
  go_enter Try.func36, Try.ntmps36
  go_wp2_with fail
  refine (l20Open_any A cap bs _ (bytes_below h hb0 (by simp)) hc hm).mono ?_
  rintro e w1 ⟨zs0, rfl, hrd1, hb1⟩
  simp only [World.size_alloc] at hrd1 hb1
  have r0 : w1.cell? ⟨w.heap.size, 0, none⟩ = some (.int .i64 0) := cell_below hb1 (by omega) (by simp)
  have r1 : w1.cell? ⟨w.heap.size, 1, none⟩ = some (.int .i64 0) := cell_below hb1 (by omega) (by simp)
  have rf : ∀ o, w1.frozen? ⟨w.heap.size, o, none⟩ = false := fun o => (hb1.frozen (p := ⟨w.heap.size, o, none⟩) (by show w.heap.size < _; omega)).trans (by simp)
  have hB1 : Below w.heap.size w w1 := hb0.trans (hb1.mono (by omega))
  have hl1 := hrd1.lt
  clear hb0 hb1 h
  go_wp2_with fail
  obtain ⟨RD, hRD⟩ : ∃ R, w.heap.size + 1 = R := ⟨_, rfl⟩
  rw [hRD] at hrd1 hl1 ⊢
  have n0 : w.heap.size ≠ RD := by omega
  refine (l20AnyRel_any _ zs0 0 _ hrd1 (by omega) (by omega)).mono ?_
  rintro e w2 ⟨zs, A2, c2, rfl, hzl, hsh, ho, p2, hp2a, hp2b, hrd2, hgr2⟩
  have z2 := hgr2.size
  replace r0 := grown_cell hgr2 n0 r0
  replace r1 := grown_cell hgr2 n0 r1
  replace rf : ∀ o, w2.frozen? ⟨w.heap.size, o, none⟩ = false := fun o => ((gcell hgr2).2 _ o (by omega) n0).trans (rf o)
  have HS := Lib.hid hsh
  have O2 := Lib.hid (ownsBase (base' := w.heap.size + 2) ho (by omega))
  have B2 := Lib.hid (grown_below hB1 hgr2 (by omega))
  clear hsh ho hgr2 hB1 hrd1
  go_wp2_with fail
  refine (l20AnySpan_any _ zs0 p2 _ hrd2 (by omega) (by omega)).mono ?_
  rintro e w3 ⟨a, b, rfl, _, p3, hp3a, hp3b, hrd3, hgr3⟩
  replace r0 := grown_cell hgr3 n0 r0
  replace r1 := grown_cell hgr3 n0 r1
  replace rf : ∀ o, w3.frozen? ⟨w.heap.size, o, none⟩ = false := fun o => ((gcell hgr3).2 _ o (by omega) n0).trans (rf o)
  have O3 := Lib.hid (O2.out.kept hgr3 (.inr fun e => by have := (O2.out.lt _ e).1; omega))
  have B3 := Lib.hid (grown_below B2.out hgr3 (by omega))
  clear hgr3 hrd3 hrd2 O2 B2
  go_wp2
  refine bodyPost_ret (v := .tuple #[.slice A2 zs.length c2, .agg #[.int .i64 a, .int .i64 b]]) (by simp [results, Try.results36, go_sem, r0, r1]) rfl ?_
  refine ⟨zs, A2, c2, a, b, rfl, hzl, HS.out, ownsBase (base := w.heap.size + 2) (ownsFarR (ownsFarR O3.out (by omega)) (by omega)) (by omega), (B3.out.setCell (Nat.le_refl _) _).setCell (Nat.le_refl _) _⟩

theorem SpanOk_valS (a b : Int) (w : World) (v : Bool) (h : okB a b = v) :
    Calls Try.prog 38 #[.agg #[.int .i64 a, .int .i64 b]] w fun e w' => e = .returned (.bool v) ∧ Below w.heap.size w w' := by
  subst h; exact SpanOk_any a b w
theorem all_at_k {zs : List RowV} {c d : Int} {k : Nat} {x : RowV} {y : Int} (h1 : relOk zs = true) (h2 : okB c d = true) (hx : zs[k]? = some x) (hy : (standAllL zs c d)[k]? = some y) : standL x.f x.e c d = y := by
  rw [standAllL, h1, h2, Bool.and_self, if_pos rfl, List.getElem?_map, hx] at hy
  simp at hy
  have hr := relOk_each h1 (List.getElem?_eq_some_iff.1 hx).1
  simp only [relAt, rowOk, getD_of hx, Bool.and_eq_true] at hr
  have ho : okB x.f x.e = true := by rw [okSpan_eq]; exact hr.1.2
  rw [standL, ho, h2, Bool.and_self, if_pos rfl, ← hy]
  rfl

set_option maxRecDepth 100000 in
set_option maxHeartbeats 8000000 in
theorem FnStandAll_any (A : Option Addr) (n cap : Nat) (bs : List Int) (w : World) (hz : Bytes w w.heap.size A bs ∧ bs.length = n ∧ n ≤ cap ∧ cap ≤ maxLen) :
    Calls Try.prog 10 #[.slice A n cap] w fun e w' => e = .returned (.bool true) ∧ Below w.heap.size w w' := by
  obtain ⟨hz, rfl, hc, hm⟩ := hz
  have hm' := hm
  unfold maxLen at hm'
  by_cases hl : (1048576 : Int) < bs.length
  · go_enter Try.func10, Try.ntmps10
    go_wp2
    go_ret
    exact ⟨rfl, Below.refl _ _⟩
  go_enter Try.func10, Try.ntmps10
  go_wp2_with fail
  refine (DrawStandAll_any A cap bs w hz hc hm).mono ?_
  rintro e w1 ⟨zs, A2, c2, c, d, rfl, hzl, hsh, ho, hb1⟩
  have HS := Lib.hid hsh
  have O1 := Lib.hid ho
  clear hz hm hm' hc hsh ho
  obtain ⟨o, ho⟩ : ∃ o, relOk zs = o := ⟨_, rfl⟩
  have HO := Lib.hid ho
  obtain ⟨u, hu⟩ : ∃ u, okB c d = u := ⟨_, rfl⟩
  have HU := Lib.hid hu
  have hml := standAllL_len zs c d
  have HAT := Lib.hid (fun (h1 : relOk zs = true) (h2 : okB c d = true) k x y hx hy => all_at_k (k := k) (x := x) (y := y) h1 h2 hx hy)
  have HLN := Lib.hid (show relOk zs = true → okB c d = true → (standAllL zs c d).length = zs.length from fun h1 h2 => by rw [standAllL, h1, h2, Bool.and_self, if_pos rfl, List.length_map])
  obtain ⟨ms, hms⟩ : ∃ ms, standAllL zs c d = ms := ⟨_, rfl⟩
  have HMS := Lib.hid hms
  rw [hms] at hml HAT HLN
  clear hms ho hu
  go_wp2_with fail
  generalize hW : w1.alloc _ = W0
  have s0 : W0.cell? ⟨w1.heap.size, 0, none⟩ = some (.int .i64 c) := by rw [← hW]; simp [go_sem]
  have s1 : W0.cell? ⟨w1.heap.size, 1, none⟩ = some (.int .i64 d) := by rw [← hW]; simp [go_sem]
  have ls : w1.heap.size < W0.heap.size := by rw [← hW]; simp
  have b0 : Below w1.heap.size w1 W0 := by rw [← hW]; exact (Below.refl _ _).alloc (Nat.le_refl _) _
  have B0 := Lib.hid (hb1.trans (b0.mono hb1.size))
  have Z0 := Lib.hid (show RowsA W0 A2 zs from ElAt.below (el_of_owns rowC_len O1.out) b0)
  generalize w1.heap.size = G at *
  clear hW O1 hb1 b0
  refine (StandAll_any A2 c2 zs c d _ Z0.out (by omega) HS.out).mono ?_
  rw [HMS.out]
  rintro e w2 ⟨A3, c3, rfl, ho, hb⟩
  have I2 := Lib.hid (show IntsA w2 A3 ms from el_of_owns intC_len ho)
  clear ho
  replace s0 := cellBelow hb ls s0
  replace s1 := cellBelow hb ls s1
  replace ls := Nat.lt_of_lt_of_le ls hb.size
  have Z2 := Lib.hid (Z0.out.below hb)
  have B2 := Lib.hid (B0.out.trans (hb.mono B0.out.size))
  clear hb Z0 B0
  go_wp2_with fail
  refine (sStandAll_any A2 c2 zs c d _ Z2.out (by omega) HS.out).mono ?_
  rw [HMS.out]
  rintro e w3 ⟨A4, c4, rfl, ho, hb⟩
  have J3 := Lib.hid (show IntsA w3 A4 ms from el_of_owns intC_len ho)
  have I3 := Lib.hid (I2.out.below hb)
  clear ho I2
  replace s0 := cellBelow hb ls s0
  replace s1 := cellBelow hb ls s1
  replace ls := Nat.lt_of_lt_of_le ls hb.size
  have Z3 := Lib.hid (Z2.out.below hb)
  have B3 := Lib.hid (B2.out.trans (hb.mono B2.out.size))
  clear hb Z2 B2
  go_wp2_with fail
  refine (vaInts_same A3 A4 c3 c4 ms _ I3.out J3.out (by unfold maxLen; omega)).mono ?_
  rintro e w4 ⟨rfl, hb⟩
  have I4 := Lib.hid (I3.out.below hb)
  clear I3 J3
  replace s0 := cellBelow hb ls s0
  replace s1 := cellBelow hb ls s1
  replace ls := Nat.lt_of_lt_of_le ls hb.size
  have Z4 := Lib.hid (Z3.out.below hb)
  have B4 := Lib.hid (B3.out.trans (hb.mono B3.out.size))
  clear hb Z3 B3
  go_wp2_with fail
  refine (RelOk_any A2 c2 zs _ Z4.out (by omega) HS.out).mono ?_
  rw [HO.out]
  rintro e w5 ⟨rfl, hb⟩
  have I5 := Lib.hid (I4.out.below hb)
  clear I4
  replace s0 := cellBelow hb ls s0
  replace s1 := cellBelow hb ls s1
  replace ls := Nat.lt_of_lt_of_le ls hb.size
  have Z5 := Lib.hid (Z4.out.below hb)
  have B5 := Lib.hid (B4.out.trans (hb.mono B4.out.size))
  clear hb Z4 B4
  cases o
  · go_wp2_with fail
    refine (sStandAll_any A2 c2 zs c d _ Z5.out (by omega) HS.out).mono ?_
    rw [HMS.out]
    rintro e w6 ⟨A6, c6, rfl, ho, hb⟩
    have J6 := Lib.hid (show IntsA w6 A6 ms from el_of_owns intC_len ho)
    have I6 := Lib.hid (I5.out.below hb)
    have B6 := Lib.hid (B5.out.trans (hb.mono B5.out.size))
    clear ho hb
    go_wp2_with fail
    refine (vaInts_same A3 A6 c3 c6 ms _ I6.out J6.out (by unfold maxLen; omega)).mono ?_
    rintro e w7 ⟨rfl, hb⟩
    have B7 := Lib.hid (B6.out.trans (hb.mono B6.out.size))
    clear hb
    go_wp2
    go_ret
    exact ⟨rfl, B7.out⟩
  go_wp2_with fail
  refine (SpanOk_valS c d _ u HU.out).mono ?_
  rintro e w8 ⟨rfl, hb⟩
  have I8 := Lib.hid (I5.out.below hb)
  clear I5
  replace s0 := cellBelow hb ls s0
  replace s1 := cellBelow hb ls s1
  replace ls := Nat.lt_of_lt_of_le ls hb.size
  have Z8 := Lib.hid (Z5.out.below hb)
  have B8 := Lib.hid (B5.out.trans (hb.mono B5.out.size))
  clear hb Z5 B5
  cases u
  · go_wp2_with fail
    refine (sStandAll_any A2 c2 zs c d _ Z8.out (by omega) HS.out).mono ?_
    rw [HMS.out]
    rintro e w6 ⟨A6, c6, rfl, ho, hb⟩
    have J6 := Lib.hid (show IntsA w6 A6 ms from el_of_owns intC_len ho)
    have I6 := Lib.hid (I8.out.below hb)
    have B6 := Lib.hid (B8.out.trans (hb.mono B8.out.size))
    clear ho hb
    go_wp2_with fail
    refine (vaInts_same A3 A6 c3 c6 ms _ I6.out J6.out (by unfold maxLen; omega)).mono ?_
    rintro e w7 ⟨rfl, hb⟩
    have B7 := Lib.hid (B6.out.trans (hb.mono B6.out.size))
    clear hb
    go_wp2
    go_ret
    exact ⟨rfl, B7.out⟩
  have HLE := Lib.hid (HLN.out HO.out HU.out)
  go_wp2
  have S0 := Lib.hid s0
  have S1 := Lib.hid s1
  clear s0 s1
  go_loopw [6] (fun i wr => ∃ k : Nat, k ≤ ms.length ∧ i = .int .i64 k ∧ Below w8.heap.size w8 wr) (fun i _ => ms.length - (intOf i).toNat)
  case atStart => exact ⟨0, Nat.zero_le _, rfl, Below.refl _ _⟩
  case round =>
    obtain ⟨k, hk, rfl, hbr⟩ := hrel
    have t0 := cellBelow hbr ls S0.out
    have t1 := cellBelow hbr ls S1.out
    have hsz := hbr.size
    have BW := Lib.hid (B8.out.trans (hbr.mono B8.out.size))
    have ZW := Lib.hid (Z8.out.below hbr)
    by_cases hlt : k < ms.length
    · have hltz : k < zs.length := by have := HLE.out; omega
      obtain ⟨g3, off3, y, rfl, hg3, hy, q0⟩ := (I8.out.below hbr).at_ hlt
      obtain ⟨b, off, x, rfl, hb, hx, c0, c1, c2', c3'⟩ := ZW.out.at_ hltz
      have HX := Lib.hid (HAT.out HO.out HU.out k x y hx hy)
      have hkz : (k : Int) < (ms.length : Int) := by omega
      have hkz2 : (k : Int) < (zs.length : Int) := by omega
      have hkz0 : (0 : Int) ≤ (k : Int) := by omega
      have hGwr : G < wr.heap.size := by omega
      clear hx hy
      go_upto_region 10 with fail
      refine wp_region_later (by kernel_rfl) (by kernel_rfl) ?_
      intro f hf1 hf2 hfc
      repeat (go_big_quiet_step ((go_at_call 14; exact calls_later hf1 hf2 (StandOf_val _ _ _ _ _ _ HX.out))))
      refine wpQuiet_nil ?_
      rintro _ ⟨v, rfl⟩
      have Hv := Lib.hid (hbr.trans ((hf1.out v).mono hbr.size))
      clear hfc
      go_wp2
      go_roundw
      case rel => exact ⟨k + 1, by omega, by go_num, Hv.out⟩
      case measure => simp [intOf]; omega
    · obtain rfl : k = ms.length := by omega
      go_wp2
      go_ret
      exact ⟨by first | rfl | simp [HLE.out], BW.out⟩
end Go.Proofs.Ytmfpojminbkojaa
