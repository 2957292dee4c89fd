/-
  The walk of the law of what went and came (P31).
-/
import Derived.Test.YtkalanjgjeijbaaDrawSh
import Derived.Test.YtkalanjgjeijbaaVaR
import Derived.Test.YtkalanjgjeijbaaStoDg
import Derived.Test.YtkalanjgjeijbaaStoAt
namespace Go.Proofs.Ytkalanjgjeijbaa
open Go.Shelf Go.RowKit Go.Lib Go.Sort

theorem at_okD {zs : List VerV} {now st : Int} (h : storeB zs now = true) : relOk (storeAtL zs now st) = true := by
  obtain ⟨hn0, _, hs⟩ := storeB_iff.1 h
  rw [storeAtL, if_pos h]
  by_cases h1 : min st now < 1
  · have e := live_none h h1
    have : liveS zs (min st now) = [] := by unfold liveS; rw [e]; rfl
    rw [this]; rfl
  · obtain ⟨q, hq⟩ : ∃ q : Nat, min st now = q := ⟨(min st now).toNat, by omega⟩
    rw [hq]
    unfold stampsB at hs
    exact List.all_eq_true.1 hs q (by rw [List.mem_range]; omega)
theorem apart_nodupD {m : List RowV} (h : relOk m = true) : m.Nodup := by
  obtain ⟨h1, h2⟩ := rel_apart h
  have h3 : ∀ x ∈ m, x.f < x.e := fun x hx => (rowOk_iff.1 (h1 x hx)).2.2.2.1
  refine List.Pairwise.imp_of_mem ?_ h2
  rintro a b ha hb hab rfl
  have := h3 a ha
  unfold adj at hab
  rcases hab with h | h
  · rw [kl_irrefl] at h; cases h
  · omega
theorem besides_part (x y : List RowV) : (besides x y).length + (x.filter (fun r => hasR y r)).length = x.length := by
  induction x with
  | nil => rfl
  | cons a l ih =>
    unfold besides at ih ⊢
    rw [List.filter_cons, List.filter_cons]
    cases hasR y a <;> simp <;> omega
theorem both_len {x y : List RowV} (hx : x.Nodup) (hy : y.Nodup) : (x.filter (fun r => hasR y r)).length = (y.filter (fun r => hasR x r)).length := by
  refine ((List.perm_ext_iff_of_nodup (hx.filter _) (hy.filter _)).2 fun r => ?_).length_eq
  rw [List.mem_filter, List.mem_filter, hasR_iff, hasR_iff]
  exact ⟨fun h => ⟨h.2, h.1⟩, fun h => ⟨h.2, h.1⟩⟩
theorem diff_sum {x y : List RowV} (hx : relOk x = true) (hy : relOk y = true) : (x.length : Int) - (besides x y).length + (besides y x).length = y.length := by
  have h1 := besides_part x y
  have h2 := besides_part y x
  have h3 := both_len (apart_nodupD hx) (apart_nodupD hy)
  omega

set_option maxRecDepth 100000 in
set_option maxHeartbeats 8000000 in
theorem FnStoreDiff_any (A : Option Addr) (n cap : Nat) (bs : List Int) (w : World) (hz : Bytes w w.heap.size A bs ∧ bs.length = n ∧ n ≤ cap ∧ cap ≤ maxLen) :
    Calls Try.prog 3 #[.slice A n cap] w fun e w' => e = .returned (.bool true) ∧ Below w.heap.size w w' := by
  obtain ⟨hz, rfl, hc, hm⟩ := hz
  have hm' := hm
  unfold maxLen at hm'
  by_cases hl : (1048576 : Int) < bs.length
  · go_enter Try.func3, Try.ntmps3
    go_wp2
    go_ret
    exact ⟨rfl, Below.refl _ _⟩
  go_enter Try.func3, Try.ntmps3
  go_wp2_with fail
  refine (DrawStoreDiff_any A cap bs w hz hc hm).mono ?_
  rintro e w1 ⟨zs, now, A2, c2, a, b, rfl, hab, hzl, hsh, hnow, ho, hb1⟩
  have HS := Lib.hid hsh
  have Z1 := Lib.hid (show VersA w1 A2 zs from el_of_owns verC_len ho)
  have B1 := Lib.hid hb1
  clear hz hm hm' hc hsh ho hb1
  obtain ⟨sb, hsb⟩ : ∃ sb, storeB zs now = sb := ⟨_, rfl⟩
  have HSB := Lib.hid hsb
  have hxl := storeAtL_len zs now a
  have hyl := storeAtL_len zs now b
  obtain ⟨x, hx⟩ : ∃ x, storeAtL zs now a = x := ⟨_, rfl⟩
  obtain ⟨y, hy⟩ : ∃ y, storeAtL zs now b = y := ⟨_, rfl⟩
  have HX := Lib.hid hx
  have HY := Lib.hid hy
  rw [hx] at hxl
  rw [hy] at hyl
  have hgl := besides_len x y
  have hcl := besides_len y x
  have HSUM := Lib.hid (show sb = true → (x.length : Int) - (besides x y).length + (besides y x).length = y.length from fun e => by
    rw [e] at hsb
    exact diff_sum (by rw [← hx]; exact at_okD hsb) (by rw [← hy]; exact at_okD hsb))
  obtain ⟨g, hg⟩ : ∃ g, besides x y = g := ⟨_, rfl⟩
  obtain ⟨c, hcc⟩ : ∃ c, besides y x = c := ⟨_, rfl⟩
  have HG := Lib.hid hg
  have HC := Lib.hid hcc
  rw [hg] at hgl HSUM
  rw [hcc] at hcl HSUM
  clear hsb hx hy hg hcc
  go_wp2_with fail
  generalize hW : w1.alloc _ = W2
  have s0 : W2.cell? ⟨w1.heap.size, 0, none⟩ = some (.int .i64 now) := by rw [← hW]; simp [go_sem]
  have s1 : W2.cell? ⟨w1.heap.size, 1, none⟩ = some (.slice A2 zs.length c2) := by rw [← hW]; simp [go_sem]
  have ls : w1.heap.size < W2.heap.size := by rw [← hW]; simp
  have hb : Below w1.heap.size w1 W2 := by rw [← hW]; exact (Below.refl _ _).alloc (Nat.le_refl _) _
  have Z2 := Lib.hid (Z1.out.below hb)
  have B2 := Lib.hid (B1.out.trans (hb.mono B1.out.size))
  generalize w1.heap.size = G at *
  clear hW hb Z1 B1
  go_wp2_with fail
  refine (StoreDiff_any A2 c2 zs now a b _ Z2.out (by omega) HS.out).mono ?_
  rw [HX.out, HY.out, HG.out, HC.out]
  rintro e w3 ⟨A3, c3, A4, c4, rfl, ho1, ho2, -, hb⟩
  replace s0 := cellBelow hb ls s0
  replace s1 := cellBelow hb ls s1
  replace ls := Nat.lt_of_lt_of_le ls hb.size
  have Z3 := Lib.hid (Z2.out.below hb)
  have B3 := Lib.hid (B2.out.trans (hb.mono B2.out.size))
  have GA3 := Lib.hid (show RowsA w3 A3 g from el_of_owns rowC_len ho1)
  clear ho1
  have CA3 := Lib.hid (show RowsA w3 A4 c from el_of_owns rowC_len ho2)
  clear ho2
  clear hb Z2 B2
  go_wp2_with fail
  refine (sStoreDiff_any A2 c2 zs now a b _ Z3.out (by omega) HS.out).mono ?_
  rw [HX.out, HY.out, HG.out, HC.out]
  rintro e w4 ⟨A5, c5, A6, c6, rfl, ho1, ho2, -, hb⟩
  replace s0 := cellBelow hb ls s0
  replace s1 := cellBelow hb ls s1
  replace ls := Nat.lt_of_lt_of_le ls hb.size
  have Z4 := Lib.hid (Z3.out.below hb)
  have B4 := Lib.hid (B3.out.trans (hb.mono B3.out.size))
  have GA4 := Lib.hid (GA3.out.below hb)
  clear GA3
  have CA4 := Lib.hid (CA3.out.below hb)
  clear CA3
  have GB4 := Lib.hid (show RowsA w4 A5 g from el_of_owns rowC_len ho1)
  clear ho1
  have CB4 := Lib.hid (show RowsA w4 A6 c from el_of_owns rowC_len ho2)
  clear ho2
  clear hb Z3 B3
  go_wp2_with fail
  refine (vaRows_same A3 A5 c3 c5 g _ GA4.out GB4.out (by unfold maxLen; omega)).mono ?_
  rintro e w5 ⟨rfl, hb⟩
  replace s0 := cellBelow hb ls s0
  replace s1 := cellBelow hb ls s1
  replace ls := Nat.lt_of_lt_of_le ls hb.size
  have Z5 := Lib.hid (Z4.out.below hb)
  have B5 := Lib.hid (B4.out.trans (hb.mono B4.out.size))
  have GA5 := Lib.hid (GA4.out.below hb)
  clear GA4
  have CA5 := Lib.hid (CA4.out.below hb)
  clear CA4
  have GB5 := Lib.hid (GB4.out.below hb)
  clear GB4
  have CB5 := Lib.hid (CB4.out.below hb)
  clear CB4
  clear hb Z4 B4
  go_wp2_with fail
  refine (vaRows_same A4 A6 c4 c6 c _ CA5.out CB5.out (by unfold maxLen; omega)).mono ?_
  rintro e w6 ⟨rfl, hb⟩
  replace s0 := cellBelow hb ls s0
  replace s1 := cellBelow hb ls s1
  replace ls := Nat.lt_of_lt_of_le ls hb.size
  have Z6 := Lib.hid (Z5.out.below hb)
  have B6 := Lib.hid (B5.out.trans (hb.mono B5.out.size))
  have GA6 := Lib.hid (GA5.out.below hb)
  clear GA5
  have CA6 := Lib.hid (CA5.out.below hb)
  clear CA5
  have GB6 := Lib.hid (GB5.out.below hb)
  clear GB5
  have CB6 := Lib.hid (CB5.out.below hb)
  clear CB5
  clear hb Z5 B5
  go_wp2_with fail
  refine (StoreOk_any A2 c2 zs now _ Z6.out (by omega) HS.out).mono ?_
  rw [HSB.out]
  rintro e w7 ⟨rfl, hb⟩
  replace s0 := cellBelow hb ls s0
  replace s1 := cellBelow hb ls s1
  replace ls := Nat.lt_of_lt_of_le ls hb.size
  have Z7 := Lib.hid (Z6.out.below hb)
  have B7 := Lib.hid (B6.out.trans (hb.mono B6.out.size))
  have GA7 := Lib.hid (GA6.out.below hb)
  clear GA6
  have CA7 := Lib.hid (CA6.out.below hb)
  clear CA6
  have GB7 := Lib.hid (GB6.out.below hb)
  clear GB6
  have CB7 := Lib.hid (CB6.out.below hb)
  clear CB6
  clear hb Z6 B6
  cases sb
  · skip
    go_wp2_with fail
    refine (vaRows_same A3 A5 c3 c5 g _ GA7.out GB7.out (by unfold maxLen; omega)).mono ?_
    rintro e w8 ⟨rfl, hb⟩
    replace s0 := cellBelow hb ls s0
    replace s1 := cellBelow hb ls s1
    replace ls := Nat.lt_of_lt_of_le ls hb.size
    have Z8 := Lib.hid (Z7.out.below hb)
    have B8 := Lib.hid (B7.out.trans (hb.mono B7.out.size))
    have GA8 := Lib.hid (GA7.out.below hb)
    clear GA7
    have CA8 := Lib.hid (CA7.out.below hb)
    clear CA7
    have GB8 := Lib.hid (GB7.out.below hb)
    clear GB7
    have CB8 := Lib.hid (CB7.out.below hb)
    clear CB7
    clear hb Z7 B7
    go_wp2_with fail
    refine (vaRows_same A4 A6 c4 c6 c _ CA8.out CB8.out (by unfold maxLen; omega)).mono ?_
    rintro e w9 ⟨rfl, hb⟩
    replace s0 := cellBelow hb ls s0
    replace s1 := cellBelow hb ls s1
    replace ls := Nat.lt_of_lt_of_le ls hb.size
    have Z9 := Lib.hid (Z8.out.below hb)
    have B9 := Lib.hid (B8.out.trans (hb.mono B8.out.size))
    have GA9 := Lib.hid (GA8.out.below hb)
    clear GA8
    have CA9 := Lib.hid (CA8.out.below hb)
    clear CA8
    have GB9 := Lib.hid (GB8.out.below hb)
    clear GB8
    have CB9 := Lib.hid (CB8.out.below hb)
    clear CB8
    clear hb Z8 B8
    go_wp2
    go_ret
    exact ⟨rfl, B9.out⟩
  have hsum := HSUM.out rfl
  clear HSUM
  go_wp2_with fail
  refine (StoreDiff_any A2 c2 zs now b a _ Z7.out (by omega) HS.out).mono ?_
  rw [HX.out, HY.out, HG.out, HC.out]
  rintro e w8 ⟨A7, c7, A8, c8, rfl, ho1, ho2, -, hb⟩
  replace s0 := cellBelow hb ls s0
  replace s1 := cellBelow hb ls s1
  replace ls := Nat.lt_of_lt_of_le ls hb.size
  have Z8 := Lib.hid (Z7.out.below hb)
  have B8 := Lib.hid (B7.out.trans (hb.mono B7.out.size))
  have GA8 := Lib.hid (GA7.out.below hb)
  clear GA7
  have CA8 := Lib.hid (CA7.out.below hb)
  clear CA7
  have GB8 := Lib.hid (GB7.out.below hb)
  clear GB7
  have CB8 := Lib.hid (CB7.out.below hb)
  clear CB7
  have CD8 := Lib.hid (show RowsA w8 A7 c from el_of_owns rowC_len ho1)
  clear ho1
  have GD8 := Lib.hid (show RowsA w8 A8 g from el_of_owns rowC_len ho2)
  clear ho2
  clear hb Z7 B7
  go_wp2_with fail
  refine (StoreAt_any A2 c2 zs now a _ Z8.out (by omega) HS.out).mono ?_
  rw [HX.out]
  rintro e w9 ⟨A9, c9, rfl, -, hb⟩
  replace s0 := cellBelow hb ls s0
  replace s1 := cellBelow hb ls s1
  replace ls := Nat.lt_of_lt_of_le ls hb.size
  have Z9 := Lib.hid (Z8.out.below hb)
  have B9 := Lib.hid (B8.out.trans (hb.mono B8.out.size))
  have GA9 := Lib.hid (GA8.out.below hb)
  clear GA8
  have CA9 := Lib.hid (CA8.out.below hb)
  clear CA8
  have GB9 := Lib.hid (GB8.out.below hb)
  clear GB8
  have CB9 := Lib.hid (CB8.out.below hb)
  clear CB8
  have CD9 := Lib.hid (CD8.out.below hb)
  clear CD8
  have GD9 := Lib.hid (GD8.out.below hb)
  clear GD8
  clear hb Z8 B8
  go_wp2_with fail
  refine (vaRows_same A7 A4 c7 c4 c _ CD9.out CA9.out (by unfold maxLen; omega)).mono ?_
  rintro e w10 ⟨rfl, hb⟩
  replace s0 := cellBelow hb ls s0
  replace s1 := cellBelow hb ls s1
  replace ls := Nat.lt_of_lt_of_le ls hb.size
  have Z10 := Lib.hid (Z9.out.below hb)
  have B10 := Lib.hid (B9.out.trans (hb.mono B9.out.size))
  have GA10 := Lib.hid (GA9.out.below hb)
  clear GA9
  have CA10 := Lib.hid (CA9.out.below hb)
  clear CA9
  have GB10 := Lib.hid (GB9.out.below hb)
  clear GB9
  have CB10 := Lib.hid (CB9.out.below hb)
  clear CB9
  have CD10 := Lib.hid (CD9.out.below hb)
  clear CD9
  have GD10 := Lib.hid (GD9.out.below hb)
  clear GD9
  clear hb Z9 B9
  go_wp2_with fail
  refine (vaRows_same A8 A3 c8 c3 g _ GD10.out GA10.out (by unfold maxLen; omega)).mono ?_
  rintro e w11 ⟨rfl, hb⟩
  replace s0 := cellBelow hb ls s0
  replace s1 := cellBelow hb ls s1
  replace ls := Nat.lt_of_lt_of_le ls hb.size
  have Z11 := Lib.hid (Z10.out.below hb)
  have B11 := Lib.hid (B10.out.trans (hb.mono B10.out.size))
  have GA11 := Lib.hid (GA10.out.below hb)
  clear GA10
  have CA11 := Lib.hid (CA10.out.below hb)
  clear CA10
  have GB11 := Lib.hid (GB10.out.below hb)
  clear GB10
  have CB11 := Lib.hid (CB10.out.below hb)
  clear CB10
  have CD11 := Lib.hid (CD10.out.below hb)
  clear CD10
  have GD11 := Lib.hid (GD10.out.below hb)
  clear GD10
  clear hb Z10 B10
  go_wp2_with fail
  refine (StoreAt_any A2 c2 zs now b _ Z11.out (by omega) HS.out).mono ?_
  rw [HY.out]
  rintro e w12 ⟨A10, c10, rfl, -, hb⟩
  replace s0 := cellBelow hb ls s0
  replace s1 := cellBelow hb ls s1
  replace ls := Nat.lt_of_lt_of_le ls hb.size
  have Z12 := Lib.hid (Z11.out.below hb)
  have B12 := Lib.hid (B11.out.trans (hb.mono B11.out.size))
  have GA12 := Lib.hid (GA11.out.below hb)
  clear GA11
  have CA12 := Lib.hid (CA11.out.below hb)
  clear CA11
  have GB12 := Lib.hid (GB11.out.below hb)
  clear GB11
  have CB12 := Lib.hid (CB11.out.below hb)
  clear CB11
  have CD12 := Lib.hid (CD11.out.below hb)
  clear CD11
  have GD12 := Lib.hid (GD11.out.below hb)
  clear GD11
  clear hb Z11 B11
  go_wp2
  go_ret
  exact ⟨by simp, B12.out⟩
end Go.Proofs.Ytkalanjgjeijbaa
