/-
  The walk of FnIndexStab.
-/
import Derived.Test.YtphinkcfmdnpfaaIdxV
import Derived.Test.YtphinkcfmdnpfaaDrawX
import Derived.Test.YtphinkcfmdnpfaaLawRM
import Derived.Test.YtphinkcfmdnpfaaLawMeet
namespace Go.Proofs.Ytphinkcfmdnpfaa
open Go.Shelf Go.RowKit Go.Lib

theorem hasB_meets (c : Int) (x : RowV) : meetsB c (c + 1) x = hasB x.f x.e c := by
  unfold meetsB hasB
  rw [← Bool.decide_and, decide_eq_decide]
  omega
theorem relAt_filter {t : List RowV} (h : relOk t = true) (c : Int) : relAtL t c = (t.filter (meetsB c (c + 1))).map pairOf := by
  unfold relAtL atTo
  rw [if_pos h, List.take_length]
  congr 1
  exact List.filter_congr fun x _ => (hasB_meets c x).symm
theorem rel_shortI (zs : List RowV) : Short (relOfL zs) := fun r hr => by
  obtain ⟨w1, w2, _⟩ := rowOk_iff.1 ((rel_apart (relOf_isOk zs)).1 r hr)
  simp only [wordB, Bool.and_eq_true, decide_eq_true_eq] at w1 w2
  have a1 := w1.1.2
  have a2 := w2.1.2
  unfold maxLen
  omega
/-- What the law says of a tree and a point of it. -/
theorem stab_facts {x : List NodV} {c : Int} (h : idxB x = true) (h1 : ¬ c < 0) (h2 : ¬ (99 : Int) < c) : relAtL (relOfL (metR x c (IntKind.i64.wrap (c + 1))).1) c = relAtL (relOfL (rowsN x)) c ∧ (metR x c (IntKind.i64.wrap (c + 1))).1.length = (relAtL (relOfL (rowsN x)) c).length ∧ Short (metR x c (IntKind.i64.wrap (c + 1))).1 := by
  have hin : inB c 0 99 = true := by unfold inB; rw [decide_eq_true_eq]; omega
  obtain ⟨e1, e2⟩ := stab_in hin
  rw [e1]
  have e3 : (metR x c (c + 1)).1 = metL x c (c + 1) := by rw [metR_in h e2, treeN_at h]; rfl
  rw [e3, stab_rel h c]
  have hf := met_facts h c (c + 1)
  obtain ⟨t, ht, hx, e0⟩ := idx_known h
  rw [e0] at hf ⊢
  have hs : relOk (t.filter (meetsB c (c + 1))) = true := rel_subU ht List.filter_sublist
  refine ⟨?_, ?_, fun r hr => ?_⟩
  · rw [relAt_filter hs, relAt_filter ht, List.filter_filter]
    congr 1
    exact List.filter_congr fun x _ => by rw [Bool.and_self]
  · rw [hf.1, relAt_filter ht, List.length_map]
    exact ((sortF_perm t).filter _).length_eq
  · have hm := (hf.2.2.2.2.2 r hr).2
    obtain ⟨w1, w2, _⟩ := rowOk_iff.1 ((rel_apart ht).1 r hm)
    simp only [wordB, Bool.and_eq_true, decide_eq_true_eq] at w1 w2
    have a1 := w1.1.2
    have a2 := w2.1.2
    unfold maxLen
    omega

set_option maxRecDepth 100000 in
set_option maxHeartbeats 8000000 in
theorem FnIndexStab_any (A : Option Addr) (n cap : Nat) (bs : List Int) (w : World) (hz : Bytes w w.heap.size A bs ∧ bs.length = n ∧ n ≤ cap ∧ cap ≤ maxLen) :
    Calls Try.prog 12 #[.slice A n cap] w fun e w' => e = .returned (.bool true) ∧ Below w.heap.size w w' := by
  obtain ⟨i0, hi, hz0, hz1, hz2⟩ := info_parts Try.infoR70
  have Hi := Lib.hid hi
  have Hz0 := Lib.hid hz0
  have Hz1 := Lib.hid hz1
  have Hz2 := Lib.hid hz2
  clear hi hz0 hz1 hz2
  obtain ⟨hz, rfl, hc, hm⟩ := hz
  have hm' := hm
  unfold maxLen at hm'
  by_cases hl0 : (1048576 : Int) < bs.length
  · go_enter Try.func12, Try.ntmps12
    go_wp2
    go_ret
    exact ⟨rfl, Below.refl _ _⟩
  · go_enter Try.func12, Try.ntmps12
    go_wp2_with fail
    refine (DrawIndexStab_any A cap bs w hz hc hm).mono ?_
    rintro e w0 ⟨xs, A1, c1, c, rfl, hcl, hcr, hla, hsx, hox, hb0⟩
    have X0 := Lib.hid (show NodsA w0 A1 xs from el_of_owns nodC_len hox)
    have HCP := Lib.hid (owns_cap hox)
    have HSX := Lib.hid hsx
    have B0 := Lib.hid hb0
    have hla' : xs.length ≤ 1048577 := by omega
    have hML := (metR_len xs c (IntKind.i64.wrap (c + 1))).1
    have HSF := Lib.hid (fun h h1 h2 => stab_facts (x := xs) (c := c) h h1 h2)
    have HC1 := Lib.hid (fun w' hx => IndexStab_any A1 c1 xs c w' hx hla' hsx)
    have HC2 := Lib.hid (fun w' hx => sIndexStab_any A1 c1 xs c w' hx HCP.out hla' hsx)
    obtain ⟨ms, hms⟩ : ∃ ms, (metR xs c (IntKind.i64.wrap (c + 1))).1 = ms := ⟨_, rfl⟩
    rw [hms] at hML HSF HC1 HC2
    have hml : ms.length ≤ 1048577 := by omega
    clear hox hsx hz hc hm hm' hms hb0
    go_wp2_with fail
    refine (HC1.out w0 X0.out).mono ?_
    rintro e w1 ⟨A3, c3, rfl, ho, hb⟩
    have L1 := Lib.hid (show RowsA w1 A3 ms from el_of_owns rowC_len ho)
    have NL := Lib.hid (owns_nilcap ho)
    have X1 := Lib.hid (X0.out.below hb)
    have B1 := Lib.hid (B0.out.trans (hb.mono B0.out.size))
    clear ho hb B0 X0 HC1
    go_wp2_with fail
    refine (HC2.out w1 X1.out).mono ?_
    rintro e w2 ⟨A4, c4, rfl, ho, hb⟩
    have W2 := Lib.hid (show RowsA w2 A4 ms from el_of_owns rowC_len ho)
    have L2 := Lib.hid (L1.out.below hb)
    have X2 := Lib.hid (X1.out.below hb)
    have B2 := Lib.hid (B1.out.trans (hb.mono B1.out.size))
    clear ho hb B1 X1 L1
    go_wp2_with fail
    refine (vaRows_any _ _ _ _ ms ms _ L2.out W2.out hml).mono ?_
    rintro e w3 ⟨v3, hv3, rfl, hb⟩
    obtain rfl : v3 = true := hv3.2 rfl
    have L3 := Lib.hid (L2.out.below hb)
    have X3 := Lib.hid (X2.out.below hb)
    have B3 := Lib.hid (B2.out.trans (hb.mono B2.out.size))
    have HIK := Lib.hid (IndexOk_any A1 c1 xs w3 X3.out hla' HSX.out)
    obtain ⟨o, ho⟩ : ∃ o, idxB xs = o := ⟨_, rfl⟩
    rw [ho] at HIK HSF
    have HO := Lib.hid ho
    clear hv3 hb B2 X2 L2 W2 ho
    go_wp2_with fail
    refine HIK.out.mono ?_
    rintro e w4 ⟨rfl, hb⟩
    have L4 := Lib.hid (L3.out.below hb)
    have X4 := Lib.hid (X3.out.below hb)
    have B4 := Lib.hid (B3.out.trans (hb.mono B3.out.size))
    clear hb B3 X3 L3 HIK
    cases o
    · go_wp2_with fail
      refine (HC2.out w4 X4.out).mono ?_
      rintro e w5 ⟨A5, c5, rfl, ho, hb⟩
      have W5 := Lib.hid (show RowsA w5 A5 ms from el_of_owns rowC_len ho)
      have L5 := Lib.hid (L4.out.below hb)
      have B5 := Lib.hid (B4.out.trans (hb.mono B4.out.size))
      clear ho hb
      go_wp2_with fail
      refine (vaRows_any _ _ _ _ ms ms _ L5.out W5.out hml).mono ?_
      rintro e w6 ⟨v3, hv3, rfl, hb⟩
      obtain rfl : v3 = true := hv3.2 rfl
      have BZ := Lib.hid (B5.out.trans (hb.mono B5.out.size))
      clear hb hv3
      go_wp2
      go_ret
      exact ⟨rfl, BZ.out⟩
    · by_cases h1 : c < 0
      · have n1 : decide (c < 0) = true := decide_eq_true h1
        go_wp2_with fail
        refine (HC2.out w4 X4.out).mono ?_
        rintro e w5 ⟨A5, c5, rfl, ho, hb⟩
        have W5 := Lib.hid (show RowsA w5 A5 ms from el_of_owns rowC_len ho)
        have L5 := Lib.hid (L4.out.below hb)
        have B5 := Lib.hid (B4.out.trans (hb.mono B4.out.size))
        clear ho hb
        go_wp2_with fail
        refine (vaRows_any _ _ _ _ ms ms _ L5.out W5.out hml).mono ?_
        rintro e w6 ⟨v3, hv3, rfl, hb⟩
        obtain rfl : v3 = true := hv3.2 rfl
        have BZ := Lib.hid (B5.out.trans (hb.mono B5.out.size))
        clear hb hv3
        go_wp2
        go_ret
        exact ⟨rfl, BZ.out⟩
      · by_cases h2 : (99 : Int) < c
        · go_wp2_with fail
          refine (HC2.out w4 X4.out).mono ?_
          rintro e w5 ⟨A5, c5, rfl, ho, hb⟩
          have W5 := Lib.hid (show RowsA w5 A5 ms from el_of_owns rowC_len ho)
          have L5 := Lib.hid (L4.out.below hb)
          have B5 := Lib.hid (B4.out.trans (hb.mono B4.out.size))
          clear ho hb
          go_wp2_with fail
          refine (vaRows_any _ _ _ _ ms ms _ L5.out W5.out hml).mono ?_
          rintro e w6 ⟨v3, hv3, rfl, hb⟩
          obtain rfl : v3 = true := hv3.2 rfl
          have BZ := Lib.hid (B5.out.trans (hb.mono B5.out.size))
          clear hb hv3
          go_wp2
          go_ret
          exact ⟨rfl, BZ.out⟩
        · have HF := Lib.hid (HSF.out (by first | rfl | trivial) (by first | exact h1 | omega) (by first | exact h2 | omega))
          have h1' : (0 : Int) ≤ c := by omega
          have h2' : c ≤ 99 := by omega
          clear HSF HC2 h1 h2
          obtain ⟨wB, rfl⟩ : ∃ W, W = w4 := ⟨_, rfl⟩
          go_wp2
          go_loopw [6, 7] (fun v i wr => ∃ k : Nat, k ≤ xs.length ∧ i = .int .i64 k ∧ wr.ownsRow wB.heap.size 70 4 v k (flatOf rowC (rowsN (xs.take k))) ∧ Below wB.heap.size wB wr) (fun _ i _ => xs.length - (intOf i).toNat)
          case atStart =>
            refine ⟨0, Nat.zero_le _, rfl, ?_, (Below.refl _ _).alloc (Nat.le_refl _) _⟩
            have := World.ownsRow_lit (base := wB.heap.size) (e := 70) (size := 4) wB #[] 0 (by simp) (by simp [maxLen]) (by simp)
            simpa [flatOf, rowsN] using this
          case round =>
            obtain ⟨k, hk, rfl, hown, hbr⟩ := hrel
            have Hown := Lib.hid hown
            clear hown
            by_cases hlt : k < xs.length
            · obtain ⟨b, off, y, rfl, hb, hxk, p0, p1, p2, p3, p4, p5⟩ := (X4.out.below hbr).at_ hlt
              have HT := Lib.hid (rowsN_take hxk)
              obtain ⟨oo, hoo⟩ : ∃ oo, rowsN (xs.take k) = oo := ⟨_, rfl⟩
              rw [hoo] at Hown HT
              have hkz : (k : Int) < (xs.length : Int) := by omega
              have hkz0 : (0 : Int) ≤ (k : Int) := by omega
              have hs5 := hbr.size
              clear hxk hoo p4 p5
              go_wp2_with (at_builtin; refine wpList_append_own _ rfl _ _ 23 rfl wB.heap.size 70 i0 _ 4 48 Try.underlying23 Hi.out Hz0.out Hz1.out Hz2.out rfl (by decide) _ k (flatOf rowC oo) rfl (Hown.out.alloc _) ⟨wr.heap.size, 0, none⟩ 1 1 [.string y.r.k, .string y.r.t, .int .i64 y.r.f, .int .i64 y.r.e] rfl rfl (newsFour (by simp) (by simp) (by simp) (by simp)) (by simp [Value.oneCell']) (by unfold maxLen; omega) (by omega) (by simp; omega) ?_; intro v' w9 hown' hgrow hnil; have O9 := Lib.hid hown'; have B9 := Lib.hid ((hbr.alloc hs5 _).grown hgrow (by simp; omega) (fun i e => by have := (Hown.out.lt i e).1; omega)); clear hown' hgrow hnil)
              refine ⟨⟨k + 1, by omega, by simp, ?_, B9.out⟩, ?_⟩
              · rw [HT.out, flatOf_append, flatOf_one]
                exact O9.out
              · simp [intOf]; omega
            · obtain rfl : k = xs.length := by omega
              rw [List.take_length] at Hown
              obtain ⟨A5, c5, rfl⟩ := owns_formN Hown.out
              have HRN := Lib.hid (rowsN_len xs)
              have HSR := Lib.hid (shortN_rows HSX.out)
              have hrl24 := relOf_len (rowsN xs)
              have hsl24 := relOf_len ms
              have HST := Lib.hid (rel_shortI (rowsN xs))
              have HSM := Lib.hid (rel_shortI ms)
              obtain ⟨rs, hrs⟩ : ∃ rs, rowsN xs = rs := ⟨_, rfl⟩
              rw [hrs] at Hown HF HRN HSR hrl24 HST
              have hrl : rs.length ≤ 1048577 := by rw [HRN.out]; omega
              have S5 := Lib.hid (show RowsA wr A5 rs from rowsA_own Hown.out HRN.out.symm)
              have N5 := Lib.hid (owns_nilcap Hown.out)
              have R5 := Lib.hid (B4.out.trans (hbr.mono B4.out.size))
              have L5 := Lib.hid (L4.out.below hbr)
              have HRO := Lib.hid (RelOf_any A5 c5 rs wr S5.out N5.out hrl HSR.out)
              obtain ⟨t, ht⟩ : ∃ t, relOfL rs = t := ⟨_, rfl⟩
              obtain ⟨s, hs⟩ : ∃ s, relOfL ms = s := ⟨_, rfl⟩
              have HSMS := Lib.hid hs
              rw [ht] at HF HRO hrl24 HST
              rw [HRN.out] at HRO
              rw [hs] at HF hsl24 HSM
              have hpl := relAtL_len t c
              obtain ⟨ps, hps⟩ : ∃ ps, relAtL t c = ps := ⟨_, rfl⟩
              have HPS := Lib.hid hps
              rw [hps] at HF hpl
              clear hbr Hown hrs ht hps hs
              go_wp2_with fail
              refine HRO.out.mono ?_
              rintro e w6 ⟨A6, c6, rfl, ho, hb⟩
              have T6 := Lib.hid (show RowsA w6 A6 t from el_of_owns rowC_len ho)
              have L6 := Lib.hid (L5.out.below hb)
              have R6 := Lib.hid (R5.out.trans (hb.mono R5.out.size))
              clear ho hb HRO S5 R5 L5
              go_wp2_with fail
              refine (RelAt_any A6 c6 t c w6 T6.out (by omega) HST.out).mono ?_
              rw [HPS.out]
              rintro e w7 ⟨A7, c7, rfl, ho, hb⟩
              have P7 := Lib.hid (show PairsA w7 A7 ps from el_of_owns pairC_len ho)
              have L7 := Lib.hid (L6.out.below hb)
              have R7 := Lib.hid (R6.out.trans (hb.mono R6.out.size))
              have HRM := Lib.hid (RelOf_any A3 c3 ms w7 L7.out NL.out hml HF.out.2.2)
              rw [HSMS.out] at HRM
              clear ho hb R6 L6 T6
              go_wp2_with fail
              refine HRM.out.mono ?_
              rintro e w8 ⟨A8, c8, rfl, ho, hb⟩
              have S8 := Lib.hid (show RowsA w8 A8 s from el_of_owns rowC_len ho)
              have P8 := Lib.hid (P7.out.below hb)
              have R8 := Lib.hid (R7.out.trans (hb.mono R7.out.size))
              clear ho hb R7 L7 P7 HRM
              go_wp2_with fail
              refine (RelAt_any A8 c8 s c w8 S8.out (by omega) HSM.out).mono ?_
              rw [HF.out.1]
              rintro e w9 ⟨A9, c9, rfl, ho, hb⟩
              have Q9 := Lib.hid (show PairsA w9 A9 ps from el_of_owns pairC_len ho)
              have P9 := Lib.hid (P8.out.below hb)
              have R9 := Lib.hid (R8.out.trans (hb.mono R8.out.size))
              clear ho hb R8 S8 P8
              go_wp2_with fail
              refine (vaPairs_any _ _ _ _ ps ps _ Q9.out P9.out (by omega)).mono ?_
              rintro e w10 ⟨v3, hv3, rfl, hb⟩
              obtain rfl : v3 = true := hv3.2 rfl
              have BZ := Lib.hid (R9.out.trans (hb.mono R9.out.size))
              have zl : ((ms.length : Int) == (ps.length : Int)) = true := by rw [HF.out.2.1]; simp
              clear hb hv3
              go_wp2
              go_ret
              exact ⟨by first | rfl | (rw [zl]; done) | (simp [HF.out.2.1]; done), BZ.out⟩
end Go.Proofs.Ytphinkcfmdnpfaa
