/-
  The walk of FnBad.
-/
import Derived.Test.YtphinkcfmdnpfaaCombBM
import Derived.Test.YtphinkcfmdnpfaaCombFb
import Derived.Test.YtphinkcfmdnpfaaDrawJ
import Derived.Test.YtphinkcfmdnpfaaLawMeet
namespace Go.Proofs.Ytphinkcfmdnpfaa
open Go.Shelf Go.RowKit Go.Lib Go.Sort

set_option maxRecDepth 100000 in
set_option maxHeartbeats 4000000 in
theorem FnBad_any (A : Option Addr) (n cap : Nat) (bs : List Int) (w : World) (hz : Bytes w w.heap.size A bs ∧ bs.length = n ∧ n ≤ cap ∧ cap ≤ maxLen) :
    Calls Try.prog 4 #[.slice A n cap] w fun e w' => e = .returned (.bool true) ∧ Below w.heap.size w w' := by
  obtain ⟨i0, hi, hz0, hz1, hz2⟩ := info_parts Try.infoP44
  have Hi := Lib.hid hi
  have Hz0 := Lib.hid hz0
  have Hz1 := Lib.hid hz1
  have Hz2 := Lib.hid hz2
  clear hi hz0 hz1 hz2
  obtain ⟨hz, rfl, hc, hm⟩ := hz
  have hm' := hm
  unfold maxLen at hm'
  by_cases hl0 : (1048576 : Int) < bs.length
  · go_enter Try.func4, Try.ntmps4
    go_wp2
    go_ret
    exact ⟨rfl, Below.refl _ _⟩
  · go_enter Try.func4, Try.ntmps4
    go_wp2_with fail
    refine (DrawRelBad_any A cap bs w hz hc hm).mono ?_
    rintro e w0 ⟨za, zb, A1, A2, c1, c2, rfl, hla, hlb, hsa, hsb, hoa, hob, hb0⟩
    have TA := Lib.hid (rowsA_own hoa rfl)
    have TB := Lib.hid (rowsA_own hob rfl)
    have NA := Lib.hid (owns_nilE hoa)
    have NB := Lib.hid (owns_nilE hob)
    have HSA := Lib.hid hsa
    have HSB := Lib.hid hsb
    have B0 := Lib.hid hb0
    have hla' : za.length ≤ 1048577 := by omega
    have hlb' : zb.length ≤ 1048577 := by omega
    have hxl := relBadS_len za zb
    obtain ⟨px, hpx⟩ : ∃ px, relBadS za zb = px := ⟨_, rfl⟩
    rw [hpx] at hxl
    have HX := Lib.hid hpx
    clear hoa hob hsa hsb hb0 hz hc hm hm' hpx
    obtain ⟨xs, ok⟩ := px
    replace hxl : xs.length ≤ 24 := hxl
    have R0 := Lib.hid (Below.refl w0.heap.size w0)
    go_wp2_with fail
    refine (RelBad_any A1 A2 c1 c2 za zb w0 TA.out TB.out NA.out NB.out hla' hlb' HSA.out HSB.out).mono ?_
    rw [HX.out]
    rintro e w1 ⟨A3, c3, rfl, ho, hb⟩
    have X1 := Lib.hid (show RowsA w1 A3 xs from el_of_owns rowC_len ho)
    have R1 := Lib.hid hb
    clear ho hb R0
    go_wp2_with fail
    refine (sRelBad_any A1 A2 c1 c2 za zb w1 (TA.out.below R1.out) (TB.out.below R1.out) NA.out NB.out hla' hlb' HSA.out HSB.out).mono ?_
    rw [HX.out]
    rintro e w2 ⟨A4, c4, rfl, ho, hb⟩
    have Y2 := Lib.hid (show RowsA w2 A4 xs from el_of_owns rowC_len ho)
    have X2 := Lib.hid (X1.out.below hb)
    have R2 := Lib.hid (R1.out.trans (hb.mono R1.out.size))
    clear ho hb X1 R1
    have S2 := Lib.hid (Below.refl w2.heap.size w2)
    cases ok
    · go_wp2_with fail
      refine (vaRows_any _ _ _ _ xs xs _ X2.out Y2.out (by omega)).mono ?_
      rintro e w3 ⟨v3, hv3, rfl, hb⟩
      obtain rfl : v3 = true := hv3.2 rfl
      have S3 := Lib.hid (S2.out.trans (hb.mono S2.out.size))
      clear hb hv3
      go_wp2_with fail
      refine (vaRows_any _ _ _ _ xs xs _ (X2.out.below S3.out) (Y2.out.below S3.out) (by omega)).mono ?_
      rintro e w4 ⟨v3, hv3, rfl, hb⟩
      obtain rfl : v3 = true := hv3.2 rfl
      have S4 := Lib.hid (S3.out.trans (hb.mono S3.out.size))
      clear hb hv3
      have BZ := Lib.hid (B0.out.trans ((R2.out.trans (S4.out.mono R2.out.size)).mono B0.out.size))
      go_wp2
      go_ret
      exact ⟨rfl, BZ.out⟩
    · go_wp2_with fail
      refine (vaRows_any _ _ _ _ xs xs _ X2.out Y2.out (by omega)).mono ?_
      rintro e w3 ⟨v3, hv3, rfl, hb⟩
      obtain rfl : v3 = true := hv3.2 rfl
      have S3 := Lib.hid (S2.out.trans (hb.mono S2.out.size))
      clear hb hv3
      have X3 := Lib.hid (X2.out.below S3.out)
      have R3 := Lib.hid (R2.out.trans (S3.out.mono R2.out.size))
      clear X2 Y2 S2 S3 R2
      have HFF := bad_facts HX.out
      have HOA := Lib.hid HFF.1
      have HXO := Lib.hid HFF.2.2.1
      have HF := Lib.hid HFF.2.2.2
      have HSX := Lib.hid (ok_short HFF.2.2.1)
      clear HFF
      go_wp2
      go_loopw [9] (fun i wr => ∃ k : Nat, k ≤ 100 ∧ i = .int .i64 k ∧ Below w3.heap.size w3 wr) (fun i _ => 100 - (intOf i).toNat)
      case atStart => exact ⟨0, Nat.zero_le _, rfl, Below.refl _ _⟩
      case round =>
        obtain ⟨k, hk, rfl, hbr⟩ := hrel
        by_cases hlt : k < 100
        · have hkz : (k : Int) ≤ 99 := by omega
          have hkz0 : (0 : Int) ≤ (k : Int) := by omega
          have HAt := Lib.hid (HF.out k)
          have hpl := relAtL_len za k
          have hfl := relAtL_len xs k
          obtain ⟨ps, hps⟩ : ∃ ps, relAtL za k = ps := ⟨_, rfl⟩
          have HPS := Lib.hid hps
          rw [hps] at HAt hpl
          obtain ⟨fs, hfs⟩ : ∃ fs, relAtL xs k = fs := ⟨_, rfl⟩
          have HFS := Lib.hid hfs
          rw [hfs] at HAt hfl
          have BR := Lib.hid hbr
          clear hps hfs hbr
          go_wp2_with fail
          refine (RelAt_any A1 c1 za k _ (TA.out.below (R3.out.trans (BR.out.mono R3.out.size))) hla' HSA.out).mono ?_
          rw [HPS.out]
          rintro e w4 ⟨A5, c5, rfl, ho, hb⟩
          have P4 := Lib.hid (show PairsA w4 A5 ps from el_of_owns pairC_len ho)
          have B4 := Lib.hid (BR.out.trans (hb.mono BR.out.size))
          have OL := Lib.hid (World.ownsRow_lit (base := w4.heap.size) (e := 44) (size := 2) w4 #[] 0 (by simp) (by simp [maxLen]) (by simp))
          have BA := Lib.hid ((Below.refl w4.heap.size w4).alloc (Nat.le_refl _) (.cells #[] 44))
          clear ho hb BR
          go_wp2
          go_loopw [11, 12] (fun v jv wi => ∃ j : Nat, j ≤ ps.length ∧ jv = .int .i64 j ∧ wi.ownsRow w4.heap.size 44 2 v ((ps.take j).filter (fun p => noText (getP p.t (relAtL zb k)))).length (flatOf pairC ((ps.take j).filter (fun p => noText (getP p.t (relAtL zb k))))) ∧ Below w4.heap.size w4 wi) (fun _ jv _ => ps.length - (intOf jv).toNat)
          case atStart => exact ⟨0, Nat.zero_le _, rfl, OL.out, BA.out⟩
          case round =>
            obtain ⟨j, hj, rfl, hown, hbi⟩ := hrel
            have Hown := Lib.hid hown
            clear hown
            by_cases hlt2 : j < ps.length
            · obtain ⟨g, off, p, rfl, hg, hp, d0, d1⟩ := (P4.out.below hbi).at_ hlt2
              have HT := Lib.hid (filter_take (P := (fun p => noText (getP p.t (relAtL zb k)))) hp)
              have hlo := filter_len ps (fun p => noText (getP p.t (relAtL zb k))) j
              obtain ⟨oo, hoo⟩ : ∃ oo, (ps.take j).filter (fun p => noText (getP p.t (relAtL zb k))) = oo := ⟨_, rfl⟩
              rw [hoo] at Hown HT hlo
              have hjz : (j : Int) < (ps.length : Int) := by omega
              have hjz0 : (0 : Int) ≤ (j : Int) := by omega
              have hsi := hbi.size
              clear hp hoo
              go_wp2_with fail
              refine (RelGet_any A2 c2 zb p.t k _ (TB.out.below (R3.out.trans ((B4.out.trans (hbi.mono B4.out.size)).mono R3.out.size))) hlb' HSB.out).mono ?_
              have HTT := HT
              rintro e w5 ⟨rfl, hb⟩
              have O5 := Lib.hid (ownsKeep Hown.out hb)
              have B5 := Lib.hid (hbi.trans (hb.mono hbi.size))
              have hs5 := B5.out.size
              replace d0 := cellBelow hb hg d0
              replace d1 := cellBelow hb hg d1
              clear hb Hown hbi HTT
              have HT0 := HT
              clear HT
              have HT := Lib.hid (show (ps.take (j + 1)).filter _ = oo ++ (if (noText (relGetL zb p.t k)) = true then [p] else []) from HT0.out)
              obtain ⟨u, hu⟩ : ∃ u, relGetL zb p.t k = u := ⟨_, rfl⟩
              rw [hu] at HT ⊢
              clear hu HT0
              cases hn : noText u
              · have hne : u.toList.isEmpty = false := hn
                rw [hn, if_neg (by simp), List.append_nil] at HT
                clear hn
                go_wp2
                go_roundw
                case rel => exact ⟨j + 1, by omega, by go_num, by rw [HT.out]; exact O5.out, B5.out⟩
                case measure => simp [intOf]; omega
              · have hne : u.toList.isEmpty = true := hn
                rw [hn, if_pos rfl] at HT
                clear hn
                go_wp2_with (at_builtin; refine wpList_append_own _ rfl _ _ 34 rfl w4.heap.size 44 i0 _ 2 32 Try.underlying34 Hi.out Hz0.out Hz1.out Hz2.out rfl (by decide) _ oo.length (flatOf pairC oo) rfl (O5.out.alloc _) ⟨w5.heap.size, 0, none⟩ 1 1 [.string p.k, .string p.t] rfl rfl (newsTwo (by simp) (by simp)) (by simp [Value.oneCell']) (by unfold maxLen; omega) (by omega) (by simp; omega) ?_; intro v' w8 hown' hgrow hnil; have O8 := Lib.hid (ownPairs (x := p) hown' rfl); have B8 := Lib.hid ((B5.out.alloc (by omega) _).grown hgrow (by simp; omega) (fun i e => by have := (O5.out.lt i e).1; omega)); clear hown' hgrow hnil)
                refine ⟨⟨j + 1, by omega, by simp, by rw [HT.out]; exact O8.out, B8.out⟩, ?_⟩
                simp [intOf]; omega
            · obtain rfl : j = ps.length := by omega
              rw [List.take_length, show ps.filter (fun p => noText (getP p.t (relAtL zb k))) = fs from HAt.out.symm] at Hown
              obtain ⟨A6, c6, hv⟩ := owns_sliceE Hown.out
              subst hv
              have F5 := Lib.hid (show PairsA wr A6 fs from el_of_owns pairC_len Hown.out)
              have B5 := Lib.hid (B4.out.trans (hbi.mono B4.out.size))
              clear Hown hbi
              go_wp2_with fail
              refine (RelAt_any A3 c3 xs k _ (X3.out.below B5.out) (by omega) HSX.out).mono ?_
              rw [HFS.out]
              rintro e w6 ⟨A7, c7, rfl, ho, hb⟩
              have Q6 := Lib.hid (show PairsA w6 A7 fs from el_of_owns pairC_len ho)
              have F6 := Lib.hid (F5.out.below hb)
              have B6 := Lib.hid (B5.out.trans (hb.mono B5.out.size))
              clear ho hb B5 F5
              go_wp2_with fail
              refine (vaPairs_any _ _ _ _ fs fs _ Q6.out F6.out (by omega)).mono ?_
              rintro e w7 ⟨v7, hv7, rfl, hb⟩
              obtain rfl : v7 = true := hv7.2 rfl
              have B7 := Lib.hid (B6.out.trans (hb.mono B6.out.size))
              clear hb hv7 B6 Q6 F6
              go_wp2
              go_roundw
              case rel => exact ⟨k + 1, by omega, by go_num, B7.out⟩
              case measure => simp [intOf]; omega
        · obtain rfl : k = 100 := by omega
          have BR := Lib.hid hbr
          clear hbr
          have RR := Lib.hid (R3.out.trans (BR.out.mono R3.out.size))
          go_wp2_with fail
          refine (RelOk_any A3 c3 xs _ (X3.out.below BR.out) (by omega) HSX.out).mono ?_
          rw [HXO.out]
          rintro e w6 ⟨rfl, hb⟩
          have BZ := Lib.hid (B0.out.trans ((RR.out.trans (hb.mono RR.out.size)).mono B0.out.size))
          clear hb
          go_wp2
          go_ret
          exact ⟨rfl, BZ.out⟩
end Go.Proofs.Ytphinkcfmdnpfaa
