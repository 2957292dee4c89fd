/-
  The walk of FnEither.
-/
import Derived.Test.YtjopilcpmmfclaaCombFe
import Derived.Test.YtjopilcpmmfclaaCombN
import Derived.Test.YtjopilcpmmfclaaDrawJ
import Derived.Test.YtjopilcpmmfclaaLawMeet
namespace Go.Proofs.Ytjopilcpmmfclaa
open Go.Shelf Go.RowKit Go.Lib Go.Sort

set_option maxRecDepth 100000 in
set_option maxHeartbeats 4000000 in
theorem FnEither_any (A : Option Addr) (n cap : Nat) (bs : List Int) (w : World) (hz : Bytes w w.heap.size A bs ∧ bs.length = n ∧ n ≤ cap ∧ cap ≤ maxLen) :
    Calls Try.prog 13 #[.slice A n cap] w fun e w' => e = .returned (.bool true) ∧ Below w.heap.size w w' := by
  obtain ⟨i0, hi, hz0, hz1, hz2⟩ := info_parts Try.infoP45
  have Hi := Lib.hid hi
  have Hz0 := Lib.hid hz0
  have Hz1 := Lib.hid hz1
  have Hz2 := Lib.hid hz2
  clear hi hz0 hz1 hz2
  obtain ⟨hz, rfl, hc, hm⟩ := hz
  have hm' := hm
  unfold maxLen at hm'
  by_cases hl0 : (1048576 : Int) < bs.length
  · go_enter Try.func13, Try.ntmps13
    go_wp2
    go_ret
    exact ⟨rfl, Below.refl _ _⟩
  · go_enter Try.func13, Try.ntmps13
    go_wp2_with fail
    refine (DrawRelEither_any A cap bs w hz hc hm).mono ?_
    rintro e w0 ⟨za, zb, A1, A2, c1, c2, rfl, hla, hlb, hsa, hsb, hoa, hob, hb0⟩
    have TA := Lib.hid (rowsA_own hoa rfl)
    have TB := Lib.hid (rowsA_own hob rfl)
    have NA := Lib.hid (owns_nilE hoa)
    have NB := Lib.hid (owns_nilE hob)
    have HSA := Lib.hid hsa
    have HSB := Lib.hid hsb
    have B0 := Lib.hid hb0
    have hla' : za.length ≤ 1048577 := by omega
    have hlb' : zb.length ≤ 1048577 := by omega
    have hxl := relEitherS_len za zb
    obtain ⟨px, hpx⟩ : ∃ px, relEitherS za zb = px := ⟨_, rfl⟩
    rw [hpx] at hxl
    have HX := Lib.hid hpx
    clear hoa hob hsa hsb hb0 hz hc hm hm' hpx
    obtain ⟨xs, ok⟩ := px
    replace hxl : xs.length ≤ 24 := hxl
    have R0 := Lib.hid (Below.refl w0.heap.size w0)
    go_wp2_with fail
    refine (RelEither_any A1 A2 c1 c2 za zb w0 TA.out TB.out NA.out NB.out hla' hlb' HSA.out HSB.out).mono ?_
    rw [HX.out]
    rintro e w1 ⟨A3, c3, rfl, ho, hb⟩
    have X1 := Lib.hid (show RowsA w1 A3 xs from el_of_owns rowC_len ho)
    have R1 := Lib.hid hb
    clear ho hb R0
    go_wp2_with fail
    refine (sRelEither_any A1 A2 c1 c2 za zb w1 (TA.out.below R1.out) (TB.out.below R1.out) NA.out NB.out hla' hlb' HSA.out HSB.out).mono ?_
    rw [HX.out]
    rintro e w2 ⟨A4, c4, rfl, ho, hb⟩
    have Y2 := Lib.hid (show RowsA w2 A4 xs from el_of_owns rowC_len ho)
    have X2 := Lib.hid (X1.out.below hb)
    have R2 := Lib.hid (R1.out.trans (hb.mono R1.out.size))
    clear ho hb X1 R1
    have S2 := Lib.hid (Below.refl w2.heap.size w2)
    cases ok
    · go_wp2_with fail
      refine (vaRows_any _ _ _ _ xs xs _ X2.out Y2.out (by omega)).mono ?_
      rintro e w3 ⟨v3, hv3, rfl, hb⟩
      obtain rfl : v3 = true := hv3.2 rfl
      have S3 := Lib.hid (S2.out.trans (hb.mono S2.out.size))
      clear hb hv3
      go_wp2_with fail
      refine (vaRows_any _ _ _ _ xs xs _ (X2.out.below S3.out) (Y2.out.below S3.out) (by omega)).mono ?_
      rintro e w4 ⟨v3, hv3, rfl, hb⟩
      obtain rfl : v3 = true := hv3.2 rfl
      have S4 := Lib.hid (S3.out.trans (hb.mono S3.out.size))
      clear hb hv3
      have BZ := Lib.hid (B0.out.trans ((R2.out.trans (S4.out.mono R2.out.size)).mono B0.out.size))
      go_wp2
      go_ret
      exact ⟨rfl, BZ.out⟩
    · go_wp2_with fail
      refine (vaRows_any _ _ _ _ xs xs _ X2.out Y2.out (by omega)).mono ?_
      rintro e w3 ⟨v3, hv3, rfl, hb⟩
      obtain rfl : v3 = true := hv3.2 rfl
      have S3 := Lib.hid (S2.out.trans (hb.mono S2.out.size))
      clear hb hv3
      have X3 := Lib.hid (X2.out.below S3.out)
      have R3 := Lib.hid (R2.out.trans (S3.out.mono R2.out.size))
      clear X2 Y2 S2 S3 R2
      have HFF := either_facts HX.out
      have HOA := Lib.hid HFF.1
      have HOB := Lib.hid HFF.2.1
      have HXO := Lib.hid HFF.2.2.1
      have HSX := Lib.hid (ok_short HFF.2.2.1)
      clear HFF
      go_wp2
      go_loopw [9] (fun i wr => ∃ k : Nat, k ≤ 100 ∧ i = .int .i64 k ∧ Below w3.heap.size w3 wr) (fun i _ => 100 - (intOf i).toNat)
      case atStart => exact ⟨0, Nat.zero_le _, rfl, Below.refl _ _⟩
      case round =>
        obtain ⟨k, hk, rfl, hbr⟩ := hrel
        by_cases hlt : k < 100
        · have hkz : (k : Int) ≤ 99 := by omega
          have hkz0 : (0 : Int) ≤ (k : Int) := by omega
          have hpl := relAtL_len za k
          have hql := relAtL_len zb k
          have hfl := relAtL_len xs k
          have BR := Lib.hid hbr
          clear hbr
          have HMany := Lib.hid (either_many HX.out k)
          have HOne := Lib.hid (fun p (hp : p ∈ relAtL xs k) => either_one_of HX.out hp)
          have HGA := Lib.hid (show ∀ key, relGetL za key k = getP key (relAtL za k) from fun _ => rfl)
          obtain ⟨ps, hps⟩ : ∃ ps, relAtL za k = ps := ⟨_, rfl⟩
          have HPS := Lib.hid hps
          rw [hps] at HMany hpl HGA
          obtain ⟨qs, hqs⟩ : ∃ qs, relAtL zb k = qs := ⟨_, rfl⟩
          have HQS := Lib.hid hqs
          rw [hqs] at HMany hql
          obtain ⟨fs, hfs⟩ : ∃ fs, relAtL xs k = fs := ⟨_, rfl⟩
          have HFS := Lib.hid hfs
          rw [hfs] at HMany hfl HOne
          clear hps hqs hfs
          go_wp2_with fail
          refine (RelAt_any A3 c3 xs k _ (X3.out.below BR.out) (by omega) HSX.out).mono ?_
          rw [HFS.out]
          rintro e w4 ⟨A5, c5, rfl, ho, hb⟩
          have P4 := Lib.hid (show PairsA w4 A5 fs from el_of_owns pairC_len ho)
          have B4 := Lib.hid (BR.out.trans (hb.mono BR.out.size))
          clear ho hb BR
          go_wp2_with fail
          refine (RelAt_any A1 c1 za k _ (TA.out.below (R3.out.trans (B4.out.mono R3.out.size))) hla' HSA.out).mono ?_
          rw [HPS.out]
          rintro e w5 ⟨A6, c6, rfl, ho, hb⟩
          have P5 := Lib.hid (P4.out.below hb)
          have B5 := Lib.hid (B4.out.trans (hb.mono B4.out.size))
          clear ho hb B4 P4
          go_wp2_with fail
          refine (RelAt_any A2 c2 zb k _ (TB.out.below (R3.out.trans (B5.out.mono R3.out.size))) hlb' HSB.out).mono ?_
          rw [HQS.out]
          rintro e w6 ⟨A7, c7, rfl, ho, hb⟩
          have P6 := Lib.hid (P5.out.below hb)
          have Q6 := Lib.hid (show PairsA w6 A7 qs from el_of_owns pairC_len ho)
          have B6 := Lib.hid (B5.out.trans (hb.mono B5.out.size))
          clear ho hb B5 P5
          go_wp2
          go_loopw [11, 13] (fun nv jv wi => ∃ j : Nat, j ≤ qs.length ∧ jv = .int .i64 j ∧ nv = .int .i64 ((ps.length + ((qs.take j).filter (fun p => noText (getP p.k ps))).length : Nat) : Int) ∧ Below w6.heap.size w6 wi) (fun _ jv _ => qs.length - (intOf jv).toNat)
          case atStart => exact ⟨0, Nat.zero_le _, rfl, by simp, Below.refl _ _⟩
          case round =>
            obtain ⟨j, hj, rfl, rfl, hbi⟩ := hrel
            by_cases hlt2 : j < qs.length
            · obtain ⟨g, off, p, rfl, hg, hp, d0, d1⟩ := (Q6.out.below hbi).at_ hlt2
              have HT := Lib.hid (filter_take (P := (fun p => noText (getP p.k ps))) hp)
              have hlo := filter_len qs (fun p => noText (getP p.k ps)) j
              have HGU := Lib.hid (HGA.out p.k)
              obtain ⟨m, hm0⟩ : ∃ m, ps.length + ((qs.take j).filter (fun p => noText (getP p.k ps))).length = m := ⟨_, rfl⟩
              have HM := Lib.hid hm0
              rw [hm0]
              have hml : m ≤ 100 := by omega
              have hjz : (j : Int) < (qs.length : Int) := by omega
              have hjz0 : (0 : Int) ≤ (j : Int) := by omega
              obtain ⟨u, hu⟩ : ∃ u, getP p.k ps = u := ⟨_, rfl⟩
              replace HT := Lib.hid (show (qs.take (j + 1)).filter (fun p => noText (getP p.k ps)) = (qs.take j).filter (fun p => noText (getP p.k ps)) ++ (if noText (getP p.k ps) = true then [p] else []) from HT.out)
              rw [hu] at HT HGU
              clear hp hu hm0
              go_wp2_with fail
              refine (RelGet_any A1 c1 za p.k k _ (TA.out.below (R3.out.trans ((B6.out.trans (hbi.mono B6.out.size)).mono R3.out.size))) hla' HSA.out).mono ?_
              rw [HGU.out]
              rintro e w7 ⟨rfl, hb⟩
              have B7 := Lib.hid (hbi.trans (hb.mono hbi.size))
              clear hb hbi
              cases hn : noText u
              · rw [hn, if_neg (by simp), List.append_nil] at HT
                have hne : u.toList.isEmpty = false := hn
                clear hn
                go_wp2
                go_roundw
                case rel => exact ⟨j + 1, by omega, by go_num, by rw [HT.out, HM.out], B7.out⟩
                case measure => simp [intOf]; omega
              · rw [hn, if_pos rfl] at HT
                have hne : u.toList.isEmpty = true := hn
                clear hn
                go_wp2
                go_roundw
                case rel => exact ⟨j + 1, by omega, by go_num, by rw [HT.out, List.length_append, ← Nat.add_assoc, HM.out]; go_num, B7.out⟩
                case measure => simp [intOf]; omega
            · obtain rfl : j = qs.length := by omega
              rw [List.take_length, ← HMany.out]
              have B7 := Lib.hid (B6.out.trans (hbi.mono B6.out.size))
              have P7 := Lib.hid (P6.out.below hbi)
              clear hbi B6 P6
              obtain ⟨wo, hwo⟩ : ∃ wo, wo = wr := ⟨_, rfl⟩
              subst hwo
              go_wp2
              go_loopw [14] (fun jv wi => ∃ j : Nat, j ≤ fs.length ∧ jv = .int .i64 j ∧ Below wo.heap.size wo wi) (fun jv _ => fs.length - (intOf jv).toNat)
              case atStart => exact ⟨0, Nat.zero_le _, rfl, Below.refl _ _⟩
              case round =>
                obtain ⟨j, hj, rfl, hbi⟩ := hrel
                by_cases hlt3 : j < fs.length
                · obtain ⟨g, off, p, rfl, hg, hp, d0, d1⟩ := (P7.out.below hbi).at_ hlt3
                  have HO1 := Lib.hid (HOne.out p (List.mem_of_getElem? hp))
                  have hjz : (j : Int) < (fs.length : Int) := by omega
                  have hjz0 : (0 : Int) ≤ (j : Int) := by omega
                  obtain ⟨u, hu⟩ : ∃ u, relGetL za p.k k = u := ⟨_, rfl⟩
                  have HU := Lib.hid hu
                  rw [hu] at HO1
                  have BI := Lib.hid (B7.out.trans (hbi.mono B7.out.size))
                  clear hp hu
                  go_wp2_with fail
                  refine (RelGet_any A1 c1 za p.k k _ (TA.out.below (R3.out.trans (BI.out.mono R3.out.size))) hla' HSA.out).mono ?_
                  rw [HU.out]
                  rintro e w8 ⟨rfl, hb⟩
                  replace d0 := cellBelow hb hg d0
                  replace d1 := cellBelow hb hg d1
                  replace hg := Nat.lt_of_lt_of_le hg hb.size
                  have B8 := Lib.hid (hbi.trans (hb.mono hbi.size))
                  have BJ := Lib.hid (BI.out.trans (hb.mono BI.out.size))
                  clear hb hbi BI HU
                  rcases HO1.out with ⟨h1, h2⟩ | ⟨h1, h2⟩
                  · have hne : u.toList.isEmpty = false := h1
                    subst h2
                    clear h1 HO1
                    go_wp2
                    go_roundw
                    case rel => exact ⟨j + 1, by omega, by go_num, B8.out⟩
                    case measure => simp [intOf]; omega
                  · have hne : u.toList.isEmpty = true := h1
                    have H2 := Lib.hid h2
                    clear h1 HO1 h2
                    go_wp2_with fail
                    refine (RelGet_any A2 c2 zb p.k k _ (TB.out.below (R3.out.trans (BJ.out.mono R3.out.size))) hlb' HSB.out).mono ?_
                    rw [H2.out]
                    rintro e w9 ⟨rfl, hb⟩
                    replace d0 := cellBelow hb hg d0
                    replace d1 := cellBelow hb hg d1
                    have B9 := Lib.hid (B8.out.trans (hb.mono B8.out.size))
                    clear hb
                    go_wp2
                    go_roundw
                    case rel => exact ⟨j + 1, by omega, by go_num, B9.out⟩
                    case measure => simp [intOf]; omega
                · obtain rfl : j = fs.length := by omega
                  have BZ := Lib.hid (B7.out.trans (hbi.mono B7.out.size))
                  clear hbi
                  go_wp2
                  go_roundw
                  case rel => exact ⟨k + 1, by omega, by go_num, BZ.out⟩
                  case measure => simp [intOf]; omega
        · obtain rfl : k = 100 := by omega
          have BR := Lib.hid hbr
          clear hbr
          have RR := Lib.hid (R3.out.trans (BR.out.mono R3.out.size))
          go_wp2_with fail
          refine (RelEither_any A1 A1 c1 c1 za za _ (TA.out.below RR.out) (TA.out.below RR.out) NA.out NA.out hla' hla' HSA.out HSA.out).mono ?_
          rw [either_self HOA.out]
          rintro e w5 ⟨A9, c9, rfl, ho, hb⟩
          have Z5 := Lib.hid (show RowsA w5 A9 za from el_of_owns rowC_len ho)
          have B5 := Lib.hid (BR.out.trans (hb.mono BR.out.size))
          clear ho hb
          go_wp2_with fail
          refine (RelOk_any A3 c3 xs _ (X3.out.below B5.out) (by omega) HSX.out).mono ?_
          rw [HXO.out]
          rintro e w6 ⟨rfl, hb⟩
          have B6 := Lib.hid (B5.out.trans (hb.mono B5.out.size))
          have Z6 := Lib.hid (Z5.out.below hb)
          clear hb B5 Z5
          go_wp2_with fail
          refine (vaRows_any _ _ _ _ za za _ Z6.out (TA.out.below (R3.out.trans (B6.out.mono R3.out.size))) (by omega)).mono ?_
          rintro e w7 ⟨v7, hv7, rfl, hb⟩
          obtain rfl : v7 = true := hv7.2 rfl
          have BZ := Lib.hid (B0.out.trans ((R3.out.trans ((B6.out.trans (hb.mono B6.out.size)).mono R3.out.size)).mono B0.out.size))
          clear hb hv7
          go_wp2
          go_ret
          exact ⟨rfl, BZ.out⟩
end Go.Proofs.Ytjopilcpmmfclaa
