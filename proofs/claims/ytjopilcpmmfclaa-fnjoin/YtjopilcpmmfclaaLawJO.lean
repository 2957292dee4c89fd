/-
  The walk of FnJoin.
-/
import Derived.Test.YtjopilcpmmfclaaCombFe
import Derived.Test.YtjopilcpmmfclaaCombJM
import Derived.Test.YtjopilcpmmfclaaDrawJ
import Derived.Test.YtjopilcpmmfclaaLawMeet
namespace Go.Proofs.Ytjopilcpmmfclaa
open Go.Shelf Go.RowKit Go.Lib Go.Sort

set_option maxRecDepth 100000 in
set_option maxHeartbeats 4000000 in
theorem FnJoin_any (A : Option Addr) (n cap : Nat) (bs : List Int) (w : World) (hz : Bytes w w.heap.size A bs ∧ bs.length = n ∧ n ≤ cap ∧ cap ≤ maxLen) :
    Calls Try.prog 14 #[.slice A n cap] w fun e w' => e = .returned (.bool true) ∧ Below w.heap.size w w' := by
  obtain ⟨i0, hi, hz0, hz1, hz2⟩ := info_parts Try.infoP45
  have Hi := Lib.hid hi
  have Hz0 := Lib.hid hz0
  have Hz1 := Lib.hid hz1
  have Hz2 := Lib.hid hz2
  clear hi hz0 hz1 hz2
  obtain ⟨hz, rfl, hc, hm⟩ := hz
  have hm' := hm
  unfold maxLen at hm'
  by_cases hl0 : (1048576 : Int) < bs.length
  · go_enter Try.func14, Try.ntmps14
    go_wp2
    go_ret
    exact ⟨rfl, Below.refl _ _⟩
  · go_enter Try.func14, Try.ntmps14
    go_wp2_with fail
    refine (DrawRelJoin_any A cap bs w hz hc hm).mono ?_
    rintro e w0 ⟨za, zb, A1, A2, c1, c2, rfl, hla, hlb, hsa, hsb, hoa, hob, hb0⟩
    have TA := Lib.hid (rowsA_own hoa rfl)
    have TB := Lib.hid (rowsA_own hob rfl)
    have NA := Lib.hid (owns_nilE hoa)
    have NB := Lib.hid (owns_nilE hob)
    have HSA := Lib.hid hsa
    have HSB := Lib.hid hsb
    have B0 := Lib.hid hb0
    have hla' : za.length ≤ 1048577 := by omega
    have hlb' : zb.length ≤ 1048577 := by omega
    have hxl := relJoinS_len za zb
    obtain ⟨px, hpx⟩ : ∃ px, relJoinS za zb = px := ⟨_, rfl⟩
    rw [hpx] at hxl
    have HX := Lib.hid hpx
    clear hoa hob hsa hsb hb0 hz hc hm hm' hpx
    obtain ⟨xs, ok⟩ := px
    replace hxl : xs.length ≤ 24 := hxl
    have R0 := Lib.hid (Below.refl w0.heap.size w0)
    go_wp2_with fail
    refine (RelJoin_any A1 A2 c1 c2 za zb w0 TA.out TB.out NA.out NB.out hla' hlb' HSA.out HSB.out).mono ?_
    rw [HX.out]
    rintro e w1 ⟨A3, c3, rfl, ho, hb⟩
    have X1 := Lib.hid (show RowsA w1 A3 xs from el_of_owns rowC_len ho)
    have R1 := Lib.hid hb
    clear ho hb R0
    go_wp2_with fail
    refine (sRelJoin_any A1 A2 c1 c2 za zb w1 (TA.out.below R1.out) (TB.out.below R1.out) NA.out NB.out hla' hlb' HSA.out HSB.out).mono ?_
    rw [HX.out]
    rintro e w2 ⟨A4, c4, rfl, ho, hb⟩
    have Y2 := Lib.hid (show RowsA w2 A4 xs from el_of_owns rowC_len ho)
    have X2 := Lib.hid (X1.out.below hb)
    have R2 := Lib.hid (R1.out.trans (hb.mono R1.out.size))
    clear ho hb X1 R1
    have S2 := Lib.hid (Below.refl w2.heap.size w2)
    cases ok
    · go_wp2_with fail
      refine (vaRows_any _ _ _ _ xs xs _ X2.out Y2.out (by omega)).mono ?_
      rintro e w3 ⟨v3, hv3, rfl, hb⟩
      obtain rfl : v3 = true := hv3.2 rfl
      have S3 := Lib.hid (S2.out.trans (hb.mono S2.out.size))
      clear hb hv3
      go_wp2_with fail
      refine (vaRows_any _ _ _ _ xs xs _ (X2.out.below S3.out) (Y2.out.below S3.out) (by omega)).mono ?_
      rintro e w4 ⟨v3, hv3, rfl, hb⟩
      obtain rfl : v3 = true := hv3.2 rfl
      have S4 := Lib.hid (S3.out.trans (hb.mono S3.out.size))
      clear hb hv3
      have BZ := Lib.hid (B0.out.trans ((R2.out.trans (S4.out.mono R2.out.size)).mono B0.out.size))
      go_wp2
      go_ret
      exact ⟨rfl, BZ.out⟩
    · go_wp2_with fail
      refine (vaRows_any _ _ _ _ xs xs _ X2.out Y2.out (by omega)).mono ?_
      rintro e w3 ⟨v3, hv3, rfl, hb⟩
      obtain rfl : v3 = true := hv3.2 rfl
      have S3 := Lib.hid (S2.out.trans (hb.mono S2.out.size))
      clear hb hv3
      have X3 := Lib.hid (X2.out.below S3.out)
      have R3 := Lib.hid (R2.out.trans (S3.out.mono R2.out.size))
      clear X2 Y2 S2 S3 R2
      have HFF := join_facts HX.out
      have HOA := Lib.hid HFF.1
      have HOB := Lib.hid HFF.2.1
      have HXO := Lib.hid HFF.2.2.1
      have HF := Lib.hid HFF.2.2.2
      have HSX := Lib.hid (ok_short HFF.2.2.1)
      clear HFF
      go_wp2
      go_loopw [9] (fun i wr => ∃ k : Nat, k ≤ 100 ∧ i = .int .i64 k ∧ Below w3.heap.size w3 wr) (fun i _ => 100 - (intOf i).toNat)
      case atStart => exact ⟨0, Nat.zero_le _, rfl, Below.refl _ _⟩
      case round =>
        obtain ⟨k, hk, rfl, hbr⟩ := hrel
        by_cases hlt : k < 100
        · have hkz : (k : Int) ≤ 99 := by omega
          have hkz0 : (0 : Int) ≤ (k : Int) := by omega
          have hpl := relAtL_len za k
          have hql := relAtL_len zb k
          have hfl := relAtL_len xs k
          have BR := Lib.hid hbr
          clear hbr
          have HKA := Lib.hid (relAt_keys HOA.out k)
          have HSM := Lib.hid (relAt_small HOA.out k)
          have HSQ := Lib.hid (relAt_small HOB.out k)
          have HAt := Lib.hid (HF.out k)
          have HGB := Lib.hid (show ∀ key, relGetL zb key k = getP key (relAtL zb k) from fun _ => rfl)
          have HGX := Lib.hid (show ∀ key, relGetL xs key k = getP key (relAtL xs k) from fun _ => rfl)
          obtain ⟨ps, hps⟩ : ∃ ps, relAtL za k = ps := ⟨_, rfl⟩
          have HPS := Lib.hid hps
          rw [hps] at HAt hpl HKA HSM
          obtain ⟨qs, hqs⟩ : ∃ qs, relAtL zb k = qs := ⟨_, rfl⟩
          rw [hqs] at HAt HSQ HGB
          obtain ⟨fs, hfs⟩ : ∃ fs, relAtL xs k = fs := ⟨_, rfl⟩
          have HFS := Lib.hid hfs
          rw [hfs] at HAt hfl HGX
          clear hps hqs hfs hql
          go_wp2_with fail
          refine (RelAt_any A1 c1 za k _ (TA.out.below (R3.out.trans (BR.out.mono R3.out.size))) hla' HSA.out).mono ?_
          rw [HPS.out]
          rintro e w4 ⟨A5, c5, rfl, ho, hb⟩
          have P4 := Lib.hid (show PairsA w4 A5 ps from el_of_owns pairC_len ho)
          have B4 := Lib.hid (BR.out.trans (hb.mono BR.out.size))
          clear ho hb BR
          go_wp2
          go_loopw [11, 12] (fun nv jv wi => ∃ j : Nat, j ≤ ps.length ∧ jv = .int .i64 j ∧ nv = .int .i64 (joinF (ps.take j) qs).length ∧ Below w4.heap.size w4 wi) (fun _ jv _ => ps.length - (intOf jv).toNat)
          case atStart => exact ⟨0, Nat.zero_le _, rfl, rfl, Below.refl _ _⟩
          case round =>
            obtain ⟨j, hj, rfl, rfl, hbi⟩ := hrel
            by_cases hlt2 : j < ps.length
            · obtain ⟨g, off, p, rfl, hg, hp, d0, d1⟩ := (P4.out.below hbi).at_ hlt2
              have HT := Lib.hid (joinF_take (qs := qs) hp)
              have hlo := joinF_len ps qs j
              have hsm := HSM.out p (List.mem_of_getElem? hp)
              have hus := getP_small (key := p.k) HSQ.out
              have HJ := Lib.hid (show relGetL xs p.k k = (if noText (getP p.k qs) = true then ⟨#[]⟩ else joinT p.t (getP p.k qs)) from ((HGX.out p.k).trans (by rw [HAt.out])).trans (getP_join HKA.out (List.mem_of_getElem? hp)))
              have HGU := Lib.hid (HGB.out p.k)
              obtain ⟨u, hu⟩ : ∃ u, getP p.k qs = u := ⟨_, rfl⟩
              rw [hu] at HT hus HJ HGU
              obtain ⟨m, hm0⟩ : ∃ m, (joinF (ps.take j) qs).length = m := ⟨_, rfl⟩
              rw [hm0] at hlo
              have HM := Lib.hid hm0
              rw [hm0]
              have hjz : (j : Int) < (ps.length : Int) := by omega
              have hjz0 : (0 : Int) ≤ (j : Int) := by omega
              clear hp hu hm0
              go_wp2_with fail
              refine (RelGet_any A2 c2 zb p.k k _ (TB.out.below (R3.out.trans ((B4.out.trans (hbi.mono B4.out.size)).mono R3.out.size))) hlb' HSB.out).mono ?_
              rw [HGU.out]
              rintro e w5 ⟨rfl, hb⟩
              replace d0 := cellBelow hb hg d0
              replace d1 := cellBelow hb hg d1
              replace hg := Nat.lt_of_lt_of_le hg hb.size
              have B5 := Lib.hid (hbi.trans (hb.mono hbi.size))
              clear hb hbi
              go_wp2_with fail
              refine (RelGet_any A3 c3 xs p.k k _ (X3.out.below (B4.out.trans (B5.out.mono B4.out.size))) (by omega) HSX.out).mono ?_
              rw [HJ.out]
              cases hn : noText u
              · rw [hn, if_neg (by simp)] at HT
                rw [if_neg (by simp)]
                have hne : u.toList.isEmpty = false := hn
                have hpt : p.t.size ≤ 9 := hsm.2
                have hu1 : ∀ W : World, (Op.stringOp .add p.t (⟨#[43]⟩ : ByteArray)).run Try.prog W = .ok (.string (p.t ++ plusB)) W := fun W => str_add2 p.t ⟨#[43]⟩ (by omega) (by decide) W
                have hpl2 : (p.t ++ plusB).size ≤ 10 := by rw [ByteArray.size_append]; have : plusB.size = 1 := rfl; omega
                have HJT := Lib.hid (joinT_text p.t u)
                obtain ⟨y1, hy1⟩ : ∃ y1, p.t ++ plusB = y1 := ⟨_, rfl⟩
                have HJJ := Lib.hid (show joinT p.t u = y1 ++ u from by rw [← hy1]; rfl)
                rw [hy1] at hu1 hpl2
                have hu2 : ∀ W : World, (Op.stringOp .add y1 u).run Try.prog W = .ok (.string (y1 ++ u)) W := fun W => str_add2 y1 u (by omega) (by omega) W
                rw [HJJ.out] at HJT ⊢
                obtain ⟨y2, hy2⟩ : ∃ y2, y1 ++ u = y2 := ⟨_, rfl⟩
                rw [hy2] at HJT hu2 ⊢
                have hyn : y2.toList.isEmpty = false := HJT.out
                clear hy1 hy2 hn HJT HJJ
                rintro e w6 ⟨rfl, hb⟩
                replace d0 := cellBelow hb hg d0
                replace d1 := cellBelow hb hg d1
                have B6 := Lib.hid (B5.out.trans (hb.mono B5.out.size))
                clear hb
                go_wp2
                go_roundw
                case rel => exact ⟨j + 1, by omega, by go_num, by rw [HT.out, List.length_append, HM.out]; go_num, B6.out⟩
                case measure => simp [intOf]; omega
              · rw [hn, if_pos rfl, List.append_nil] at HT
                rw [if_pos rfl]
                have hne : u.toList.isEmpty = true := hn
                clear hn
                rintro e w6 ⟨rfl, hb⟩
                have B6 := Lib.hid (B5.out.trans (hb.mono B5.out.size))
                clear hb
                go_wp2
                go_roundw
                case rel => exact ⟨j + 1, by omega, by go_num, by rw [HT.out, HM.out], B6.out⟩
                case measure => simp [intOf]; omega
            · obtain rfl : j = ps.length := by omega
              rw [List.take_length, ← HAt.out]
              have B5 := Lib.hid (B4.out.trans (hbi.mono B4.out.size))
              clear hbi
              go_wp2_with fail
              refine (RelAt_any A3 c3 xs k _ (X3.out.below B5.out) (by omega) HSX.out).mono ?_
              rw [HFS.out]
              rintro e w6 ⟨A7, c7, rfl, ho, hb⟩
              have B6 := Lib.hid (B5.out.trans (hb.mono B5.out.size))
              clear ho hb B5
              go_wp2
              go_roundw
              case rel => exact ⟨k + 1, by omega, by go_num, B6.out⟩
              case measure => simp [intOf]; omega
        · obtain rfl : k = 100 := by omega
          have BR := Lib.hid hbr
          clear hbr
          have RR := Lib.hid (R3.out.trans (BR.out.mono R3.out.size))
          go_wp2_with fail
          refine (RelOk_any A3 c3 xs _ (X3.out.below BR.out) (by omega) HSX.out).mono ?_
          rw [HXO.out]
          rintro e w6 ⟨rfl, hb⟩
          have BZ := Lib.hid (B0.out.trans ((RR.out.trans (hb.mono RR.out.size)).mono B0.out.size))
          clear hb
          go_wp2
          go_ret
          exact ⟨rfl, BZ.out⟩
end Go.Proofs.Ytjopilcpmmfclaa
