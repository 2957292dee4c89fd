/-
  The walk of FnPick.
-/
import Derived.Test.YtjopilcpmmfclaaCombF
import Derived.Test.YtjopilcpmmfclaaCombN
import Derived.Test.YtjopilcpmmfclaaDrawP
import Derived.Test.YtjopilcpmmfclaaLawMeet
namespace Go.Proofs.Ytjopilcpmmfclaa
open Go.Shelf Go.RowKit Go.Lib Go.Sort

set_option maxRecDepth 100000 in
set_option maxHeartbeats 4000000 in
theorem FnPick_any (A : Option Addr) (n cap : Nat) (bs : List Int) (w : World) (hz : Bytes w w.heap.size A bs ∧ bs.length = n ∧ n ≤ cap ∧ cap ≤ maxLen) :
    Calls Try.prog 10 #[.slice A n cap] w fun e w' => e = .returned (.bool true) ∧ Below w.heap.size w w' := by
  obtain ⟨i0, hi, hz0, hz1, hz2⟩ := info_parts Try.infoP45
  have Hi := Lib.hid hi
  have Hz0 := Lib.hid hz0
  have Hz1 := Lib.hid hz1
  have Hz2 := Lib.hid hz2
  clear hi hz0 hz1 hz2
  obtain ⟨hz, rfl, hc, hm⟩ := hz
  have hm' := hm
  unfold maxLen at hm'
  by_cases hl0 : (1048576 : Int) < bs.length
  · go_enter Try.func10, Try.ntmps10
    go_wp2
    go_ret
    exact ⟨rfl, Below.refl _ _⟩
  · go_enter Try.func10, Try.ntmps10
    go_wp2_with fail
    refine (DrawRelPick_any A cap bs w hz hc hm).mono ?_
    rintro e w0 ⟨za, A1, c1, text, rfl, hla, hsa, htx, hoa, hb0⟩
    have TA := Lib.hid (rowsA_own hoa rfl)
    have NA := Lib.hid (owns_nilE hoa)
    have HSA := Lib.hid hsa
    have B0 := Lib.hid hb0
    have hla' : za.length ≤ 1048577 := by omega
    have hxl := relPickL_len za text
    obtain ⟨xs, hxs⟩ : ∃ xs, relPickL za text = xs := ⟨_, rfl⟩
    rw [hxs] at hxl
    have HX := Lib.hid hxs
    obtain ⟨o, ho⟩ : ∃ o, relOk za = o := ⟨_, rfl⟩
    have HOA := Lib.hid ho
    clear hoa hsa hb0 hz hc hm hm' hxs ho
    go_wp2_with fail
    refine (RelPick_any A1 c1 za text w0 TA.out NA.out hla' HSA.out).mono ?_
    rw [HX.out]
    rintro e w1 ⟨A3, c3, rfl, ho, hb⟩
    have X1 := Lib.hid (show RowsA w1 A3 xs from el_of_owns rowC_len ho)
    have R1 := Lib.hid hb
    clear ho hb
    go_wp2_with fail
    refine (sRelPick_any A1 c1 za text w1 (TA.out.below R1.out) hla' HSA.out).mono ?_
    rw [HX.out]
    rintro e w2 ⟨A4, c4, rfl, ho, hb⟩
    have Y2 := Lib.hid (show RowsA w2 A4 xs from el_of_owns rowC_len ho)
    have X2 := Lib.hid (X1.out.below hb)
    have R2 := Lib.hid (R1.out.trans (hb.mono R1.out.size))
    clear ho hb X1 R1
    go_wp2_with fail
    refine (vaRows_any _ _ _ _ xs xs _ X2.out Y2.out (by omega)).mono ?_
    rintro e w3a ⟨v3, hv3, rfl, hb⟩
    obtain rfl : v3 = true := hv3.2 rfl
    have R3a := Lib.hid (R2.out.trans (hb.mono R2.out.size))
    have X3a := Lib.hid (X2.out.below hb)
    clear hb hv3 X2 Y2 R2
    go_wp2_with fail
    refine (RelOk_any A1 c1 za _ (TA.out.below R3a.out) hla' HSA.out).mono ?_
    rw [HOA.out]
    rintro e w3 ⟨rfl, hb⟩
    have R3 := Lib.hid (R3a.out.trans (hb.mono R3a.out.size))
    have X3 := Lib.hid (X3a.out.below hb)
    clear hb R3a X3a
    cases o
    · go_wp2_with fail
      refine (sRelPick_any A1 c1 za text w3 (TA.out.below R3.out) hla' HSA.out).mono ?_
      rw [HX.out]
      rintro e w4 ⟨A5, c5, rfl, ho, hb⟩
      have Y4 := Lib.hid (show RowsA w4 A5 xs from el_of_owns rowC_len ho)
      have X4 := Lib.hid (X3.out.below hb)
      have R4 := Lib.hid (R3.out.trans (hb.mono R3.out.size))
      clear ho hb
      go_wp2_with fail
      refine (vaRows_any _ _ _ _ xs xs _ X4.out Y4.out (by omega)).mono ?_
      rintro e w5 ⟨v5, hv5, rfl, hb⟩
      obtain rfl : v5 = true := hv5.2 rfl
      have BZ := Lib.hid (B0.out.trans ((R4.out.trans (hb.mono R4.out.size)).mono B0.out.size))
      clear hb hv5
      go_wp2
      go_ret
      exact ⟨rfl, BZ.out⟩
    · have HFF := pick_facts (text := text) HOA.out
      rw [HX.out] at HFF
      have HXO := Lib.hid HFF.1
      have HF := Lib.hid HFF.2
      have HSX := Lib.hid (ok_short HFF.1)
      clear HFF
      go_wp2
      go_loopw [6] (fun i wr => ∃ k : Nat, k ≤ 100 ∧ i = .int .i64 k ∧ Below w3.heap.size w3 wr) (fun i _ => 100 - (intOf i).toNat)
      case atStart => exact ⟨0, Nat.zero_le _, rfl, Below.refl _ _⟩
      case round =>
        obtain ⟨k, hk, rfl, hbr⟩ := hrel
        by_cases hlt : k < 100
        · have hkz : (k : Int) ≤ 99 := by omega
          have hkz0 : (0 : Int) ≤ (k : Int) := by omega
          have HAt := Lib.hid (HF.out k)
          have hpl := relAtL_len za k
          have hfl := relAtL_len xs k
          obtain ⟨ps, hps⟩ : ∃ ps, relAtL za k = ps := ⟨_, rfl⟩
          have HPS := Lib.hid hps
          rw [hps] at HAt hpl
          obtain ⟨fs, hfs⟩ : ∃ fs, relAtL xs k = fs := ⟨_, rfl⟩
          have HFS := Lib.hid hfs
          rw [hfs] at HAt hfl
          have BR := Lib.hid hbr
          clear hps hfs hbr
          go_wp2_with fail
          refine (RelAt_any A1 c1 za k _ (TA.out.below (R3.out.trans (BR.out.mono R3.out.size))) hla' HSA.out).mono ?_
          rw [HPS.out]
          rintro e w4 ⟨A5, c5, rfl, ho, hb⟩
          have P4 := Lib.hid (show PairsA w4 A5 ps from el_of_owns pairC_len ho)
          have B4 := Lib.hid (BR.out.trans (hb.mono BR.out.size))
          have OL := Lib.hid (World.ownsRow_lit (base := w4.heap.size) (e := 45) (size := 2) w4 #[] 0 (by simp) (by simp [maxLen]) (by simp))
          have BA := Lib.hid ((Below.refl w4.heap.size w4).alloc (Nat.le_refl _) (.cells #[] 45))
          clear ho hb BR
          go_wp2
          go_loopw [8, 9] (fun v jv wi => ∃ j : Nat, j ≤ ps.length ∧ jv = .int .i64 j ∧ wi.ownsRow w4.heap.size 45 2 v ((ps.take j).filter (fun p => p.t.toList == text.toList)).length (flatOf pairC ((ps.take j).filter (fun p => p.t.toList == text.toList))) ∧ Below w4.heap.size w4 wi) (fun _ jv _ => ps.length - (intOf jv).toNat)
          case atStart => exact ⟨0, Nat.zero_le _, rfl, OL.out, BA.out⟩
          case round =>
            obtain ⟨j, hj, rfl, hown, hbi⟩ := hrel
            have Hown := Lib.hid hown
            clear hown
            by_cases hlt2 : j < ps.length
            · obtain ⟨g, off, p, rfl, hg, hp, d0, d1⟩ := (P4.out.below hbi).at_ hlt2
              have HT := Lib.hid (filter_take (P := (fun p => p.t.toList == text.toList)) hp)
              have hlo := filter_len ps (fun p => p.t.toList == text.toList) j
              obtain ⟨oo, hoo⟩ : ∃ oo, (ps.take j).filter (fun p => p.t.toList == text.toList) = oo := ⟨_, rfl⟩
              rw [hoo] at Hown HT hlo
              have hjz : (j : Int) < (ps.length : Int) := by omega
              have hjz0 : (0 : Int) ≤ (j : Int) := by omega
              have hsi := hbi.size
              clear hp hoo
              have HT2 := Lib.hid (show (ps.take (j + 1)).filter _ = oo ++ (if (p.t.toList == text.toList) = true then [p] else []) from HT.out)
              clear HT
              have HT := HT2
              clear HT2
              cases hkey : (p.t.toList == text.toList)
              · rw [hkey, if_neg (by simp), List.append_nil] at HT
                go_wp2
                go_roundw
                case rel => exact ⟨j + 1, by omega, by go_num, by rw [HT.out]; exact Hown.out, hbi⟩
                case measure => simp [intOf]; omega
              · rw [hkey, if_pos rfl] at HT
                go_wp2_with (at_builtin; refine wpList_append_own _ rfl _ _ 42 rfl w4.heap.size 45 i0 _ 2 32 Try.underlying42 Hi.out Hz0.out Hz1.out Hz2.out rfl (by decide) _ oo.length (flatOf pairC oo) rfl (Hown.out.alloc _) ⟨wr.heap.size, 0, none⟩ 1 1 [.string p.k, .string p.t] rfl rfl (newsTwo (by simp) (by simp)) (by simp [Value.oneCell']) (by unfold maxLen; omega) (by omega) (by simp; omega) ?_; intro v' w8 hown' hgrow hnil; have O8 := Lib.hid (ownPairs (x := p) hown' rfl); have B8 := Lib.hid ((hbi.alloc (by omega) _).grown hgrow (by simp; omega) (fun i e => by have := (Hown.out.lt i e).1; omega)); clear hown' hgrow hnil)
                refine ⟨⟨j + 1, by omega, by simp, by rw [HT.out]; exact O8.out, B8.out⟩, ?_⟩
                simp [intOf]; omega
            · obtain rfl : j = ps.length := by omega
              rw [List.take_length, show ps.filter (fun p => p.t.toList == text.toList) = fs from HAt.out.symm] at Hown
              obtain ⟨A6, c6, hv⟩ := owns_sliceE Hown.out
              subst hv
              have F5 := Lib.hid (show PairsA wr A6 fs from el_of_owns pairC_len Hown.out)
              have B5 := Lib.hid (B4.out.trans (hbi.mono B4.out.size))
              clear Hown hbi
              go_wp2_with fail
              refine (RelAt_any A3 c3 xs k _ (X3.out.below B5.out) (by omega) HSX.out).mono ?_
              rw [HFS.out]
              rintro e w6 ⟨A7, c7, rfl, ho, hb⟩
              have Q6 := Lib.hid (show PairsA w6 A7 fs from el_of_owns pairC_len ho)
              have F6 := Lib.hid (F5.out.below hb)
              have B6 := Lib.hid (B5.out.trans (hb.mono B5.out.size))
              clear ho hb B5 F5
              go_wp2_with fail
              refine (vaPairs_any _ _ _ _ fs fs _ Q6.out F6.out (by omega)).mono ?_
              rintro e w7 ⟨v7, hv7, rfl, hb⟩
              obtain rfl : v7 = true := hv7.2 rfl
              have B7 := Lib.hid (B6.out.trans (hb.mono B6.out.size))
              clear hb hv7 B6 Q6 F6
              go_wp2
              go_roundw
              case rel => exact ⟨k + 1, by omega, by go_num, B7.out⟩
              case measure => simp [intOf]; omega
        · obtain rfl : k = 100 := by omega
          have BR := Lib.hid hbr
          clear hbr
          have RR := Lib.hid (R3.out.trans (BR.out.mono R3.out.size))
          go_wp2_with fail
          refine (RelOk_any A3 c3 xs _ (X3.out.below BR.out) (by omega) HSX.out).mono ?_
          rw [HXO.out]
          rintro e w6 ⟨rfl, hb⟩
          have BZ := Lib.hid (B0.out.trans ((RR.out.trans (hb.mono RR.out.size)).mono B0.out.size))
          clear hb
          go_wp2
          go_ret
          exact ⟨rfl, BZ.out⟩
end Go.Proofs.Ytjopilcpmmfclaa
