/-
  The walk of FnSlice.
-/
import Derived.Test.YtphinkcfmdnpfaaSliF
import Derived.Test.YtphinkcfmdnpfaaCombN
import Derived.Test.YtphinkcfmdnpfaaDrawJ
import Derived.Test.YtphinkcfmdnpfaaLawMeet
namespace Go.Proofs.Ytphinkcfmdnpfaa
open Go.Shelf Go.RowKit Go.Lib Go.Sort

theorem slice_ok {a b xs : List RowV} {n : Int} (h : relBothS a b = (xs, true)) (h1 : -99 ≤ n) (h2 : n ≤ 99) : relOk (moveS a n) = true ∧ relOk (moveS b n) = true := by
  obtain ⟨ha, hb, _, _⟩ := comb_true h
  rw [show moveS a n = moveL a n from if_pos ⟨ha, h1, h2⟩, show moveS b n = moveL b n from if_pos ⟨hb, h1, h2⟩]
  exact ⟨move_ok n ha, move_ok n hb⟩

set_option maxRecDepth 100000 in
set_option maxHeartbeats 4000000 in
theorem FnSlice_any (A : Option Addr) (n cap : Nat) (bs : List Int) (A' : Option Addr) (n' cap' : Nat) (bs' : List Int) (w : World) (hz : Bytes w w.heap.size A bs ∧ bs.length = n ∧ n ≤ cap ∧ cap ≤ maxLen) (hz' : Bytes w w.heap.size A' bs' ∧ bs'.length = n' ∧ n' ≤ cap' ∧ cap' ≤ maxLen) :
    Calls Try.prog 5 #[.slice A n cap, .slice A' n' cap'] w fun e w' => e = .returned (.bool true) ∧ Below w.heap.size w w' := by
  obtain ⟨hz, rfl, hc, hm⟩ := hz
  obtain ⟨-, rfl, hc', hn'⟩ := hz'
  have hm' := hm
  unfold maxLen at hm' hn'
  obtain ⟨m, hmE⟩ : ∃ m, bs'.length = m := ⟨_, rfl⟩
  rw [hmE] at hc' ⊢
  clear hmE
  by_cases hl0 : (1048576 : Int) < bs.length
  · go_enter Try.func5, Try.ntmps5
    go_wp2
    go_ret
    exact ⟨rfl, Below.refl _ _⟩
  · by_cases hl1 : (1048576 : Int) < m
    · go_enter Try.func5, Try.ntmps5
      go_wp2
      go_ret
      exact ⟨rfl, Below.refl _ _⟩
    · obtain ⟨by_, hby⟩ : ∃ by_, (m % 31 : Nat) = by_ := ⟨_, rfl⟩
      have hb31 : by_ < 31 := by omega
      have hrem : Int.tmod (m : Int) 31 = (by_ : Int) := by rw [Int.tmod_eq_emod_of_nonneg (by omega)]; omega
      clear hby
      obtain ⟨n, hn⟩ : ∃ n : Int, (by_ : Int) - 15 = n := ⟨_, rfl⟩
      have hn1 : -99 ≤ n := by omega
      have hn2 : n ≤ 99 := by omega
      have hnw : IntKind.i64.wrap ((by_ : Int) - 15) = n := (IntWalk.i64_in _ (by omega)).trans hn
      go_enter Try.func5, Try.ntmps5
      go_wp2_with fail
      refine (DrawRelBoth_any A cap bs w hz hc hm).mono ?_
      rintro e w0 ⟨za, zb, A1, A2, c1, c2, rfl, hla, hlb, hsa, hsb, hoa, hob, hb0⟩
      have TA := Lib.hid (rowsA_own hoa rfl)
      have TB := Lib.hid (rowsA_own hob rfl)
      have NA := Lib.hid (owns_nilE hoa)
      have NB := Lib.hid (owns_nilE hob)
      have HSA := Lib.hid hsa
      have HSB := Lib.hid hsb
      have B0 := Lib.hid hb0
      have hla' : za.length ≤ 1048577 := by omega
      have hlb' : zb.length ≤ 1048577 := by omega
      have hxl := relBothS_len za zb
      obtain ⟨px, hpx⟩ : ∃ px, relBothS za zb = px := ⟨_, rfl⟩
      rw [hpx] at hxl
      have HX := Lib.hid hpx
      clear hoa hob hsa hsb hb0 hz hc hm hm' hpx
      obtain ⟨xs, ok⟩ := px
      replace hxl : xs.length ≤ 24 := hxl
      have R0 := Lib.hid (Below.refl w0.heap.size w0)
      go_wp2_with fail
      refine (RelBoth_any A1 A2 c1 c2 za zb w0 TA.out TB.out NA.out NB.out hla' hlb' HSA.out HSB.out).mono ?_
      rw [HX.out]
      rintro e w1 ⟨A3, c3, rfl, ho, hb⟩
      have X1 := Lib.hid (show RowsA w1 A3 xs from el_of_owns rowC_len ho)
      have R1 := Lib.hid hb
      clear ho hb R0
      go_wp2_with fail
      refine (sRelBoth_any A1 A2 c1 c2 za zb w1 (TA.out.below R1.out) (TB.out.below R1.out) NA.out NB.out hla' hlb' HSA.out HSB.out).mono ?_
      rw [HX.out]
      rintro e w2 ⟨A4, c4, rfl, ho, hb⟩
      have Y2 := Lib.hid (show RowsA w2 A4 xs from el_of_owns rowC_len ho)
      have X2 := Lib.hid (X1.out.below hb)
      have R2 := Lib.hid (R1.out.trans (hb.mono R1.out.size))
      clear ho hb X1 R1
      have S2 := Lib.hid (Below.refl w2.heap.size w2)
      cases ok
      · go_wp2_with fail
        refine (vaRows_any _ _ _ _ xs xs _ X2.out Y2.out (by omega)).mono ?_
        rintro e w3 ⟨v3, hv3, rfl, hb⟩
        obtain rfl : v3 = true := hv3.2 rfl
        have S3 := Lib.hid (S2.out.trans (hb.mono S2.out.size))
        clear hb hv3
        go_wp2_with fail
        refine (vaRows_any _ _ _ _ xs xs _ (X2.out.below S3.out) (Y2.out.below S3.out) (by omega)).mono ?_
        rintro e w4 ⟨v3, hv3, rfl, hb⟩
        obtain rfl : v3 = true := hv3.2 rfl
        have S4 := Lib.hid (S3.out.trans (hb.mono S3.out.size))
        clear hb hv3
        have BZ := Lib.hid (B0.out.trans ((R2.out.trans (S4.out.mono R2.out.size)).mono B0.out.size))
        go_wp2
        go_ret
        exact ⟨rfl, BZ.out⟩
      · go_wp2_with fail
        refine (vaRows_any _ _ _ _ xs xs _ X2.out Y2.out (by omega)).mono ?_
        rintro e w3 ⟨v3, hv3, rfl, hb⟩
        obtain rfl : v3 = true := hv3.2 rfl
        have S3 := Lib.hid (S2.out.trans (hb.mono S2.out.size))
        clear hb hv3
        have X3 := Lib.hid (X2.out.below S3.out)
        have R3 := Lib.hid (R2.out.trans (S3.out.mono R2.out.size))
        clear X2 Y2 S2 S3 R2
        have HSF := slice_ok HX.out hn1 hn2
        have HMA := Lib.hid (ok_short HSF.1)
        have HMB := Lib.hid (ok_short HSF.2)
        have HEQ := Lib.hid (slice_facts HX.out hn1 hn2)
        have HXO := Lib.hid (comb_true HX.out).2.2
        have HSX := Lib.hid (show Short xs from by rw [HXO.out.1]; exact ok_short HXO.out.2)
        have hma := moveS_len za n
        have hmb := moveS_len zb n
        have hmx := moveS_len xs n
        have S0 := Lib.hid (Below.refl w3.heap.size w3)
        clear HSF HXO
        go_wp2_with fail
        refine (RelMove_any A1 c1 za n _ (TA.out.below R3.out) hla' HSA.out).mono ?_
        rintro e w4 ⟨A5, c5, rfl, ho, hb⟩
        have P4 := Lib.hid (show RowsA w4 A5 (moveS za n) from el_of_owns rowC_len ho)
        have NP := Lib.hid (owns_nilE ho)
        have S4 := Lib.hid (S0.out.trans (hb.mono S0.out.size))
        clear ho hb S0
        go_wp2_with fail
        refine (RelMove_any A2 c2 zb n _ (TB.out.below (R3.out.trans (S4.out.mono R3.out.size))) hlb' HSB.out).mono ?_
        rintro e w5 ⟨A6, c6, rfl, ho, hb⟩
        have Q5 := Lib.hid (show RowsA w5 A6 (moveS zb n) from el_of_owns rowC_len ho)
        have NQ := Lib.hid (owns_nilE ho)
        have P5 := Lib.hid (P4.out.below hb)
        have S5 := Lib.hid (S4.out.trans (hb.mono S4.out.size))
        clear ho hb S4 P4
        obtain ⟨ma, hmaE⟩ : ∃ ma, moveS za n = ma := ⟨_, rfl⟩
        obtain ⟨mb, hmbE⟩ : ∃ mb, moveS zb n = mb := ⟨_, rfl⟩
        obtain ⟨mx, hmxE⟩ : ∃ mx, moveS xs n = mx := ⟨_, rfl⟩
        have HMX := Lib.hid hmxE
        rw [hmaE] at HMA P5 hma
        rw [hmbE] at HMB Q5 hmb
        rw [hmaE, hmbE, hmxE] at HEQ
        rw [hmxE] at hmx
        rw [hmaE, hmbE]
        clear hmaE hmbE hmxE
        go_wp2_with fail
        refine (RelBoth_any A5 A6 c5 c6 ma mb _ P5.out Q5.out NP.out NQ.out (by omega) (by omega) HMA.out HMB.out).mono ?_
        rw [HEQ.out]
        rintro e w6 ⟨A7, c7, rfl, ho, hb⟩
        have Y6 := Lib.hid (show RowsA w6 A7 mx from el_of_owns rowC_len ho)
        have S6 := Lib.hid (S5.out.trans (hb.mono S5.out.size))
        clear ho hb S5
        go_wp2_with fail
        refine (RelMove_any A3 c3 xs n _ (X3.out.below S6.out) (by omega) HSX.out).mono ?_
        rw [HMX.out]
        rintro e w7 ⟨A8, c8, rfl, ho, hb⟩
        have Z7 := Lib.hid (show RowsA w7 A8 mx from el_of_owns rowC_len ho)
        have Y7 := Lib.hid (Y6.out.below hb)
        have S7 := Lib.hid (S6.out.trans (hb.mono S6.out.size))
        clear ho hb S6 Y6
        go_wp2_with fail
        refine (vaRows_any _ _ _ _ mx mx _ Y7.out Z7.out (by omega)).mono ?_
        rintro e w8 ⟨v8, hv8, rfl, hb⟩
        obtain rfl : v8 = true := hv8.2 rfl
        have BZ := Lib.hid (B0.out.trans ((R3.out.trans ((S7.out.trans (hb.mono S7.out.size)).mono R3.out.size)).mono B0.out.size))
        clear hb hv8
        go_wp2
        go_ret
        exact ⟨rfl, BZ.out⟩
end Go.Proofs.Ytphinkcfmdnpfaa
