/-
  The walk of FnCount.
-/
import Derived.Test.YtphinkcfmdnpfaaCntF
import Derived.Test.YtphinkcfmdnpfaaDrawN
import Derived.Test.YtphinkcfmdnpfaaLawMeet
namespace Go.Proofs.Ytphinkcfmdnpfaa
open Go.Shelf Go.RowKit Go.Lib Go.Sort

set_option maxRecDepth 100000 in
set_option maxHeartbeats 4000000 in
theorem FnCount_any (A : Option Addr) (n cap : Nat) (bs : List Int) (w : World) (hz : Bytes w w.heap.size A bs ∧ bs.length = n ∧ n ≤ cap ∧ cap ≤ maxLen) :
    Calls Try.prog 3 #[.slice A n cap] w fun e w' => e = .returned (.bool true) ∧ Below w.heap.size w w' := by
  obtain ⟨hz, rfl, hc, hm⟩ := hz
  have hm' := hm
  unfold maxLen at hm'
  by_cases hl0 : (1048576 : Int) < bs.length
  · go_enter Try.func3, Try.ntmps3
    go_wp2
    go_ret
    exact ⟨rfl, Below.refl _ _⟩
  · go_enter Try.func3, Try.ntmps3
    go_wp2_with fail
    refine (DrawRelCount_any A cap bs w hz hc hm).mono ?_
    rintro e w0 ⟨za, A1, c1, rfl, hla, hsa, hoa, hb0⟩
    have TA := Lib.hid (rowsA_own hoa rfl)
    have NA := Lib.hid (owns_nilE hoa)
    have HSA := Lib.hid hsa
    have B0 := Lib.hid hb0
    have hla' : za.length ≤ 1048577 := by omega
    have hxl := relCountL_len za
    obtain ⟨xs, hxs⟩ : ∃ xs, relCountL za = xs := ⟨_, rfl⟩
    rw [hxs] at hxl
    have HX := Lib.hid hxs
    obtain ⟨o, ho⟩ : ∃ o, relOk za = o := ⟨_, rfl⟩
    have HOA := Lib.hid ho
    clear hoa hsa hb0 hz hc hm hm' hxs ho
    go_wp2_with fail
    refine (RelCount_any A1 c1 za w0 TA.out NA.out hla' HSA.out).mono ?_
    rw [HX.out]
    rintro e w1 ⟨A3, c3, rfl, ho, hb⟩
    have X1 := Lib.hid (show StepsA w1 A3 xs from el_of_owns stepC_len ho)
    have R1 := Lib.hid hb
    clear ho hb
    go_wp2_with fail
    refine (sRelCount_any A1 c1 za w1 (TA.out.below R1.out) hla' HSA.out).mono ?_
    rw [HX.out]
    rintro e w2 ⟨A4, c4, rfl, ho, hb⟩
    have Y2 := Lib.hid (show StepsA w2 A4 xs from el_of_owns stepC_len ho)
    have X2 := Lib.hid (X1.out.below hb)
    have R2 := Lib.hid (R1.out.trans (hb.mono R1.out.size))
    clear ho hb X1 R1
    go_wp2_with fail
    refine (RelOk_any A1 c1 za _ (TA.out.below R2.out) hla' HSA.out).mono ?_
    rw [HOA.out]
    rintro e w3 ⟨rfl, hb⟩
    have R3 := Lib.hid (R2.out.trans (hb.mono R2.out.size))
    have X3 := Lib.hid (X2.out.below hb)
    have Y3 := Lib.hid (Y2.out.below hb)
    clear hb R2 X2 Y2
    cases o
    · have BZ := Lib.hid (B0.out.trans (R3.out.mono B0.out.size))
      go_wp2
      go_ret
      exact ⟨rfl, BZ.out⟩
    · have HFF := count_facts HOA.out
      rw [HX.out] at HFF
      have HL := Lib.hid HFF.1
      have HF := Lib.hid HFF.2
      clear HFF
      go_wp2
      go_loopw [6] (fun i wr => ∃ k : Nat, k ≤ xs.length ∧ i = .int .i64 k ∧ Below w3.heap.size w3 wr) (fun i _ => xs.length - (intOf i).toNat)
      case atStart => exact ⟨0, Nat.zero_le _, rfl, Below.refl _ _⟩
      case round =>
        obtain ⟨k, hk, rfl, hbr⟩ := hrel
        by_cases hlt : k < xs.length
        · obtain ⟨b, off, x, rfl, hb, hx, p0, p1, p2⟩ := (X3.out.below hbr).at_ hlt
          obtain ⟨b', off', x', rfl, hb', hx', q0, q1, q2⟩ := (Y3.out.below hbr).at_ hlt
          obtain rfl : x = x' := by have := hx.symm.trans hx'; injection this
          have BR := Lib.hid hbr
          have HXK := Lib.hid hx
          have hkz : (k : Int) < (xs.length : Int) := by omega
          have hkz0 : (0 : Int) ≤ (k : Int) := by omega
          clear hbr hx hx'
          by_cases h0 : k = 0
          · have hk2 : decide (0 < k) = false := decide_eq_false (by omega)
            have hk3 : decide ((0 : Int) < (k : Int)) = false := decide_eq_false (by omega)
            clear h0
            go_wp2_with fail
            go_quiet (fail)
            have BN := Lib.hid (show Below w3.heap.size w3 (wr.drewN nq) from below_drewN BR.out _)
            go_wp2
            go_roundw
            case rel => exact ⟨k + 1, by omega, by go_num, BN.out⟩
            case measure => simp [intOf]; omega
          · have hk1 : (0 : Int) < (k : Int) := by omega
            have hkn : 0 < k := by omega
            have hk2 : decide (0 < k) = true := decide_eq_true hkn
            have hk3 : decide ((0 : Int) < (k : Int)) = true := decide_eq_true hk1
            obtain ⟨b2, off2, y, hA, -, hy, r0, r1, r2⟩ := (X3.out.below BR.out).at_ (show k - 1 < xs.length by omega)
            injection hA with hA
            injection hA with e1 e2 e3
            subst e1 e2
            clear e3
            have HLK := HL.out (k - 1) y x hy (by rw [show k - 1 + 1 = k by omega]; exact HXK.out)
            obtain ⟨hye, hyt⟩ := HLK
            unfold touchSt at hyt
            obtain ⟨i1, hi1⟩ : ∃ i1 : Int, (k : Int) - 1 = i1 := ⟨_, rfl⟩
            have k2 : (0 : Int) ≤ i1 := by omega
            have k3 : i1 < (xs.length : Int) := by omega
            have k4 : i1.toNat = k - 1 := by omega
            have k5 : IntKind.i64.wrap ((k : Int) - 1) = i1 := (IntWalk.i64_in _ (by omega)).trans hi1
            have n1 : decide (x.f < y.e) = false := decide_eq_false (by omega)
            clear hi1 hy h0 hye
            by_cases h2 : x.f = y.e
            · have n2 : (x.f == y.e) = true := by simpa using h2
              have n3 : (x.m == y.m) = false := by
                rw [beq_eq_false_iff_ne]
                intro hh
                simp [hh, h2] at hyt
              clear h2 hyt
              go_wp2_with fail
              go_quiet (fail)
              have BN := Lib.hid (show Below w3.heap.size w3 (wr.drewN nq) from below_drewN BR.out _)
              go_wp2
              go_roundw
              case rel => exact ⟨k + 1, by omega, by go_num, BN.out⟩
              case measure => simp [intOf]; omega
            · have n2 : (x.f == y.e) = false := by simpa using h2
              clear h2 hyt
              go_wp2_with fail
              go_quiet (fail)
              have BN := Lib.hid (show Below w3.heap.size w3 (wr.drewN nq) from below_drewN BR.out _)
              go_wp2
              go_roundw
              case rel => exact ⟨k + 1, by omega, by go_num, BN.out⟩
              case measure => simp [intOf]; omega
        · obtain rfl : k = xs.length := by omega
          have RR := Lib.hid (R3.out.trans (hbr.mono R3.out.size))
          have BQ := Lib.hid hbr
          clear hbr
          go_wp2
          go_loopw [7] (fun i wt => ∃ k : Nat, k ≤ 100 ∧ i = .int .i64 k ∧ Below w3.heap.size w3 wt) (fun i _ => 100 - (intOf i).toNat)
          case atStart => exact ⟨0, Nat.zero_le _, rfl, BQ.out⟩
          case round =>
            obtain ⟨k, hk, rfl, hbr⟩ := hrel
            by_cases hlt : k < 100
            · have hkz : (k : Int) ≤ 99 := by omega
              have hkz0 : (0 : Int) ≤ (k : Int) := by omega
              have HAt := Lib.hid (HF.out k)
              have hpl := relAtL_len za k
              obtain ⟨ps, hps⟩ : ∃ ps, relAtL za k = ps := ⟨_, rfl⟩
              have HPS := Lib.hid hps
              rw [hps] at HAt hpl
              have BR := Lib.hid hbr
              clear hps hbr
              go_wp2
              go_loopw [8, 9] (fun m jv wi => ∃ j : Nat, j ≤ xs.length ∧ jv = .int .i64 j ∧ m = .int .i64 (manyAt (xs.take j) k) ∧ Below w3.heap.size w3 wi) (fun _ jv _ => xs.length - (intOf jv).toNat)
              case atStart => exact ⟨0, Nat.zero_le _, rfl, by simp [manyAt], BR.out⟩
              case round =>
                obtain ⟨j, hj, rfl, rfl, hbi⟩ := hrel
                by_cases hlt2 : j < xs.length
                · obtain ⟨b, off, x, rfl, hb, hx, p0, p1, p2⟩ := (X3.out.below hbi).at_ hlt2
                  have HT := Lib.hid (many_take (c := (k : Int)) hx)
                  obtain ⟨mm, hmm⟩ : ∃ mm, manyAt (xs.take j) k = mm := ⟨_, rfl⟩
                  rw [hmm] at HT
                  rw [hmm]
                  have hjz : (j : Int) < (xs.length : Int) := by omega
                  have hjz0 : (0 : Int) ≤ (j : Int) := by omega
                  have BI := Lib.hid hbi
                  clear hx hmm hbi
                  go_wp2_with fail
                  refine (vaIn_any _ 1 [(x.f, x.e)] k _ (spans_new1 _ x.f x.e) (by simp [maxLen])).mono ?_
                  rintro e w6 ⟨rfl, rfl⟩
                  rw [anyIn_one]
                  have B6 := Lib.hid (BI.out.alloc BI.out.size (.cells #[.int .i64 x.f, .int .i64 x.e] 29))
                  clear BI p1 p2
                  cases hh : hasB x.f x.e k
                  · rw [hh, if_neg (by simp)] at HT
                    go_wp2
                    go_roundw
                    case rel => exact ⟨j + 1, by omega, by go_num, by rw [HT.out], B6.out⟩
                    case measure => simp [intOf]; omega
                  · rw [hh, if_pos rfl] at HT
                    go_wp2
                    go_roundw
                    case rel => exact ⟨j + 1, by omega, by go_num, by rw [HT.out], B6.out⟩
                    case measure => simp [intOf]; omega
                · obtain rfl : j = xs.length := by omega
                  rw [List.take_length, HAt.out]
                  have R5 := Lib.hid (R3.out.trans (hbi.mono R3.out.size))
                  have BI := Lib.hid hbi
                  clear hbi
                  go_wp2_with fail
                  refine (RelAt_any A1 c1 za k _ (TA.out.below R5.out) hla' HSA.out).mono ?_
                  rw [HPS.out]
                  rintro e w7 ⟨A7, c7, rfl, ho, hb⟩
                  have B7 := Lib.hid (BI.out.trans (hb.mono BI.out.size))
                  clear ho hb BI
                  go_wp2
                  go_roundw
                  case rel => exact ⟨k + 1, by omega, by go_num, B7.out⟩
                  case measure => simp [intOf]; omega
            · obtain rfl : k = 100 := by omega
              have BZ := Lib.hid (B0.out.trans ((R3.out.trans (hbr.mono R3.out.size)).mono B0.out.size))
              clear hbr
              go_wp2
              go_ret
              exact ⟨rfl, BZ.out⟩
end Go.Proofs.Ytphinkcfmdnpfaa
