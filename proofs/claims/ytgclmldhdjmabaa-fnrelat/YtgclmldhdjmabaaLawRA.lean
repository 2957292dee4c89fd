/-
  The walk of FnRelAt.
-/
import Derived.Test.YtgclmldhdjmabaaRelA
import Derived.Test.YtgclmldhdjmabaaLawRM
import Derived.Test.YtgclmldhdjmabaaLawSM
namespace Go.Proofs.Ytgclmldhdjmabaa
open Go.Shelf Go.RowKit Go.Lib Go.Sort

set_option maxRecDepth 100000 in
set_option maxHeartbeats 4000000 in
theorem FnRelAt_any (A : Option Addr) (n cap : Nat) (bs : List Int) (w : World) (hz : Bytes w w.heap.size A bs ∧ bs.length = n ∧ n ≤ cap ∧ cap ≤ maxLen) :
    Calls Try.prog 3 #[.slice A n cap] w fun e w' => e = .returned (.bool true) ∧ Below w.heap.size w w' := by
  obtain ⟨hz, rfl, hc, hm⟩ := hz
  have hm' := hm
  unfold maxLen at hm'
  by_cases hl0 : (1048576 : Int) < bs.length
  · go_enter Try.func3, Try.ntmps3
    go_wp2
    go_ret
    exact ⟨rfl, Below.refl _ _⟩
  · go_enter Try.func3, Try.ntmps3
    go_wp2_with fail
    refine (DrawRelAt_any A cap bs w hz hc hm).mono ?_
    rintro e w0 ⟨zs, A1, c1, c, rfl, hca, hcb, hll, hsh, hol, hb0⟩
    have T0 := Lib.hid (rowsA_own hol rfl)
    have B0 := Lib.hid hb0
    have HS := Lib.hid hsh
    have hl : zs.length ≤ 1048577 := by omega
    obtain ⟨o, ho⟩ : ∃ o, relOk zs = o := ⟨_, rfl⟩
    have HO := Lib.hid ho
    have hpl := relAtL_len zs c
    obtain ⟨ps, hps⟩ : ∃ ps, relAtL zs c = ps := ⟨_, rfl⟩
    have HPS := Lib.hid hps
    rw [hps] at hpl
    clear hol hb0 hsh hz hc hm hm' ho hps
    go_wp2_with fail
    refine (RelAt_any A1 c1 zs c _ T0.out hl HS.out).mono ?_
    rw [HPS.out]
    rintro e w1 ⟨A2, c2, rfl, ho, hb⟩
    have P1 := Lib.hid (show PairsA w1 A2 ps from el_of_owns pairC_len ho)
    have T1 := Lib.hid (T0.out.below hb)
    have B1 := Lib.hid (B0.out.trans (hb.mono B0.out.size))
    clear ho hb T0 B0
    go_wp2_with fail
    refine (sRelAt_any A1 c1 zs c _ T1.out hl HS.out).mono ?_
    rw [HPS.out]
    rintro e w2 ⟨A3, c3, rfl, ho, hb⟩
    have Q2 := Lib.hid (show PairsA w2 A3 ps from el_of_owns pairC_len ho)
    have P2 := Lib.hid (P1.out.below hb)
    have T2 := Lib.hid (T1.out.below hb)
    have B2 := Lib.hid (B1.out.trans (hb.mono B1.out.size))
    clear ho hb T1 B1 P1
    go_wp2_with fail
    refine (vaPairs_any _ _ _ _ ps ps _ P2.out Q2.out (by omega)).mono ?_
    rintro e w3 ⟨v3, hv3, rfl, hb⟩
    obtain rfl : v3 = true := hv3.2 rfl
    have P3 := Lib.hid (P2.out.below hb)
    have T3 := Lib.hid (T2.out.below hb)
    have B3 := Lib.hid (B2.out.trans (hb.mono B2.out.size))
    clear hb hv3 P2 T2 B2 Q2
    go_wp2_with fail
    refine (RelOk_any A1 c1 zs _ T3.out hl HS.out).mono ?_
    rw [HO.out]
    rintro e w4 ⟨rfl, hb⟩
    have P4 := Lib.hid (P3.out.below hb)
    have T4 := Lib.hid (T3.out.below hb)
    have B4 := Lib.hid (B3.out.trans (hb.mono B3.out.size))
    clear hb P3 T3 B3
    cases o
    · skip
      go_wp2_with fail
      refine (sRelAt_any A1 c1 zs c _ T4.out hl HS.out).mono ?_
      rw [HPS.out]
      rintro e w5 ⟨A3, c3, rfl, ho, hb⟩
      have Q5 := Lib.hid (show PairsA w5 A3 ps from el_of_owns pairC_len ho)
      have P5 := Lib.hid (P4.out.below hb)
      have B5 := Lib.hid (B4.out.trans (hb.mono B4.out.size))
      clear ho hb P4 T4 B4
      go_wp2_with fail
      refine (vaPairs_any _ _ _ _ ps ps _ P5.out Q5.out (by omega)).mono ?_
      rintro e w6 ⟨v6, hv6, rfl, hb⟩
      obtain rfl : v6 = true := hv6.2 rfl
      have B6 := Lib.hid (B5.out.trans (hb.mono B5.out.size))
      clear hb hv6
      go_wp2
      go_ret
      exact ⟨rfl, B6.out⟩
    · have hl24 := relOk_len HO.out
      have HPP := Lib.hid (show ps = atTo zs c zs.length from by rw [← HPS.out, relAtL, if_pos HO.out])
      go_wp2
      go_loopw [6, 7] (fun v i wr => ∃ k : Nat, k ≤ zs.length ∧ i = .int .i64 k ∧ v = .int .i64 ((atTo zs c k).length : Int) ∧ Below w4.heap.size w4 wr) (fun _ i _ => zs.length - (intOf i).toNat)
      case atStart => exact ⟨0, Nat.zero_le _, rfl, by simp [atTo], Below.refl _ _⟩
      case round =>
        obtain ⟨k, hk, rfl, rfl, hbr⟩ := hrel
        have hlo := atTo_len zs c k
        by_cases hlt : k < zs.length
        · obtain ⟨b0, off, x, rfl, hb0, hx, x0, x1, x2, x3⟩ := (T4.out.below hbr).at_ hlt
          have HT := Lib.hid (atTo_succ (c := c) hx)
          obtain ⟨oo, hoo⟩ : ∃ oo, atTo zs c k = oo := ⟨_, rfl⟩
          rw [hoo] at HT hlo ⊢
          have hkz : (k : Int) < (zs.length : Int) := by omega
          have hkz0 : (0 : Int) ≤ (k : Int) := by omega
          clear hx hoo x0 x1
          go_wp2_with fail
          refine (vaIn_any _ 1 [(x.f, x.e)] c _ (spans_new1 wr x.f x.e) (by simp [maxLen])).mono ?_
          rintro e w5 ⟨rfl, rfl⟩
          rw [anyIn_one]
          have BN := Lib.hid (hbr.alloc hbr.size (.cells #[.int .i64 x.f, .int .i64 x.e] 32))
          clear hbr
          cases hh : hasB x.f x.e c
          · rw [hh, if_neg (by simp), List.append_nil] at HT
            go_wp2
            go_roundw
            case rel => exact ⟨k + 1, by omega, by go_num, by rw [HT.out], BN.out⟩
            case measure => simp [intOf]; omega
          · rw [hh, if_pos rfl] at HT
            have HL := Lib.hid (show ((atTo zs c (k + 1)).length : Int) = oo.length + 1 from by rw [HT.out]; simp)
            go_wp2
            go_roundw
            case rel => exact ⟨k + 1, by omega, by go_num, by rw [HL.out], BN.out⟩
            case measure => simp [intOf]; omega
        · obtain rfl : k = zs.length := by omega
          rw [← HPP.out]
          rw [← HPP.out] at hlo
          go_wp2
          go_loopw [8] (fun i wi => ∃ m : Nat, m ≤ ps.length ∧ i = .int .i64 m ∧ Below w4.heap.size w4 wi) (fun i _ => ps.length - (intOf i).toNat)
          case atStart => exact ⟨0, Nat.zero_le _, rfl, hbr⟩
          case round =>
            obtain ⟨m, hm, rfl, hbi⟩ := hrel
            by_cases hlt2 : m < ps.length
            · obtain ⟨b2, off2, p, rfl, hb2, hp, y0, y1⟩ := (P4.out.below hbi).at_ hlt2
              have hmz : (m : Int) < (ps.length : Int) := by omega
              have hmz0 : (0 : Int) ≤ (m : Int) := by omega
              have HG := Lib.hid (at_get HO.out (show (relAtL zs c)[m]? = some p from by rw [HPS.out]; exact hp))
              have TR := Lib.hid (T4.out.below hbi)
              have hq0 : Below wr.heap.size wr wr := Below.refl _ _
              have HPR := Lib.hid (show ps.Pairwise (fun p q => kl p.k q.k = true) from by rw [← HPS.out]; exact at_rise HO.out c)
              have HPM := Lib.hid hp
              clear hp hq0
              by_cases hm0 : m = 0
              · subst hm0
                replace y0 : wr.cell? ⟨b2, off2, none⟩ = some (.string p.k) := by simpa using y0
                replace y1 : wr.cell? ⟨b2, off2 + 1, none⟩ = some (.string p.t) := by simpa using y1
                go_wp2_with fail
                refine wp_region_later (by kernel_rfl) (by kernel_rfl) ?_
                intro f hf1 hf2 hfc
                have HRG := Lib.hid (show ∀ v, Calls Try.prog 20 #[.slice A1 zs.length c1, .string p.k, .int .i64 c] (f v) fun e w' => e = .returned (.string p.t) ∧ Below (f v).heap.size (f v) w' from fun v => by
                  have := RelGet_any A1 c1 zs p.k c (f v) (TR.out.below (hf1.out v)) hl HS.out
                  rw [HG.out] at this
                  exact this)
                repeat (go_big_quiet_step ((go_at_call 20; exact calls_later hf1 hf2 (HRG.out _))))
                refine wpQuiet_nil ?_
                rintro _ ⟨v, rfl⟩
                have Hv := Lib.hid (hbi.trans ((hf1.out v).mono hbi.size))
                clear hfc hbi HRG
                go_wp2
                go_roundw
                case rel => exact ⟨0 + 1, by omega, by go_num, Hv.out⟩
                case measure => simp [intOf]; omega
              · obtain ⟨b1, off1, y, e1, _, hy, z0, _⟩ := (P4.out.below hbi).at_ (show m - 1 < ps.length by omega)
                injection e1 with e1
                injection e1 with e2 e3 _
                subst e2 e3
                obtain ⟨hy1, hy2⟩ := pairs_rise HPR.out hm0 HPM.out hy
                have hkp : (0 : Int) < (m : Int) := by omega
                have hkN : 0 < m := by omega
                have hkp1 : (0 : Int) ≤ (m : Int) - 1 := by omega
                have hkp2 : (m : Int) - 1 < (ps.length : Int) := by omega
                have hkn : ((m : Int) - 1).toNat = m - 1 := by omega
                clear hy
                go_wp2_with fail
                refine wp_region_later (by kernel_rfl) (by kernel_rfl) ?_
                intro f hf1 hf2 hfc
                have HRG := Lib.hid (show ∀ v, Calls Try.prog 20 #[.slice A1 zs.length c1, .string p.k, .int .i64 c] (f v) fun e w' => e = .returned (.string p.t) ∧ Below (f v).heap.size (f v) w' from fun v => by
                  have := RelGet_any A1 c1 zs p.k c (f v) (TR.out.below (hf1.out v)) hl HS.out
                  rw [HG.out] at this
                  exact this)
                repeat (go_big_quiet_step ((go_at_call 20; exact calls_later hf1 hf2 (HRG.out _))))
                refine wpQuiet_nil ?_
                rintro _ ⟨v, rfl⟩
                have Hv := Lib.hid (hbi.trans ((hf1.out v).mono hbi.size))
                clear hfc hbi HRG
                go_wp2
                go_roundw
                case rel => exact ⟨m + 1, by omega, by go_num, Hv.out⟩
                case measure => simp [intOf]; omega
            · obtain rfl : m = ps.length := by omega
              have BR := Lib.hid (B4.out.trans (hbi.mono B4.out.size))
              clear hbi hbr
              go_wp2
              go_ret
              exact ⟨rfl, BR.out⟩
end Go.Proofs.Ytgclmldhdjmabaa
