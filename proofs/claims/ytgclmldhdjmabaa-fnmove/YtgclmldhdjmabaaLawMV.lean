/-
  The walk of FnMove.
-/
import Derived.Test.YtgclmldhdjmabaaLawRM
import Derived.Test.YtgclmldhdjmabaaRelG
import Derived.Test.YtgclmldhdjmabaaDmlM
namespace Go.Proofs.Ytgclmldhdjmabaa
open Go.Shelf Go.RowKit Go.Lib Go.Sort

/-- A drawn table, and how many points. -/
def DrawnMV (w : World) (e : Ending) (w' : World) : Prop :=
  ∃ (zs : List RowV) (A : Option Addr) (cap : Nat) (c : Int), e = .returned (.tuple #[.slice A zs.length cap, .int .i64 c]) ∧ -80 ≤ c ∧ c ≤ 100 ∧ zs.length ≤ 25 ∧ Short zs ∧ w'.ownsRow w.heap.size 34 4 (.slice A zs.length cap) zs.length (flatOf rowC zs) ∧ Below w.heap.size w w'

set_option maxRecDepth 100000 in
set_option maxHeartbeats 2000000 in
theorem DrawRelMove_any (A : Option Addr) (cap : Nat) (bs : List Int) (w : World) (h : Bytes w w.heap.size A bs) (hc : bs.length ≤ cap) (hm : cap ≤ maxLen) :
    Calls Try.prog 25 #[.slice A bs.length cap] w (DrawnMV w) := by
  go_enter Try.func25, Try.ntmps25
  go_wp2_with fail
  refine (l20Open_any A cap bs _ h hc hm).mono ?_
  rintro e w1 ⟨zs0, rfl, hrd1, hb1⟩
  have hl1 := hrd1.lt
  clear h
  go_wp2_with fail
  refine (l20AnyRel_any _ zs0 0 _ hrd1 (by omega) (by omega)).mono ?_
  rintro e w2 ⟨zs, A2, c2, rfl, hll, hsh, hol, p', hpa, hpb, hrd2, hgr2⟩
  have O2 := Lib.hid hol
  have HS := Lib.hid hsh
  have hs2 := hgr2.size
  clear hol hsh
  go_wp2_with fail
  refine (one_any _ w2.heap.size 8 zs0 [0, 1, 5, -5, 80, -80, 99, 100] p' _ (rd_alloc hrd2 _) (by omega) (by omega) (by simp) (by simp) (by have := hrd2.lt; omega) (by
    intro i hi
    match i, hi with
    | 0, _ => first | (simp; done) | (simp [go_sem]; done)
    | 1, _ => first | (simp; done) | (simp [go_sem]; done)
    | 2, _ => first | (simp; done) | (simp [go_sem]; done)
    | 3, _ => first | (simp; done) | (simp [go_sem]; done)
    | 4, _ => first | (simp; done) | (simp [go_sem]; done)
    | 5, _ => first | (simp; done) | (simp [go_sem]; done)
    | 6, _ => first | (simp; done) | (simp [go_sem]; done)
    | 7, _ => first | (simp; done) | (simp [go_sem]; done))).mono ?_
  rintro e w4 ⟨v, rfl, hv, hrd4, hgr4⟩
  have hv' : -80 ≤ v ∧ v ≤ 100 := by simp at hv; omega
  obtain ⟨v0, v1⟩ := hv'
  have O4 := Lib.hid ((O2.out.alloc _).kept hgr4 (owns_notR O2.out hl1))
  have HB := Lib.hid (grown_below hb1 (grown_trans hgr2 (grown_trans (grown_alloc (grown_refl w2 _) _) hgr4)) (Nat.le_refl _))
  have hs1 := hb1.size
  clear hgr2 hgr4 hrd1 hrd2 hrd4 O2 hb1 hv
  go_wp2
  refine bodyPost_ret (v := .tuple #[.slice A2 zs.length c2, .int .i64 v]) (by simp [results, Try.results25, go_sem]) rfl ?_
  exact ⟨zs, A2, c2, v, rfl, by omega, by omega, hll, HS.out, owns_baseE O4.out hs1, HB.out⟩

set_option maxRecDepth 100000 in
set_option maxHeartbeats 4000000 in
theorem FnMove_any (A : Option Addr) (n cap : Nat) (bs : List Int) (w : World) (hz : Bytes w w.heap.size A bs ∧ bs.length = n ∧ n ≤ cap ∧ cap ≤ maxLen) :
    Calls Try.prog 5 #[.slice A n cap] w fun e w' => e = .returned (.bool true) ∧ Below w.heap.size w w' := by
  obtain ⟨hz, rfl, hc, hm⟩ := hz
  have hm' := hm
  unfold maxLen at hm'
  by_cases hl0 : (1048576 : Int) < bs.length
  · go_enter Try.func5, Try.ntmps5
    go_wp2
    go_ret
    exact ⟨rfl, Below.refl _ _⟩
  · go_enter Try.func5, Try.ntmps5
    go_wp2_with fail
    refine (DrawRelMove_any A cap bs w hz hc hm).mono ?_
    rintro e w0 ⟨zs, A1, c1, n, rfl, hn1, hn2, hll, hsh, hol, hb0⟩
    have T0 := Lib.hid (rowsA_own hol rfl)
    have B0 := Lib.hid hb0
    have HS := Lib.hid hsh
    have hl : zs.length ≤ 1048577 := by omega
    obtain ⟨o, ho⟩ : ∃ o, relOk zs = o := ⟨_, rfl⟩
    have HO := Lib.hid ho
    have hml := moveS_len zs n
    obtain ⟨ms, hms⟩ : ∃ ms, moveS zs n = ms := ⟨_, rfl⟩
    have HM := Lib.hid hms
    rw [hms] at hml
    clear hol hb0 hsh hz hc hm hm' ho hms
    go_wp2_with fail
    refine (RelMove_any A1 c1 zs n _ T0.out hl HS.out).mono ?_
    rw [HM.out]
    rintro e w1 ⟨A2, c2, rfl, ho, hb⟩
    have X1 := Lib.hid (show RowsA w1 A2 ms from el_of_owns rowC_len ho)
    have T1 := Lib.hid (T0.out.below hb)
    have B1 := Lib.hid (B0.out.trans (hb.mono B0.out.size))
    clear ho hb T0 B0
    go_wp2_with fail
    refine (sRelMove_any A1 c1 zs n _ T1.out hl HS.out).mono ?_
    rw [HM.out]
    rintro e w2 ⟨A3, c3, rfl, ho, hb⟩
    have Y2 := Lib.hid (show RowsA w2 A3 ms from el_of_owns rowC_len ho)
    have X2 := Lib.hid (X1.out.below hb)
    have T2 := Lib.hid (T1.out.below hb)
    have B2 := Lib.hid (B1.out.trans (hb.mono B1.out.size))
    clear ho hb T1 B1 X1
    go_wp2_with fail
    refine (vaRows_any _ _ _ _ ms ms _ X2.out Y2.out (by omega)).mono ?_
    rintro e w3 ⟨v3, hv3, rfl, hb⟩
    obtain rfl : v3 = true := hv3.2 rfl
    have X3 := Lib.hid (X2.out.below hb)
    have T3 := Lib.hid (T2.out.below hb)
    have B3 := Lib.hid (B2.out.trans (hb.mono B2.out.size))
    clear hb hv3 X2 T2 B2 Y2
    go_wp2_with fail
    refine (RelOk_any A1 c1 zs _ T3.out hl HS.out).mono ?_
    rw [HO.out]
    rintro e w4 ⟨rfl, hb⟩
    have X4 := Lib.hid (X3.out.below hb)
    have T4 := Lib.hid (T3.out.below hb)
    have B4 := Lib.hid (B3.out.trans (hb.mono B3.out.size))
    clear hb X3 T3 B3
    by_cases hno : o = true ∧ n ≤ 99
    · obtain ⟨rfl, hn3⟩ := hno
      have HMM := Lib.hid (show ms = moveL zs n from by rw [← HM.out, moveS, if_pos ⟨HO.out, by omega, hn3⟩])
      have HXO := Lib.hid (show relOk ms = true from by rw [HMM.out]; exact move_ok n HO.out)
      have hlen : ms.length ≤ zs.length := by rw [HMM.out]; exact move_len zs n
      have HSX := Lib.hid (show Short ms from fun r hr => by
        rw [HMM.out] at hr
        obtain ⟨x, hx, hy⟩ := List.mem_filterMap.1 hr
        obtain ⟨k1, k2, _⟩ := move_in hy
        rw [k1, k2]
        exact HS.out x hx)
      go_wp2
      go_loopw [6] (fun i wr => ∃ k : Nat, k ≤ 100 ∧ i = .int .i64 k ∧ Below w4.heap.size w4 wr) (fun i _ => 100 - (intOf i).toNat)
      case atStart => exact ⟨0, Nat.zero_le _, rfl, Below.refl _ _⟩
      case round =>
        obtain ⟨k, hk, rfl, hbr⟩ := hrel
        by_cases hlt : k < 100
        · have hkz : (k : Int) ≤ 99 := by omega
          have hkz0 : (0 : Int) ≤ (k : Int) := by omega
          have BR := Lib.hid hbr
          clear hbr
          have hpl := relAtL_len ms k
          obtain ⟨ps, hps⟩ : ∃ ps, relAtL ms k = ps := ⟨_, rfl⟩
          have HP := Lib.hid hps
          have HQ := Lib.hid (show relAtL zs ((k : Int) - n) = ps from by rw [← hps, HMM.out, relAt_move HO.out (by omega) (by omega)])
          rw [hps] at hpl
          clear hps
          go_wp2_with fail
          refine (RelAt_any A2 c2 ms k _ (X4.out.below BR.out) (by omega) HSX.out).mono ?_
          rw [HP.out]
          rintro e w5 ⟨A5, c5, rfl, ho, hb⟩
          have P1 := Lib.hid (show PairsA w5 A5 ps from el_of_owns pairC_len ho)
          have B5 := Lib.hid (BR.out.trans (hb.mono BR.out.size))
          clear ho hb BR
          go_wp2_with fail
          refine (RelAt_any A1 c1 zs ((k : Int) - n) _ (T4.out.below B5.out) hl HS.out).mono ?_
          rw [HQ.out]
          rintro e w6 ⟨A6, c6, rfl, ho, hb⟩
          have Q2 := Lib.hid (show PairsA w6 A6 ps from el_of_owns pairC_len ho)
          have P2 := Lib.hid (P1.out.below hb)
          have B6 := Lib.hid (B5.out.trans (hb.mono B5.out.size))
          clear ho hb B5 P1
          go_wp2_with fail
          refine (vaPairs_any _ _ _ _ ps ps _ P2.out Q2.out (by omega)).mono ?_
          rintro e w7 ⟨v7, hv7, rfl, hb⟩
          obtain rfl : v7 = true := hv7.2 rfl
          have B7 := Lib.hid (B6.out.trans (hb.mono B6.out.size))
          clear hb hv7 B6 P2 Q2
          go_wp2
          go_roundw
          case rel => exact ⟨k + 1, by omega, by go_num, B7.out⟩
          case measure => simp [intOf]; omega
        · obtain rfl : k = 100 := by omega
          have BR := Lib.hid hbr
          clear hbr
          go_wp2_with fail
          refine (RelOk_any A2 c2 ms _ (X4.out.below BR.out) (by omega) HSX.out).mono ?_
          rw [HXO.out]
          rintro e w5 ⟨rfl, hb⟩
          have BZ := Lib.hid (B4.out.trans ((BR.out.trans (hb.mono BR.out.size)).mono B4.out.size))
          clear hb BR
          go_wp2
          go_ret
          exact ⟨rfl, BZ.out⟩
    · by_cases ho : o = true
      · subst ho
        have hn3 : (99 : Int) < n := Int.not_le.1 (fun h => hno ⟨rfl, h⟩)
        clear hno
        go_wp2_with fail
        refine (sRelMove_any A1 c1 zs n _ T4.out hl HS.out).mono ?_
        rw [HM.out]
        rintro e w5 ⟨A3, c3, rfl, ho, hb⟩
        have Y5 := Lib.hid (show RowsA w5 A3 ms from el_of_owns rowC_len ho)
        have X5 := Lib.hid (X4.out.below hb)
        have B5 := Lib.hid (B4.out.trans (hb.mono B4.out.size))
        clear ho hb X4 T4 B4
        go_wp2_with fail
        refine (vaRows_any _ _ _ _ ms ms _ X5.out Y5.out (by omega)).mono ?_
        rintro e w6 ⟨v6, hv6, rfl, hb⟩
        obtain rfl : v6 = true := hv6.2 rfl
        have B6 := Lib.hid (B5.out.trans (hb.mono B5.out.size))
        clear hb hv6
        go_wp2
        go_ret
        exact ⟨rfl, B6.out⟩
      · obtain rfl : o = false := by simpa using ho
        clear hno ho
        go_wp2_with fail
        refine (sRelMove_any A1 c1 zs n _ T4.out hl HS.out).mono ?_
        rw [HM.out]
        rintro e w5 ⟨A3, c3, rfl, ho, hb⟩
        have Y5 := Lib.hid (show RowsA w5 A3 ms from el_of_owns rowC_len ho)
        have X5 := Lib.hid (X4.out.below hb)
        have B5 := Lib.hid (B4.out.trans (hb.mono B4.out.size))
        clear ho hb X4 T4 B4
        go_wp2_with fail
        refine (vaRows_any _ _ _ _ ms ms _ X5.out Y5.out (by omega)).mono ?_
        rintro e w6 ⟨v6, hv6, rfl, hb⟩
        obtain rfl : v6 = true := hv6.2 rfl
        have B6 := Lib.hid (B5.out.trans (hb.mono B5.out.size))
        clear hb hv6
        go_wp2
        go_ret
        exact ⟨rfl, B6.out⟩
end Go.Proofs.Ytgclmldhdjmabaa
