/-
  The walk of FnInsert.
-/
import Derived.Test.YtgclmldhdjmabaaOth
import Derived.Test.YtgclmldhdjmabaaDrawI
import Derived.Test.YtgclmldhdjmabaaDmlA
import Derived.Test.YtgclmldhdjmabaaDmlB
import Derived.Test.YtgclmldhdjmabaaLawMeet
namespace Go.Proofs.Ytgclmldhdjmabaa
open Go.Shelf Go.RowKit Go.Lib Go.Sort

theorem meet_in_row {z r : RowV} {c : Int} (hk : z.k = r.k) (h1 : z.f ≤ c) (h2 : c < z.e) (h3 : r.f ≤ c) (h4 : c < r.e) : meetB z r = true := by
  unfold meetB
  rw [Bool.and_eq_true, same_key, decide_eq_true_eq]
  exact ⟨hk, by omega⟩
theorem ins_in {t x : List RowV} {r : RowV} (ht : relOk t = true) (h : insertL t r = (x, true)) {c : Int} (hc : hasB r.f r.e c = true) :
    relGetL t r.k c = ⟨#[]⟩ ∧ relGetL x r.k c = r.t := by
  obtain ⟨hr, hn, hx, hh⟩ := insert_facts ht h
  have hc' : r.f ≤ c ∧ c < r.e := by simpa [hasB] using hc
  refine ⟨get_none ht (fun s ⟨z, hz, e1, _, e3, e4⟩ => ?_), get_held hx ((hh _ _ _).2 (.inl ⟨rfl, rfl, hc'.1, hc'.2⟩))⟩
  unfold holdsR at hn
  rw [List.any_eq_false] at hn
  exact hn z hz (meet_in_row e1 e3 e4 hc'.1 hc'.2)
theorem ins_out {t x : List RowV} {r : RowV} (ht : relOk t = true) (h : insertL t r = (x, true)) {c : Int} (hc : hasB r.f r.e c = false) :
    relGetL x r.k c = relGetL t r.k c := by
  obtain ⟨hr, hn, hx, hh⟩ := insert_facts ht h
  have hc' : ¬ (r.f ≤ c ∧ c < r.e) := by simpa [hasB] using hc
  refine get_same hx ht (fun s => ?_)
  rw [hh]
  exact ⟨fun h => h.resolve_left (fun h => hc' h.2.2), .inr⟩
theorem ins_others {t x : List RowV} {r : RowV} (ht : relOk t = true) (h : insertL t r = (x, true)) : othersL t r.k = othersL x r.k := by
  obtain ⟨hr, hn, hx, hh⟩ := insert_facts ht h
  refine others_eq ht hx (fun k s c hk => ?_)
  rw [hh]
  exact ⟨.inr, fun h => h.resolve_left (fun h => hk h.1.symm)⟩
theorem ins_again {t x : List RowV} {r : RowV} (ht : relOk t = true) (h : insertL t r = (x, true)) : insertS x r = (x, false) := by
  obtain ⟨hr, hn, hx, hh⟩ := insert_facts ht h
  have hre : r.f < r.e := (rowOk_iff.1 hr).2.2.2.1
  obtain ⟨z, hz, e1, _, e3, e4⟩ := (hh r.k r.t r.f).2 (.inl ⟨rfl, rfl, Int.le_refl _, hre⟩)
  rw [insertS, if_pos hx]
  refine insert_held ?_
  unfold holdsR
  rw [List.any_eq_true]
  exact ⟨z, hz, meet_in_row e1 e3 e4 (Int.le_refl _) hre⟩
theorem putR_short {t : List RowV} {r : RowV} (h : Short t) (hr : r.k.size ≤ maxLen ∧ r.t.size ≤ maxLen) : Short (putR t r) := fun y hy => by
  rcases putR_mem.1 hy with rfl | hy
  · exact hr
  · exact h y hy

set_option maxRecDepth 100000 in
set_option maxHeartbeats 4000000 in
theorem FnInsert_any (A : Option Addr) (n cap : Nat) (bs : List Int) (w : World) (hz : Bytes w w.heap.size A bs ∧ bs.length = n ∧ n ≤ cap ∧ cap ≤ maxLen) :
    Calls Try.prog 8 #[.slice A n cap] w fun e w' => e = .returned (.bool true) ∧ Below w.heap.size w w' := by
  obtain ⟨hz, rfl, hc, hm⟩ := hz
  have hm' := hm
  unfold maxLen at hm'
  by_cases hl0 : (1048576 : Int) < bs.length
  · go_enter Try.func8, Try.ntmps8
    go_wp2
    go_ret
    exact ⟨rfl, Below.refl _ _⟩
  · go_enter Try.func8, Try.ntmps8
    go_wp2_with fail
    refine (DrawRelInsert_any A cap bs w hz hc hm).mono ?_
    rintro e w0 ⟨zs, A1, c1, r, rfl, hks, hll, hsh, hol, hb0⟩
    have O0 := Lib.hid hol
    have B0 := Lib.hid hb0
    have HS := Lib.hid hsh
    have HK := Lib.hid hks
    have hl : zs.length ≤ 1048577 := by omega
    obtain ⟨o, ho⟩ : ∃ o, relOk zs = o := ⟨_, rfl⟩
    have HO := Lib.hid ho
    have hxl := insertS_len zs r
    obtain ⟨px, hpx⟩ : ∃ px, insertS zs r = px := ⟨_, rfl⟩
    rw [hpx] at hxl
    have HX := Lib.hid hpx
    clear hol hb0 hsh hks hz hc hm hm' ho hpx
    obtain ⟨xs, ok⟩ := px
    replace hxl : xs.length ≤ 24 := hxl
    go_wp2_with fail
    generalize hW : w0.alloc _ = W0
    have k0 : W0.cell? ⟨w0.heap.size, 0, none⟩ = some (.string r.k) := by rw [← hW]; simp [go_sem]
    have k1 : W0.cell? ⟨w0.heap.size, 1, none⟩ = some (.string r.t) := by rw [← hW]; simp [go_sem]
    have k2 : W0.cell? ⟨w0.heap.size, 2, none⟩ = some (.int .i64 r.f) := by rw [← hW]; simp [go_sem]
    have k3 : W0.cell? ⟨w0.heap.size, 3, none⟩ = some (.int .i64 r.e) := by rw [← hW]; simp [go_sem]
    have ks : w0.heap.size < W0.heap.size := by rw [← hW]; simp
    have B1 := Lib.hid (show Below w.heap.size w W0 from by rw [← hW]; exact B0.out.alloc B0.out.size _)
    have O1 := Lib.hid (show W0.ownsRow w.heap.size 34 4 (.slice A1 zs.length c1) zs.length (flatOf rowC zs) from by rw [← hW]; exact O0.out.alloc _)
    obtain ⟨G, hG⟩ : ∃ G, w0.heap.size = G := ⟨_, rfl⟩
    rw [hG] at k0 k1 k2 k3 ks ⊢
    clear hW hG B0 O0
    refine (RelInsert_any A1 c1 zs r _ (rowsA_own O1.out rfl) (owns_addr O1.out) hl HS.out HK.out).mono ?_
    rw [HX.out]
    rintro e w1 ⟨A2, c2, rfl, ho, hb⟩
    have X1 := Lib.hid (show RowsA w1 A2 xs from el_of_owns rowC_len ho)
    have XA := Lib.hid (owns_addr ho)
    have O2 := Lib.hid (ownsKeep O1.out hb)
    replace k0 := cellBelow hb ks k0
    replace k1 := cellBelow hb ks k1
    replace k2 := cellBelow hb ks k2
    replace k3 := cellBelow hb ks k3
    replace ks := Nat.lt_of_lt_of_le ks hb.size
    have B2 := Lib.hid (B1.out.trans (hb.mono B1.out.size))
    clear ho hb O1 B1
    go_wp2_with fail
    refine (sRelInsert_any A1 c1 zs r _ (rowsA_own O2.out rfl) (owns_nilcap O2.out) (owns_cap O2.out) hl HS.out HK.out).mono ?_
    rw [HX.out]
    rintro e w2 ⟨A3, c3, rfl, ho, hb⟩
    have Y2 := Lib.hid (show RowsA w2 A3 xs from el_of_owns rowC_len ho)
    have X2 := Lib.hid (X1.out.below hb)
    have T2 := Lib.hid (show RowsA w2 A1 zs from (rowsA_own O2.out rfl).below hb)
    have K0 := Lib.hid (cellBelow hb ks k0)
    have K1 := Lib.hid (cellBelow hb ks k1)
    have K2 := Lib.hid (cellBelow hb ks k2)
    have K3 := Lib.hid (cellBelow hb ks k3)
    replace ks := Nat.lt_of_lt_of_le ks hb.size
    have B3 := Lib.hid (B2.out.trans (hb.mono B2.out.size))
    clear ho hb O2 B2 X1 k0 k1 k2 k3
    obtain ⟨ro, hro⟩ : ∃ ro, rowOk r = ro := ⟨_, rfl⟩
    have HRO := Lib.hid hro
    have C1 := Lib.hid (show ∀ W, Calls Try.prog 38 #[.agg #[.string r.k, .string r.t, .int .i64 r.f, .int .i64 r.e]] W fun e w' => e = .returned (.bool ro) ∧ Below W.heap.size W w' from fun W => by
      have := RowOk_any r W HK.out.1 HK.out.2
      rw [hro] at this
      exact this)
    have C2 := Lib.hid (show ∀ W, Calls Try.prog 39 #[.agg #[.string r.k, .string r.t, .int .i64 r.f, .int .i64 r.e]] W fun e w' => e = .returned (.bool ro) ∧ Below W.heap.size W w' from fun W => by
      have := sRowOk_any r W HK.out.1 HK.out.2
      rw [hro] at this
      exact this)
    have C3 := Lib.hid (show ∀ W, Below w2.heap.size w2 W → Calls Try.prog 18 #[.slice A1 zs.length c1] W fun e w' => e = .returned (.bool o) ∧ Below W.heap.size W w' from fun W hW => by
      have := RelOk_any A1 c1 zs W (T2.out.below hW) hl HS.out
      rw [HO.out] at this
      exact this)
    have C4 := Lib.hid (show ∀ W, Below w2.heap.size w2 W → Calls Try.prog 23 #[.slice A2 xs.length c2, .slice A3 xs.length c3] W fun e w' => e = .returned (.bool true) ∧ Below W.heap.size W w' from fun W hW =>
      (vaRows_any A2 A3 c2 c3 xs xs W (X2.out.below hW) (Y2.out.below hW) (by omega)).mono (by
        rintro e w' ⟨v, hv, rfl, hb⟩
        rw [hv.2 rfl]
        exact ⟨rfl, hb⟩))
    have k0 := K0.out
    have k1 := K1.out
    have k2 := K2.out
    have k3 := K3.out
    clear hro
    cases o
    · cases ok <;> cases ro
      all_goals
        go_wp2_with fail
        refine wp_region_later (by kernel_rfl) (by kernel_rfl) ?_
        intro f hf1 hf2 hfc
        repeat (go_big_quiet_step ((first | (go_at_call 23; exact calls_later hf1 hf2 (C4.out _ (hf1.out _))) | (go_at_call 38; exact calls_later hf1 hf2 (C1.out _)) | (go_at_call 39; exact calls_later hf1 hf2 (C2.out _)) | (go_at_call 18; exact calls_later hf1 hf2 (C3.out _ (hf1.out _))))))
        refine wpQuiet_nil ?_
        rintro _ ⟨v, rfl⟩
        obtain ⟨w4, hw4⟩ : ∃ w4, f v = w4 := ⟨_, rfl⟩
        have D4 := Lib.hid (hf1.out v)
        rw [hw4] at D4 ⊢
        clear hfc hf1 hf2 hw4 k0 k1 k2 k3
        have k0 := cellBelow D4.out ks K0.out
        have k1 := cellBelow D4.out ks K1.out
        have k2 := cellBelow D4.out ks K2.out
        have k3 := cellBelow D4.out ks K3.out
        have ks4 := Nat.lt_of_lt_of_le ks D4.out.size
        go_wp2_with fail
        refine wp_region_later (by kernel_rfl) (by kernel_rfl) ?_
        intro f hf1 hf2 hfc
        repeat (go_big_quiet_step ((first | (go_at_call 23; exact calls_later hf1 hf2 (C4.out _ (D4.out.trans ((hf1.out _).mono D4.out.size)))) | (go_at_call 38; exact calls_later hf1 hf2 (C1.out _)) | (go_at_call 39; exact calls_later hf1 hf2 (C2.out _)) | (go_at_call 18; exact calls_later hf1 hf2 (C3.out _ (D4.out.trans ((hf1.out _).mono D4.out.size)))))))
        refine wpQuiet_nil ?_
        rintro _ ⟨v, rfl⟩
        have BZ := Lib.hid (B3.out.trans ((D4.out.trans ((hf1.out v).mono D4.out.size)).mono B3.out.size))
        clear hfc hf1 hf2
        go_wp2
        go_ret
        exact ⟨rfl, BZ.out⟩
    · cases ok
      · cases ro
        all_goals
          have HE := Lib.hid (show xs = zs from by
            have h := HX.out
            rw [insertS, if_pos HO.out] at h
            rw [insertL] at h
            by_cases hh : rowOk r = true ∧ holdsR zs r = false
            · rw [if_pos hh] at h; exact fits_no h
            · rw [if_neg hh] at h; injection h with h _; exact h.symm)
          go_wp2_with fail
          refine wp_region_later (by kernel_rfl) (by kernel_rfl) ?_
          intro f hf1 hf2 hfc
          repeat (go_big_quiet_step ((first | (go_at_call 23; exact calls_later hf1 hf2 (C4.out _ (hf1.out _))) | (go_at_call 38; exact calls_later hf1 hf2 (C1.out _)) | (go_at_call 39; exact calls_later hf1 hf2 (C2.out _)) | (go_at_call 18; exact calls_later hf1 hf2 (C3.out _ (hf1.out _))))))
          refine wpQuiet_nil ?_
          rintro _ ⟨v, rfl⟩
          obtain ⟨w4, hw4⟩ : ∃ w4, f v = w4 := ⟨_, rfl⟩
          have D4 := Lib.hid (hf1.out v)
          rw [hw4] at D4 ⊢
          clear hfc hf1 hf2 hw4 k0 k1 k2 k3
          go_wp2_with fail
          refine (vaRows_any _ _ _ _ xs zs _ (X2.out.below D4.out) (T2.out.below D4.out) (by omega)).mono ?_
          rintro e w5 ⟨v5, hv5, rfl, hb⟩
          obtain rfl : v5 = true := hv5.2 HE.out
          have BZ := Lib.hid (B3.out.trans ((D4.out.trans (hb.mono D4.out.size)).mono B3.out.size))
          clear hb hv5
          go_wp2
          go_ret
          exact ⟨rfl, BZ.out⟩
      · have HD := Lib.hid (show insertL zs r = (xs, true) from by
          have h := HX.out
          rw [insertS, if_pos HO.out] at h
          exact h)
        have HXO := Lib.hid (insert_facts HO.out HD.out).2.2.1
        have HOT := Lib.hid (ins_others HO.out HD.out)
        have HAG := Lib.hid (ins_again HO.out HD.out)
        have HSX := Lib.hid (show Short xs from (by
          have h := HD.out
          rw [insertL, if_pos ⟨(insert_facts HO.out HD.out).1, (insert_facts HO.out HD.out).2.1⟩] at h
          rw [(fits_yes h).2]
          exact (putR_short HS.out HK.out).join))
        obtain rfl : ro = true := by rw [← HRO.out]; exact (insert_facts HO.out HD.out).1
        go_wp2_with fail
        refine wp_region_later (by kernel_rfl) (by kernel_rfl) ?_
        intro f hf1 hf2 hfc
        repeat (go_big_quiet_step ((first | (go_at_call 23; exact calls_later hf1 hf2 (C4.out _ (hf1.out _))) | (go_at_call 38; exact calls_later hf1 hf2 (C1.out _)) | (go_at_call 39; exact calls_later hf1 hf2 (C2.out _)) | (go_at_call 18; exact calls_later hf1 hf2 (C3.out _ (hf1.out _))))))
        refine wpQuiet_nil ?_
        rintro _ ⟨v, rfl⟩
        obtain ⟨w4, hw4⟩ : ∃ w4, f v = w4 := ⟨_, rfl⟩
        have D4 := Lib.hid (hf1.out v)
        rw [hw4] at D4 ⊢
        clear hfc hf1 hf2 hw4 k0 k1 k2 k3
        go_wp2
        go_loopw [9] (fun i wr => ∃ k : Nat, k ≤ 100 ∧ i = .int .i64 k ∧ Below w2.heap.size w2 wr) (fun i _ => 100 - (intOf i).toNat)
        case atStart => exact ⟨0, Nat.zero_le _, rfl, D4.out⟩
        case round =>
          obtain ⟨k, hk, rfl, hbr⟩ := hrel
          by_cases hlt : k < 100
          · have hkz : (k : Int) ≤ 99 := by omega
            have hkz0 : (0 : Int) ≤ (k : Int) := by omega
            have HI := Lib.hid (fun h => ins_in HO.out HD.out (c := (k : Int)) h)
            have HU := Lib.hid (fun h => ins_out HO.out HD.out (c := (k : Int)) h)
            obtain ⟨t1, ht1⟩ : ∃ t1, relGetL zs r.k (k : Int) = t1 := ⟨_, rfl⟩
            obtain ⟨t2, ht2⟩ : ∃ t2, relGetL xs r.k (k : Int) = t2 := ⟨_, rfl⟩
            have HT1 := Lib.hid ht1
            have HT2 := Lib.hid ht2
            rw [ht1, ht2] at HI HU
            have BR := Lib.hid hbr
            have k0 := cellBelow BR.out ks K0.out
            clear hbr ht1 ht2
            go_wp2_with fail
            refine (RelGet_any A1 c1 zs r.k k _ (T2.out.below BR.out) hl HS.out).mono ?_
            rw [HT1.out]
            rintro e w5 ⟨rfl, hb⟩
            have B5 := Lib.hid (BR.out.trans (hb.mono BR.out.size))
            clear k0 hb BR
            have k0 := cellBelow B5.out ks K0.out
            go_wp2_with fail
            refine (RelGet_any A2 c2 xs r.k k _ (X2.out.below B5.out) (by omega) HSX.out).mono ?_
            rw [HT2.out]
            rintro e w6 ⟨rfl, hb⟩
            have B6 := Lib.hid (B5.out.trans (hb.mono B5.out.size))
            clear k0 hb B5
            have k2 := cellBelow B6.out ks K2.out
            have k3 := cellBelow B6.out ks K3.out
            go_wp2_with fail
            refine (vaIn_any _ 1 [(r.f, r.e)] k _ (spans_new1 w6 r.f r.e) (by simp [maxLen])).mono ?_
            rintro e w7 ⟨rfl, rfl⟩
            rw [anyIn_one]
            have B7 := Lib.hid (B6.out.alloc B6.out.size (.cells #[.int .i64 r.f, .int .i64 r.e] 32))
            clear B6 k2 k3
            have k1 := cellBelow B7.out ks K1.out
            cases hh : hasB r.f r.e k
            · obtain rfl := HU.out hh
              go_wp2
              go_roundw
              case rel => exact ⟨k + 1, by omega, by go_num, B7.out⟩
              case measure => simp [intOf]; omega
            · obtain ⟨rfl, rfl⟩ := HI.out hh
              go_wp2
              go_roundw
              case rel => exact ⟨k + 1, by omega, by go_num, B7.out⟩
              case measure => simp [intOf]; omega
          · obtain rfl : k = 100 := by omega
            have BR := Lib.hid hbr
            have k0 := cellBelow BR.out ks K0.out
            have k1 := cellBelow BR.out ks K1.out
            have k2 := cellBelow BR.out ks K2.out
            have k3 := cellBelow BR.out ks K3.out
            clear hbr
            go_wp2_with fail
            refine (RelInsert_any A2 c2 xs r _ (X2.out.below BR.out) XA.out (by omega) HSX.out HK.out).mono ?_
            rw [HAG.out]
            rintro e w5 ⟨A5, c5, rfl, ho, hb⟩
            have B5 := Lib.hid (BR.out.trans (hb.mono BR.out.size))
            clear hb BR ho k0 k1 k2 k3
            go_wp2_with fail
            refine (RelOk_any A2 c2 xs _ (X2.out.below B5.out) (by omega) HSX.out).mono ?_
            rw [HXO.out]
            rintro e w6 ⟨rfl, hb⟩
            have B6 := Lib.hid (B5.out.trans (hb.mono B5.out.size))
            clear hb B5
            have k0 := cellBelow B6.out ks K0.out
            go_wp2_with fail
            refine (vaOthers_any _ _ _ _ zs xs r.k _ (T2.out.below B6.out) (X2.out.below B6.out) (by omega) (by omega)).mono ?_
            rintro e w7 ⟨v7, hv7, rfl, hb⟩
            obtain rfl : v7 = true := hv7.2 HOT.out
            have BZ := Lib.hid (B3.out.trans ((B6.out.trans (hb.mono B6.out.size)).mono B3.out.size))
            clear hb hv7 k0
            go_wp2
            go_ret
            exact ⟨rfl, BZ.out⟩
end Go.Proofs.Ytgclmldhdjmabaa
