/-
  The walk of FnDelete.
-/
import Derived.Test.YtgclmldhdjmabaaOth
import Derived.Test.YtgclmldhdjmabaaDrawI
import Derived.Test.YtgclmldhdjmabaaDmlB
import Derived.Test.YtgclmldhdjmabaaLawMeet
namespace Go.Proofs.Ytgclmldhdjmabaa
open Go.Shelf Go.RowKit Go.Lib Go.Sort

theorem size_none {s : ByteArray} (h : s.size = 0) : s = ⟨#[]⟩ := by
  cases s with
  | mk d => simp [ByteArray.size] at h; subst h; rfl
theorem del_get {t x : List RowV} {key : ByteArray} {a b : Int} (ht : relOk t = true) (hab : a < b) (h : deleteL t key a b = (x, true)) (c : Int) :
    relGetL x key c = if hasB a b c = true then ⟨#[]⟩ else relGetL t key c := by
  obtain ⟨hx, hh⟩ := delete_facts ht hab h
  by_cases hc : hasB a b c = true
  · have hc' : a ≤ c ∧ c < b := by simpa [hasB] using hc
    rw [if_pos hc]
    exact get_none hx (fun s hs => ((hh _ _ _).1 hs).2 ⟨rfl, hc'⟩)
  · have hc' : ¬ (a ≤ c ∧ c < b) := by simpa [hasB] using hc
    rw [if_neg hc]
    exact get_same hx ht (fun s => by rw [hh]; exact ⟨fun h => h.1, fun h => ⟨h, fun hn => hc' hn.2⟩⟩)
theorem del_others {t x : List RowV} {key : ByteArray} {a b : Int} (ht : relOk t = true) (hab : a < b) (h : deleteL t key a b = (x, true)) : othersL t key = othersL x key := by
  obtain ⟨hx, hh⟩ := delete_facts ht hab h
  exact others_eq ht hx (fun k s c hk => by rw [hh]; exact ⟨fun h => ⟨h, fun hn => hk hn.1⟩, fun h => h.1⟩)

set_option maxRecDepth 100000 in
set_option maxHeartbeats 4000000 in
theorem FnDelete_any (A : Option Addr) (n cap : Nat) (bs : List Int) (w : World) (hz : Bytes w w.heap.size A bs ∧ bs.length = n ∧ n ≤ cap ∧ cap ≤ maxLen) :
    Calls Try.prog 6 #[.slice A n cap] w fun e w' => e = .returned (.bool true) ∧ Below w.heap.size w w' := by
  obtain ⟨hz, rfl, hc, hm⟩ := hz
  have hm' := hm
  unfold maxLen at hm'
  by_cases hl0 : (1048576 : Int) < bs.length
  · go_enter Try.func6, Try.ntmps6
    go_wp2
    go_ret
    exact ⟨rfl, Below.refl _ _⟩
  · go_enter Try.func6, Try.ntmps6
    go_wp2_with fail
    refine (DrawRelDelete_any A cap bs w hz hc hm).mono ?_
    rintro e w0 ⟨zs, A1, c1, key, a, b, rfl, hks, hll, hsh, hol, hb0⟩
    have O0 := Lib.hid hol
    have B0 := Lib.hid hb0
    have HS := Lib.hid hsh
    have HK := Lib.hid hks
    have hl : zs.length ≤ 1048577 := by omega
    obtain ⟨o, ho⟩ : ∃ o, relOk zs = o := ⟨_, rfl⟩
    have HO := Lib.hid ho
    have hxl := deleteS_len zs key a b
    obtain ⟨px, hpx⟩ : ∃ px, deleteS zs key a b = px := ⟨_, rfl⟩
    rw [hpx] at hxl
    have HX := Lib.hid hpx
    clear hol hb0 hsh hks hz hc hm hm' ho hpx
    obtain ⟨xs, ok⟩ := px
    replace hxl : xs.length ≤ 24 := hxl
    go_wp2_with fail
    generalize hW : w0.alloc _ = W0
    have k0 : W0.cell? ⟨w0.heap.size, 0, none⟩ = some (.int .i64 a) := by rw [← hW]; simp [go_sem]
    have k1 : W0.cell? ⟨w0.heap.size, 1, none⟩ = some (.int .i64 b) := by rw [← hW]; simp [go_sem]
    have ks : w0.heap.size < W0.heap.size := by rw [← hW]; simp
    have B1 := Lib.hid (show Below w.heap.size w W0 from by rw [← hW]; exact B0.out.alloc B0.out.size _)
    have O1 := Lib.hid (show W0.ownsRow w.heap.size 34 4 (.slice A1 zs.length c1) zs.length (flatOf rowC zs) from by rw [← hW]; exact O0.out.alloc _)
    obtain ⟨G, hG⟩ : ∃ G, w0.heap.size = G := ⟨_, rfl⟩
    rw [hG] at k0 k1 ks ⊢
    clear hW hG B0 O0
    refine (RelDelete_any A1 c1 zs key a b _ (rowsA_own O1.out rfl) (owns_addr O1.out) hl HS.out HK.out).mono ?_
    rw [HX.out]
    rintro e w1 ⟨A2, c2, rfl, ho, hb⟩
    have X1 := Lib.hid (show RowsA w1 A2 xs from el_of_owns rowC_len ho)
    have O2 := Lib.hid (ownsKeep O1.out hb)
    replace k0 := cellBelow hb ks k0
    replace k1 := cellBelow hb ks k1
    replace ks := Nat.lt_of_lt_of_le ks hb.size
    have B2 := Lib.hid (B1.out.trans (hb.mono B1.out.size))
    clear ho hb O1 B1
    go_wp2_with fail
    refine (sRelDelete_any A1 c1 zs key a b _ (rowsA_own O2.out rfl) (owns_nilcap O2.out) hl HS.out HK.out).mono ?_
    rw [HX.out]
    rintro e w2 ⟨A3, c3, rfl, ho, hb⟩
    have Y2 := Lib.hid (show RowsA w2 A3 xs from el_of_owns rowC_len ho)
    have X2 := Lib.hid (X1.out.below hb)
    have T2 := Lib.hid (show RowsA w2 A1 zs from (rowsA_own O2.out rfl).below hb)
    have K0 := Lib.hid (cellBelow hb ks k0)
    have K1 := Lib.hid (cellBelow hb ks k1)
    replace ks := Nat.lt_of_lt_of_le ks hb.size
    have B3 := Lib.hid (B2.out.trans (hb.mono B2.out.size))
    clear ho hb O2 B2 X1 k0 k1
    go_wp2_with fail
    refine (vaRows_any _ _ _ _ xs xs _ X2.out Y2.out (by omega)).mono ?_
    rintro e w3 ⟨v3, hv3, rfl, hb⟩
    obtain rfl : v3 = true := hv3.2 rfl
    have D3 := Lib.hid hb
    clear hb hv3
    go_wp2_with fail
    refine (RelOk_any A1 c1 zs _ (T2.out.below D3.out) hl HS.out).mono ?_
    rw [HO.out]
    rintro e w4 ⟨rfl, hb⟩
    have D4 := Lib.hid (D3.out.trans (hb.mono D3.out.size))
    clear hb D3
    cases o
    · go_wp2_with fail
      refine (vaRows_any _ _ _ _ xs xs _ (X2.out.below D4.out) (Y2.out.below D4.out) (by omega)).mono ?_
      rintro e w5 ⟨v5, hv5, rfl, hb⟩
      obtain rfl : v5 = true := hv5.2 rfl
      have BZ := Lib.hid (B3.out.trans ((D4.out.trans (hb.mono D4.out.size)).mono B3.out.size))
      clear hb hv5
      go_wp2
      go_ret
      exact ⟨rfl, BZ.out⟩
    · cases ok
      · have HE := Lib.hid (show xs = zs from by
          have h := HX.out
          rw [deleteS, if_pos HO.out] at h
          by_cases hh : (wordB key && okSpan a b) = true
          · rw [if_pos hh] at h; exact fits_no h
          · rw [if_neg hh] at h; injection h with h _; exact h.symm)
        go_wp2_with fail
        refine (vaRows_any _ _ _ _ xs zs _ (X2.out.below D4.out) (T2.out.below D4.out) (by omega)).mono ?_
        rintro e w5 ⟨v5, hv5, rfl, hb⟩
        obtain rfl : v5 = true := hv5.2 HE.out
        have BZ := Lib.hid (B3.out.trans ((D4.out.trans (hb.mono D4.out.size)).mono B3.out.size))
        clear hb hv5
        go_wp2
        go_ret
        exact ⟨rfl, BZ.out⟩
      · have HD := Lib.hid (show a < b ∧ deleteL zs key a b = (xs, true) from by
          have h := HX.out
          rw [deleteS, if_pos HO.out] at h
          by_cases hh : (wordB key && okSpan a b) = true
          · rw [if_pos hh] at h
            rw [Bool.and_eq_true] at hh
            have h2 := hh.2
            simp only [okSpan, decide_eq_true_eq] at h2
            exact ⟨h2.2.1, h⟩
          · rw [if_neg hh] at h; injection h with _ h; cases h)
        have HXO := Lib.hid (delete_facts HO.out HD.out.1 HD.out.2).1
        have HOT := Lib.hid (del_others HO.out HD.out.1 HD.out.2)
        have HSX := Lib.hid (show Short xs from fun r hr => by
          rw [(fits_yes HD.out.2).2] at hr
          exact short_cut HS.out r hr)
        go_wp2
        go_loopw [10] (fun i wr => ∃ k : Nat, k ≤ 100 ∧ i = .int .i64 k ∧ Below w2.heap.size w2 wr) (fun i _ => 100 - (intOf i).toNat)
        case atStart => exact ⟨0, Nat.zero_le _, rfl, D4.out⟩
        case round =>
          obtain ⟨k, hk, rfl, hbr⟩ := hrel
          by_cases hlt : k < 100
          · have hkz : (k : Int) ≤ 99 := by omega
            have hkz0 : (0 : Int) ≤ (k : Int) := by omega
            have HG := Lib.hid (del_get HO.out HD.out.1 HD.out.2 (k : Int))
            obtain ⟨t1, ht1⟩ : ∃ t1, relGetL zs key (k : Int) = t1 := ⟨_, rfl⟩
            have HT1 := Lib.hid ht1
            rw [ht1] at HG
            have BR := Lib.hid hbr
            clear hbr ht1
            go_wp2_with fail
            refine (RelGet_any A1 c1 zs key k _ (T2.out.below BR.out) hl HS.out).mono ?_
            rw [HT1.out]
            rintro e w5 ⟨rfl, hb⟩
            have B5 := Lib.hid (BR.out.trans (hb.mono BR.out.size))
            have k0 := cellBelow B5.out ks K0.out
            have k1 := cellBelow B5.out ks K1.out
            clear hb BR
            go_wp2_with fail
            refine (vaIn_any _ 1 [(a, b)] k _ (spans_new1 w5 a b) (by simp [maxLen])).mono ?_
            rintro e w6 ⟨rfl, rfl⟩
            rw [anyIn_one]
            have B6 := Lib.hid (B5.out.alloc B5.out.size (.cells #[.int .i64 a, .int .i64 b] 32))
            clear B5 k0 k1
            cases hh : hasB a b k
            · rw [hh, if_neg (by simp)] at HG
              go_wp2_with fail
              refine (RelGet_any A2 c2 xs key k _ (X2.out.below B6.out) (by omega) HSX.out).mono ?_
              rw [HG.out]
              rintro e w7 ⟨rfl, hb⟩
              have B7 := Lib.hid (B6.out.trans (hb.mono B6.out.size))
              clear hb B6
              go_wp2
              go_roundw
              case rel => exact ⟨k + 1, by omega, by go_num, B7.out⟩
              case measure => simp [intOf]; omega
            · rw [hh, if_pos rfl] at HG
              go_wp2_with fail
              refine (RelGet_any A2 c2 xs key k _ (X2.out.below B6.out) (by omega) HSX.out).mono ?_
              rw [HG.out]
              rintro e w7 ⟨rfl, hb⟩
              have B7 := Lib.hid (B6.out.trans (hb.mono B6.out.size))
              clear hb B6
              go_wp2
              go_roundw
              case rel => exact ⟨k + 1, by omega, by go_num, B7.out⟩
              case measure => simp [intOf]; omega
          · obtain rfl : k = 100 := by omega
            have BR := Lib.hid hbr
            clear hbr
            go_wp2_with fail
            refine (RelOk_any A2 c2 xs _ (X2.out.below BR.out) (by omega) HSX.out).mono ?_
            rw [HXO.out]
            rintro e w5 ⟨rfl, hb⟩
            have B5 := Lib.hid (BR.out.trans (hb.mono BR.out.size))
            clear hb BR
            go_wp2_with fail
            refine (vaOthers_any _ _ _ _ zs xs key _ (T2.out.below B5.out) (X2.out.below B5.out) (by omega) (by omega)).mono ?_
            rintro e w6 ⟨v6, hv6, rfl, hb⟩
            obtain rfl : v6 = true := hv6.2 HOT.out
            have BZ := Lib.hid (B3.out.trans ((B5.out.trans (hb.mono B5.out.size)).mono B3.out.size))
            clear hb hv6
            go_wp2
            go_ret
            exact ⟨rfl, BZ.out⟩
end Go.Proofs.Ytgclmldhdjmabaa
