/-
  The walk of FnMerge.
-/
import Derived.Test.YtgclmldhdjmabaaOth
import Derived.Test.YtgclmldhdjmabaaDrawI
import Derived.Test.YtgclmldhdjmabaaDmlA
import Derived.Test.YtgclmldhdjmabaaDmlB
import Derived.Test.YtgclmldhdjmabaaLawMeet
namespace Go.Proofs.Ytgclmldhdjmabaa
open Go.Shelf Go.RowKit Go.Lib Go.Sort

theorem mer_get {t x : List RowV} {r : RowV} (ht : relOk t = true) (hr : rowOk r = true) (h : mergeL t r = (x, true)) (c : Int) :
    relGetL x r.k c = if hasB r.f r.e c = true then r.t else relGetL t r.k c := by
  obtain ⟨hx, hh⟩ := merge_facts ht hr h
  by_cases hc : hasB r.f r.e c = true
  · have hc' : r.f ≤ c ∧ c < r.e := by simpa [hasB] using hc
    rw [if_pos hc]
    exact get_held hx ((hh _ _ _).2 (.inl ⟨rfl, rfl, hc'.1, hc'.2⟩))
  · have hc' : ¬ (r.f ≤ c ∧ c < r.e) := by simpa [hasB] using hc
    rw [if_neg hc]
    refine get_same hx ht (fun s => ?_)
    rw [hh]
    constructor
    · rintro (h | h)
      · exact absurd h.2.2 hc'
      · exact h.1
    · exact fun h => .inr ⟨h, fun hn => hc' hn.2⟩
theorem mer_others {t x : List RowV} {r : RowV} (ht : relOk t = true) (hr : rowOk r = true) (h : mergeL t r = (x, true)) : othersL t r.k = othersL x r.k := by
  obtain ⟨hx, hh⟩ := merge_facts ht hr h
  refine others_eq ht hx (fun k s c hk => ?_)
  rw [hh]
  constructor
  · exact fun h => .inr ⟨h, fun hn => hk hn.1⟩
  · rintro (h | h)
    · exact absurd h.1.symm hk
    · exact h.1
theorem mer_again {t x : List RowV} {r : RowV} (ht : relOk t = true) (hr : rowOk r = true) (h : mergeL t r = (x, true)) : mergeS x r = (x, true) := by
  obtain ⟨hx, hh⟩ := merge_facts ht hr h
  obtain ⟨h1, h2⟩ := merge_apart hx hr
  have hs : ∀ y ∈ putR (cutL x r.k r.f r.e) r, spanOk y := fun y hy => (rowOk_iff.1 (h1 y hy)).2.2
  have hall : relAll (joinRows (putR (cutL x r.k r.f r.e) r)) = true := by
    cases hp : putR (cutL x r.k r.f r.e) r with
    | nil => rfl
    | cons y l =>
      rw [hp] at h1 h2 hs
      rw [joinRows_cons]
      exact (relAll_join l y (hs y (List.mem_cons_self ..)) (fun z hz => hs z (List.mem_cons_of_mem _ hz))).2 ⟨h1, h2⟩
  obtain ⟨ra, ta⟩ := relAll_pair _ |>.1 hall
  have hk : joinRows (putR (cutL x r.k r.f r.e) r) = x := by
    obtain ⟨sx, tx⟩ := tight_rel hx
    refine known _ _ (fun y hy => (rowOk_iff.1 (ra y hy)).2.2) sx (ta.imp (fun h => lead_of (lead_tadj.2 h))) tx (fun k s c => ?_)
    rw [merge_held hx hr, hh]
    constructor
    · rintro (h | ⟨h, hn⟩)
      · exact .inl h
      · exact h
    · rintro (h | ⟨h, hn⟩)
      · exact .inl h
      · exact .inr ⟨.inr ⟨h, hn⟩, hn⟩
  rw [mergeS, if_pos hx, if_pos hr, mergeL, hk, fitsL, if_pos (relOk_len hx)]
theorem putR_short {t : List RowV} {r : RowV} (h : Short t) (hr : r.k.size ≤ maxLen ∧ r.t.size ≤ maxLen) : Short (putR t r) := fun y hy => by
  rcases putR_mem.1 hy with rfl | hy
  · exact hr
  · exact h y hy

set_option maxRecDepth 100000 in
set_option maxHeartbeats 4000000 in
theorem FnMerge_any (A : Option Addr) (n cap : Nat) (bs : List Int) (w : World) (hz : Bytes w w.heap.size A bs ∧ bs.length = n ∧ n ≤ cap ∧ cap ≤ maxLen) :
    Calls Try.prog 7 #[.slice A n cap] w fun e w' => e = .returned (.bool true) ∧ Below w.heap.size w w' := by
  obtain ⟨hz, rfl, hc, hm⟩ := hz
  have hm' := hm
  unfold maxLen at hm'
  by_cases hl0 : (1048576 : Int) < bs.length
  · go_enter Try.func7, Try.ntmps7
    go_wp2
    go_ret
    exact ⟨rfl, Below.refl _ _⟩
  · go_enter Try.func7, Try.ntmps7
    go_wp2_with fail
    refine (DrawRelMerge_any A cap bs w hz hc hm).mono ?_
    rintro e w0 ⟨zs, A1, c1, r, rfl, hks, hll, hsh, hol, hb0⟩
    have O0 := Lib.hid hol
    have B0 := Lib.hid hb0
    have HS := Lib.hid hsh
    have HK := Lib.hid hks
    have hl : zs.length ≤ 1048577 := by omega
    obtain ⟨o, ho⟩ : ∃ o, relOk zs = o := ⟨_, rfl⟩
    have HO := Lib.hid ho
    have hxl := mergeS_len zs r
    obtain ⟨px, hpx⟩ : ∃ px, mergeS zs r = px := ⟨_, rfl⟩
    rw [hpx] at hxl
    have HX := Lib.hid hpx
    clear hol hb0 hsh hks hz hc hm hm' ho hpx
    obtain ⟨xs, ok⟩ := px
    replace hxl : xs.length ≤ 24 := hxl
    go_wp2_with fail
    generalize hW : w0.alloc _ = W0
    have k0 : W0.cell? ⟨w0.heap.size, 0, none⟩ = some (.string r.k) := by rw [← hW]; simp [go_sem]
    have k1 : W0.cell? ⟨w0.heap.size, 1, none⟩ = some (.string r.t) := by rw [← hW]; simp [go_sem]
    have k2 : W0.cell? ⟨w0.heap.size, 2, none⟩ = some (.int .i64 r.f) := by rw [← hW]; simp [go_sem]
    have k3 : W0.cell? ⟨w0.heap.size, 3, none⟩ = some (.int .i64 r.e) := by rw [← hW]; simp [go_sem]
    have ks : w0.heap.size < W0.heap.size := by rw [← hW]; simp
    have B1 := Lib.hid (show Below w.heap.size w W0 from by rw [← hW]; exact B0.out.alloc B0.out.size _)
    have O1 := Lib.hid (show W0.ownsRow w.heap.size 34 4 (.slice A1 zs.length c1) zs.length (flatOf rowC zs) from by rw [← hW]; exact O0.out.alloc _)
    obtain ⟨G, hG⟩ : ∃ G, w0.heap.size = G := ⟨_, rfl⟩
    rw [hG] at k0 k1 k2 k3 ks ⊢
    clear hW hG B0 O0
    refine (RelMerge_any A1 c1 zs r _ (rowsA_own O1.out rfl) (owns_addr O1.out) hl HS.out HK.out).mono ?_
    rw [HX.out]
    rintro e w1 ⟨A2, c2, rfl, ho, hb⟩
    have X1 := Lib.hid (show RowsA w1 A2 xs from el_of_owns rowC_len ho)
    have XA := Lib.hid (owns_addr ho)
    have O2 := Lib.hid (ownsKeep O1.out hb)
    replace k0 := cellBelow hb ks k0
    replace k1 := cellBelow hb ks k1
    replace k2 := cellBelow hb ks k2
    replace k3 := cellBelow hb ks k3
    replace ks := Nat.lt_of_lt_of_le ks hb.size
    have B2 := Lib.hid (B1.out.trans (hb.mono B1.out.size))
    clear ho hb O1 B1
    go_wp2_with fail
    refine (sRelMerge_any A1 c1 zs r _ (rowsA_own O2.out rfl) (owns_nilcap O2.out) hl HS.out HK.out).mono ?_
    rw [HX.out]
    rintro e w2 ⟨A3, c3, rfl, ho, hb⟩
    have Y2 := Lib.hid (show RowsA w2 A3 xs from el_of_owns rowC_len ho)
    have X2 := Lib.hid (X1.out.below hb)
    have T2 := Lib.hid (show RowsA w2 A1 zs from (rowsA_own O2.out rfl).below hb)
    have K0 := Lib.hid (cellBelow hb ks k0)
    have K1 := Lib.hid (cellBelow hb ks k1)
    have K2 := Lib.hid (cellBelow hb ks k2)
    have K3 := Lib.hid (cellBelow hb ks k3)
    replace ks := Nat.lt_of_lt_of_le ks hb.size
    have B3 := Lib.hid (B2.out.trans (hb.mono B2.out.size))
    clear ho hb O2 B2 X1 k0 k1 k2 k3
    go_wp2_with fail
    refine (vaRows_any _ _ _ _ xs xs _ X2.out Y2.out (by omega)).mono ?_
    rintro e w3 ⟨v3, hv3, rfl, hb⟩
    obtain rfl : v3 = true := hv3.2 rfl
    have D3 := Lib.hid hb
    clear hb hv3
    go_wp2_with fail
    refine (RelOk_any A1 c1 zs _ (T2.out.below D3.out) hl HS.out).mono ?_
    rw [HO.out]
    rintro e w4 ⟨rfl, hb⟩
    have D4 := Lib.hid (D3.out.trans (hb.mono D3.out.size))
    clear hb D3
    cases o
    · go_wp2_with fail
      refine (vaRows_any _ _ _ _ xs xs _ (X2.out.below D4.out) (Y2.out.below D4.out) (by omega)).mono ?_
      rintro e w5 ⟨v5, hv5, rfl, hb⟩
      obtain rfl : v5 = true := hv5.2 rfl
      have BZ := Lib.hid (B3.out.trans ((D4.out.trans (hb.mono D4.out.size)).mono B3.out.size))
      clear hb hv5
      go_wp2
      go_ret
      exact ⟨rfl, BZ.out⟩
    · cases ok
      · have HE := Lib.hid (show xs = zs from by
          have h := HX.out
          rw [mergeS, if_pos HO.out] at h
          by_cases hh : rowOk r = true
          · rw [if_pos hh] at h; exact fits_no h
          · rw [if_neg hh] at h; injection h with h _; exact h.symm)
        go_wp2_with fail
        refine (vaRows_any _ _ _ _ xs zs _ (X2.out.below D4.out) (T2.out.below D4.out) (by omega)).mono ?_
        rintro e w5 ⟨v5, hv5, rfl, hb⟩
        obtain rfl : v5 = true := hv5.2 HE.out
        have BZ := Lib.hid (B3.out.trans ((D4.out.trans (hb.mono D4.out.size)).mono B3.out.size))
        clear hb hv5
        go_wp2
        go_ret
        exact ⟨rfl, BZ.out⟩
      · have HD := Lib.hid (show rowOk r = true ∧ mergeL zs r = (xs, true) from by
          have h := HX.out
          rw [mergeS, if_pos HO.out] at h
          by_cases hh : rowOk r = true
          · rw [if_pos hh] at h; exact ⟨hh, h⟩
          · rw [if_neg hh] at h; injection h with _ h; cases h)
        have HXO := Lib.hid (merge_facts HO.out HD.out.1 HD.out.2).1
        have HOT := Lib.hid (mer_others HO.out HD.out.1 HD.out.2)
        have HAG := Lib.hid (mer_again HO.out HD.out.1 HD.out.2)
        have HSX := Lib.hid (show Short xs from (by
          rw [(fits_yes HD.out.2).2]
          exact (putR_short (short_cut HS.out) HK.out).join))
        go_wp2
        go_loopw [9] (fun i wr => ∃ k : Nat, k ≤ 100 ∧ i = .int .i64 k ∧ Below w2.heap.size w2 wr) (fun i _ => 100 - (intOf i).toNat)
        case atStart => exact ⟨0, Nat.zero_le _, rfl, D4.out⟩
        case round =>
          obtain ⟨k, hk, rfl, hbr⟩ := hrel
          by_cases hlt : k < 100
          · have hkz : (k : Int) ≤ 99 := by omega
            have hkz0 : (0 : Int) ≤ (k : Int) := by omega
            have HG := Lib.hid (mer_get HO.out HD.out.1 HD.out.2 (k : Int))
            obtain ⟨t1, ht1⟩ : ∃ t1, relGetL zs r.k (k : Int) = t1 := ⟨_, rfl⟩
            have HT1 := Lib.hid ht1
            rw [ht1] at HG
            have BR := Lib.hid hbr
            have k0 := cellBelow BR.out ks K0.out
            clear hbr ht1
            go_wp2_with fail
            refine (RelGet_any A1 c1 zs r.k k _ (T2.out.below BR.out) hl HS.out).mono ?_
            rw [HT1.out]
            rintro e w5 ⟨rfl, hb⟩
            have B5 := Lib.hid (BR.out.trans (hb.mono BR.out.size))
            clear k0
            have k2 := cellBelow B5.out ks K2.out
            have k3 := cellBelow B5.out ks K3.out
            clear hb BR
            go_wp2_with fail
            refine (vaIn_any _ 1 [(r.f, r.e)] k _ (spans_new1 w5 r.f r.e) (by simp [maxLen])).mono ?_
            rintro e w6 ⟨rfl, rfl⟩
            rw [anyIn_one]
            have B6 := Lib.hid (B5.out.alloc B5.out.size (.cells #[.int .i64 r.f, .int .i64 r.e] 32))
            clear B5 k2 k3
            have k0 := cellBelow B6.out ks K0.out
            have k1 := cellBelow B6.out ks K1.out
            cases hh : hasB r.f r.e k
            · rw [hh, if_neg (by simp)] at HG
              go_wp2_with fail
              refine (RelGet_any A2 c2 xs r.k k _ (X2.out.below B6.out) (by omega) HSX.out).mono ?_
              rw [HG.out]
              rintro e w7 ⟨rfl, hb⟩
              have B7 := Lib.hid (B6.out.trans (hb.mono B6.out.size))
              clear hb B6 k0 k1
              go_wp2
              go_roundw
              case rel => exact ⟨k + 1, by omega, by go_num, B7.out⟩
              case measure => simp [intOf]; omega
            · rw [hh, if_pos rfl] at HG
              go_wp2_with fail
              refine (RelGet_any A2 c2 xs r.k k _ (X2.out.below B6.out) (by omega) HSX.out).mono ?_
              rw [HG.out]
              rintro e w7 ⟨rfl, hb⟩
              have B7 := Lib.hid (B6.out.trans (hb.mono B6.out.size))
              clear hb B6 k0 k1
              go_wp2
              go_roundw
              case rel => exact ⟨k + 1, by omega, by go_num, B7.out⟩
              case measure => simp [intOf]; omega
          · obtain rfl : k = 100 := by omega
            have BR := Lib.hid hbr
            have k0 := cellBelow BR.out ks K0.out
            have k1 := cellBelow BR.out ks K1.out
            have k2 := cellBelow BR.out ks K2.out
            have k3 := cellBelow BR.out ks K3.out
            clear hbr
            go_wp2_with fail
            refine (RelMerge_any A2 c2 xs r _ (X2.out.below BR.out) XA.out (by omega) HSX.out HK.out).mono ?_
            rw [HAG.out]
            rintro e w5 ⟨A5, c5, rfl, ho, hb⟩
            have Y5 := Lib.hid (show RowsA w5 A5 xs from el_of_owns rowC_len ho)
            have B5 := Lib.hid (BR.out.trans (hb.mono BR.out.size))
            clear hb BR ho k0 k1 k2 k3
            go_wp2_with fail
            refine (RelOk_any A2 c2 xs _ (X2.out.below B5.out) (by omega) HSX.out).mono ?_
            rw [HXO.out]
            rintro e w6 ⟨rfl, hb⟩
            have Y6 := Lib.hid (Y5.out.below hb)
            have B6 := Lib.hid (B5.out.trans (hb.mono B5.out.size))
            clear hb B5 Y5
            have k0 := cellBelow B6.out ks K0.out
            go_wp2_with fail
            refine (vaOthers_any _ _ _ _ zs xs r.k _ (T2.out.below B6.out) (X2.out.below B6.out) (by omega) (by omega)).mono ?_
            rintro e w7 ⟨v7, hv7, rfl, hb⟩
            obtain rfl : v7 = true := hv7.2 HOT.out
            have Y7 := Lib.hid (Y6.out.below hb)
            have B7 := Lib.hid (B6.out.trans (hb.mono B6.out.size))
            clear hb hv7 B6 Y6 k0
            go_wp2_with fail
            refine (vaRows_any _ _ _ _ xs xs _ Y7.out (X2.out.below B7.out) (by omega)).mono ?_
            rintro e w8 ⟨v8, hv8, rfl, hb⟩
            obtain rfl : v8 = true := hv8.2 rfl
            have BZ := Lib.hid (B3.out.trans ((B7.out.trans (hb.mono B7.out.size)).mono B3.out.size))
            clear hb hv8
            go_wp2
            go_ret
            exact ⟨rfl, BZ.out⟩
end Go.Proofs.Ytgclmldhdjmabaa
