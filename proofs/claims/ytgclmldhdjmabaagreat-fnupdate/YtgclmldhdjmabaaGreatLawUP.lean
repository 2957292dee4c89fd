/-
  The walk of FnUpdate.
-/
import Derived.Test.YtgclmldhdjmabaaGreatOth
import Derived.Test.YtgclmldhdjmabaaGreatDrawI
import Derived.Test.YtgclmldhdjmabaaGreatDmlU
import Derived.Test.YtgclmldhdjmabaaGreatRelSp
import Derived.Test.YtgclmldhdjmabaaGreatLawSM
import Derived.Test.YtgclmldhdjmabaaGreatLawMeet
namespace Go.Proofs.YtgclmldhdjmabaaGreat
open Go.Shelf Go.RowKit Go.Lib Go.Sort

theorem text_some {s : ByteArray} (h : 1 ≤ s.size) : (s.toList == (⟨#[]⟩ : ByteArray).toList) = false ∧ s.toList.isEmpty = false := by
  have h1 : (s.toList == (⟨#[]⟩ : ByteArray).toList) = false := by
    cases he : (s.toList == (⟨#[]⟩ : ByteArray).toList) with
    | false => rfl
    | true =>
      have h4 := same_key.1 he
      subst h4
      exact absurd h (by decide)
  refine ⟨h1, ?_⟩
  cases he : s.toList with
  | nil => rw [he] at h1; simp [go_sem] at h1
  | cons a l => rfl
theorem upd_none {t x : List RowV} {r : RowV} (ht : relOk t = true) (hr : rowOk r = true) (h : updateL t r = (x, true)) {c : Int} (h0 : ∀ s, ¬ held t r.k s c) : relGetL x r.k c = ⟨#[]⟩ := by
  obtain ⟨hx, hh⟩ := update_facts ht hr h
  refine get_none hx (fun s hs => ?_)
  rcases (hh _ _ _).1 hs with h | ⟨_, _, _, _, s', h⟩
  · exact h0 _ h.1
  · exact h0 _ h
theorem upd_in {t x : List RowV} {r : RowV} (ht : relOk t = true) (hr : rowOk r = true) (h : updateL t r = (x, true)) {c : Int} (h0 : held t r.k (relGetL t r.k c) c) (hc : hasB r.f r.e c = true) : relGetL x r.k c = r.t := by
  obtain ⟨hx, hh⟩ := update_facts ht hr h
  have hc' : r.f ≤ c ∧ c < r.e := by simpa [hasB] using hc
  exact get_held hx ((hh _ _ _).2 (.inr ⟨rfl, rfl, hc'.1, hc'.2, _, h0⟩))
theorem upd_out {t x : List RowV} {r : RowV} (ht : relOk t = true) (hr : rowOk r = true) (h : updateL t r = (x, true)) {c : Int} (hc : hasB r.f r.e c = false) : relGetL x r.k c = relGetL t r.k c := by
  obtain ⟨hx, hh⟩ := update_facts ht hr h
  have hc' : ¬ (r.f ≤ c ∧ c < r.e) := by simpa [hasB] using hc
  refine get_same hx ht (fun s => ?_)
  rw [hh]
  constructor
  · rintro (h | h)
    · exact h.1
    · exact absurd ⟨h.2.2.1, h.2.2.2.1⟩ hc'
  · exact fun h => .inl ⟨h, fun hn => hc' hn.2⟩
theorem upd_others {t x : List RowV} {r : RowV} (ht : relOk t = true) (hr : rowOk r = true) (h : updateL t r = (x, true)) : othersL t r.k = othersL x r.k := by
  obtain ⟨hx, hh⟩ := update_facts ht hr h
  refine others_eq ht hx (fun k s c hk => ?_)
  rw [hh]
  constructor
  · exact fun h => .inl ⟨h, fun hn => hk hn.1⟩
  · rintro (h | h)
    · exact h.1
    · exact absurd h.1.symm hk
theorem has_spans {zs : List RowV} {key : ByteArray} {p : Int} : has (spansTo zs key zs.length) p ↔ ∃ s, held zs key s p := by
  unfold spansTo has held
  rw [List.take_length]
  constructor
  · rintro ⟨s, hs, h1, h2⟩
    obtain ⟨x, hx, rfl⟩ := List.mem_map.1 hs
    exact ⟨x.t, x, (List.mem_filter.1 hx).1, same_key.1 (List.mem_filter.1 hx).2, rfl, h1, h2⟩
  · rintro ⟨s, x, hx, e1, _, e3, e4⟩
    exact ⟨spanOf x, List.mem_map.2 ⟨x, List.mem_filter.2 ⟨hx, same_key.2 e1⟩, rfl⟩, e3, e4⟩
theorem upd_spans {t x : List RowV} {r : RowV} (ht : relOk t = true) (hr : rowOk r = true) (h : updateL t r = (x, true)) : relSpansL t r.k = relSpansL x r.k := by
  obtain ⟨hx, hh⟩ := update_facts ht hr h
  refine canon_same ((setOk_iff _).1 (relSpansL_ok t r.k)) ((setOk_iff _).1 (relSpansL_ok x r.k)) (fun p => ?_)
  rw [relSpansL, if_pos ht, relSpansL, if_pos hx, has_addAll (spansTo_ok ht _ _), has_addAll (spansTo_ok hx _ _), has_spans, has_spans]
  constructor
  · rintro ⟨s, hs⟩
    by_cases hc : r.f ≤ p ∧ p < r.e
    · exact ⟨r.t, (hh _ _ _).2 (.inr ⟨rfl, rfl, hc.1, hc.2, s, hs⟩)⟩
    · exact ⟨s, (hh _ _ _).2 (.inl ⟨hs, fun hn => hc hn.2⟩)⟩
  · rintro ⟨s, hs⟩
    rcases (hh _ _ _).1 hs with h | ⟨_, _, _, _, s', h⟩
    · exact ⟨s, h.1⟩
    · exact ⟨s', h⟩
theorem upd_short {t : List RowV} {r : RowV} (h : Short t) (hr : r.k.size ≤ maxLen ∧ r.t.size ≤ maxLen) : Short (updateOut t r) := by
  have : ∀ (l o : List RowV), Short o → (∀ y ∈ l, y.k.size ≤ maxLen ∧ y.t.size ≤ maxLen) → Short (l.foldl putR o) := by
    intro l
    induction l with
    | nil => exact fun o ho _ => ho
    | cons y l ih =>
      intro o ho hl
      refine ih _ (fun z hz => ?_) (fun z hz => hl z (List.mem_cons_of_mem _ hz))
      rcases putR_mem.1 hz with rfl | hz
      · exact hl _ (List.mem_cons_self ..)
      · exact ho z hz
  refine this _ _ (short_cut h) (fun y hy => ?_)
  obtain ⟨z, hz, hy⟩ := List.mem_filterMap.1 hy
  rw [(meet_texts hy).1, (meet_texts hy).2]
  exact hr

set_option maxRecDepth 100000 in
set_option maxHeartbeats 4000000 in
theorem FnUpdate_any (A : Option Addr) (n cap : Nat) (bs : List Int) (w : World) (hz : Bytes w w.heap.size A bs ∧ bs.length = n ∧ n ≤ cap ∧ cap ≤ maxLen) :
    Calls Tryz.prog 3 #[.slice A n cap] w fun e w' => e = .returned (.bool true) ∧ Below w.heap.size w w' := by
  obtain ⟨hz, rfl, hc, hm⟩ := hz
  have hm' := hm
  unfold maxLen at hm'
  by_cases hl0 : (1048576 : Int) < bs.length
  · go_enter Tryz.func3, Tryz.ntmps3
    go_wp2
    go_ret
    exact ⟨rfl, Below.refl _ _⟩
  · go_enter Tryz.func3, Tryz.ntmps3
    go_wp2_with fail
    refine (DrawRelUpdate_any A cap bs w hz hc hm).mono ?_
    rintro e w0 ⟨zs, A1, c1, r, rfl, hks, hll, hsh, hol, hb0⟩
    have O0 := Lib.hid hol
    have B0 := Lib.hid hb0
    have HS := Lib.hid hsh
    have HK := Lib.hid hks
    have hl : zs.length ≤ 1048577 := by omega
    obtain ⟨o, ho⟩ : ∃ o, relOk zs = o := ⟨_, rfl⟩
    have HO := Lib.hid ho
    have hxl := updateS_len zs r
    obtain ⟨px, hpx⟩ : ∃ px, updateS zs r = px := ⟨_, rfl⟩
    rw [hpx] at hxl
    have HX := Lib.hid hpx
    clear hol hb0 hsh hks hz hc hm hm' ho hpx
    obtain ⟨xs, ok⟩ := px
    replace hxl : xs.length ≤ 24 := hxl
    go_wp2_with fail
    generalize hW : w0.alloc _ = W0
    have k0 : W0.cell? ⟨w0.heap.size, 0, none⟩ = some (.string r.k) := by rw [← hW]; simp [go_sem]
    have k1 : W0.cell? ⟨w0.heap.size, 1, none⟩ = some (.string r.t) := by rw [← hW]; simp [go_sem]
    have k2 : W0.cell? ⟨w0.heap.size, 2, none⟩ = some (.int .i64 r.f) := by rw [← hW]; simp [go_sem]
    have k3 : W0.cell? ⟨w0.heap.size, 3, none⟩ = some (.int .i64 r.e) := by rw [← hW]; simp [go_sem]
    have ks : w0.heap.size < W0.heap.size := by rw [← hW]; simp
    have B1 := Lib.hid (show Below w.heap.size w W0 from by rw [← hW]; exact B0.out.alloc B0.out.size _)
    have O1 := Lib.hid (show W0.ownsRow w.heap.size 27 4 (.slice A1 zs.length c1) zs.length (flatOf rowC zs) from by rw [← hW]; exact O0.out.alloc _)
    obtain ⟨G, hG⟩ : ∃ G, w0.heap.size = G := ⟨_, rfl⟩
    rw [hG] at k0 k1 k2 k3 ks ⊢
    clear hW hG B0 O0
    refine (RelUpdate_any A1 c1 zs r _ (rowsA_own O1.out rfl) (owns_addr O1.out) hl HS.out HK.out).mono ?_
    rw [HX.out]
    rintro e w1 ⟨A2, c2, rfl, ho, hb⟩
    have X1 := Lib.hid (show RowsA w1 A2 xs from el_of_owns rowC_len ho)
    have O2 := Lib.hid (ownsKeep O1.out hb)
    replace k0 := cellBelow hb ks k0
    replace k1 := cellBelow hb ks k1
    replace k2 := cellBelow hb ks k2
    replace k3 := cellBelow hb ks k3
    replace ks := Nat.lt_of_lt_of_le ks hb.size
    have B2 := Lib.hid (B1.out.trans (hb.mono B1.out.size))
    clear ho hb O1 B1
    go_wp2_with fail
    refine (sRelUpdate_any A1 c1 zs r _ (rowsA_own O2.out rfl) (owns_nilcap O2.out) hl HS.out HK.out).mono ?_
    rw [HX.out]
    rintro e w2 ⟨A3, c3, rfl, ho, hb⟩
    have Y2 := Lib.hid (show RowsA w2 A3 xs from el_of_owns rowC_len ho)
    have X2 := Lib.hid (X1.out.below hb)
    have T2 := Lib.hid (show RowsA w2 A1 zs from (rowsA_own O2.out rfl).below hb)
    have K0 := Lib.hid (cellBelow hb ks k0)
    have K1 := Lib.hid (cellBelow hb ks k1)
    have K2 := Lib.hid (cellBelow hb ks k2)
    have K3 := Lib.hid (cellBelow hb ks k3)
    replace ks := Nat.lt_of_lt_of_le ks hb.size
    have B3 := Lib.hid (B2.out.trans (hb.mono B2.out.size))
    clear ho hb O2 B2 X1 k0 k1 k2 k3
    go_wp2_with fail
    refine (vaRows_any _ _ _ _ xs xs _ X2.out Y2.out (by omega)).mono ?_
    rintro e w3 ⟨v3, hv3, rfl, hb⟩
    obtain rfl : v3 = true := hv3.2 rfl
    have D3 := Lib.hid hb
    clear hb hv3
    go_wp2_with fail
    refine (RelOk_any A1 c1 zs _ (T2.out.below D3.out) hl HS.out).mono ?_
    rw [HO.out]
    rintro e w4 ⟨rfl, hb⟩
    have D4 := Lib.hid (D3.out.trans (hb.mono D3.out.size))
    clear hb D3
    cases o
    · go_wp2_with fail
      refine (vaRows_any _ _ _ _ xs xs _ (X2.out.below D4.out) (Y2.out.below D4.out) (by omega)).mono ?_
      rintro e w5 ⟨v5, hv5, rfl, hb⟩
      obtain rfl : v5 = true := hv5.2 rfl
      have BZ := Lib.hid (B3.out.trans ((D4.out.trans (hb.mono D4.out.size)).mono B3.out.size))
      clear hb hv5
      go_wp2
      go_ret
      exact ⟨rfl, BZ.out⟩
    · cases ok
      · have HE := Lib.hid (show xs = zs from by
          have h := HX.out
          rw [updateS, if_pos HO.out] at h
          by_cases hh : rowOk r = true
          · rw [if_pos hh] at h; exact fits_no h
          · rw [if_neg hh] at h; injection h with h _; exact h.symm)
        go_wp2_with fail
        refine (vaRows_any _ _ _ _ xs zs _ (X2.out.below D4.out) (T2.out.below D4.out) (by omega)).mono ?_
        rintro e w5 ⟨v5, hv5, rfl, hb⟩
        obtain rfl : v5 = true := hv5.2 HE.out
        have BZ := Lib.hid (B3.out.trans ((D4.out.trans (hb.mono D4.out.size)).mono B3.out.size))
        clear hb hv5
        go_wp2
        go_ret
        exact ⟨rfl, BZ.out⟩
      · have HD := Lib.hid (show rowOk r = true ∧ updateL zs r = (xs, true) from by
          have h := HX.out
          rw [updateS, if_pos HO.out] at h
          by_cases hh : rowOk r = true
          · rw [if_pos hh] at h; exact ⟨hh, h⟩
          · rw [if_neg hh] at h; injection h with _ h; cases h)
        have HXO := Lib.hid (update_facts HO.out HD.out.1 HD.out.2).1
        have HOT := Lib.hid (upd_others HO.out HD.out.1 HD.out.2)
        have HSP := Lib.hid (upd_spans HO.out HD.out.1 HD.out.2)
        have HSX := Lib.hid (show Short xs from (by
          rw [(fits_yes HD.out.2).2]
          exact (upd_short HS.out HK.out).join))
        go_wp2
        go_loopw [9] (fun i wr => ∃ k : Nat, k ≤ 100 ∧ i = .int .i64 k ∧ Below w2.heap.size w2 wr) (fun i _ => 100 - (intOf i).toNat)
        case atStart => exact ⟨0, Nat.zero_le _, rfl, D4.out⟩
        case round =>
          obtain ⟨k, hk, rfl, hbr⟩ := hrel
          by_cases hlt : k < 100
          · have hkz : (k : Int) ≤ 99 := by omega
            have hkz0 : (0 : Int) ≤ (k : Int) := by omega
            have hor := get_or HO.out r.k (k : Int)
            have HUN := Lib.hid (fun h => upd_none HO.out HD.out.1 HD.out.2 (c := (k : Int)) h)
            have HUI := Lib.hid (fun h h' => upd_in HO.out HD.out.1 HD.out.2 (c := (k : Int)) h h')
            have HUO := Lib.hid (fun h => upd_out HO.out HD.out.1 HD.out.2 (c := (k : Int)) h)
            obtain ⟨t1, ht1⟩ : ∃ t1, relGetL zs r.k (k : Int) = t1 := ⟨_, rfl⟩
            have HT1 := Lib.hid ht1
            rw [ht1] at hor HUI HUO
            have BR := Lib.hid hbr
            have k0 := cellBelow BR.out ks K0.out
            clear hbr ht1
            go_wp2_with fail
            refine (RelGet_any A1 c1 zs r.k k _ (T2.out.below BR.out) hl HS.out).mono ?_
            rw [HT1.out]
            rintro e w5 ⟨rfl, hb⟩
            have B5 := Lib.hid (BR.out.trans (hb.mono BR.out.size))
            clear k0 hb BR
            rcases hor with ⟨rfl, hnn⟩ | ⟨hhe, hsz⟩
            · have HGN := Lib.hid (HUN.out hnn)
              clear hnn
              have k0 := cellBelow B5.out ks K0.out
              go_wp2_with fail
              refine (RelGet_any A2 c2 xs r.k k _ (X2.out.below B5.out) (by omega) HSX.out).mono ?_
              rw [HGN.out]
              rintro e w7 ⟨rfl, hb⟩
              have B7 := Lib.hid (B5.out.trans (hb.mono B5.out.size))
              clear hb B5 k0
              go_wp2
              go_roundw
              case rel => exact ⟨k + 1, by omega, by go_num, B7.out⟩
              case measure => simp [intOf]; omega
            · have HHE := Lib.hid hhe
              obtain ⟨hs1, hs2⟩ := text_some hsz
              clear hhe hsz
              have k2 := cellBelow B5.out ks K2.out
              have k3 := cellBelow B5.out ks K3.out
              go_wp2_with fail
              refine (vaIn_any _ 1 [(r.f, r.e)] k _ (spans_new1 w5 r.f r.e) (by simp [maxLen])).mono ?_
              rintro e w6 ⟨rfl, rfl⟩
              rw [anyIn_one]
              have B6 := Lib.hid (B5.out.alloc B5.out.size (.cells #[.int .i64 r.f, .int .i64 r.e] 25))
              clear B5 k2 k3
              have k0 := cellBelow B6.out ks K0.out
              have k1 := cellBelow B6.out ks K1.out
              cases hh : hasB r.f r.e k
              · have HG := Lib.hid (HUO.out hh)
                go_wp2_with fail
                refine (RelGet_any A2 c2 xs r.k k _ (X2.out.below B6.out) (by omega) HSX.out).mono ?_
                rw [HG.out]
                rintro e w7 ⟨rfl, hb⟩
                have B7 := Lib.hid (B6.out.trans (hb.mono B6.out.size))
                clear hb B6 k0 k1
                go_wp2
                go_roundw
                case rel => exact ⟨k + 1, by omega, by go_num, B7.out⟩
                case measure => simp [intOf]; omega
              · have HG := Lib.hid (HUI.out HHE.out hh)
                go_wp2_with fail
                refine (RelGet_any A2 c2 xs r.k k _ (X2.out.below B6.out) (by omega) HSX.out).mono ?_
                rw [HG.out]
                rintro e w7 ⟨rfl, hb⟩
                have B7 := Lib.hid (B6.out.trans (hb.mono B6.out.size))
                clear hb B6 k0 k1
                go_wp2
                go_roundw
                case rel => exact ⟨k + 1, by omega, by go_num, B7.out⟩
                case measure => simp [intOf]; omega
          · obtain rfl : k = 100 := by omega
            have XR := Lib.hid (X2.out.below hbr)
            have TR := Lib.hid (T2.out.below hbr)
            have hsl := relSpansL_len xs r.k
            obtain ⟨sp, hsp⟩ : ∃ sp, relSpansL xs r.k = sp := ⟨_, rfl⟩
            have HS1 := Lib.hid hsp
            have HS2 := Lib.hid (show relSpansL zs r.k = sp from by rw [HSP.out, hsp])
            rw [hsp] at hsl
            clear hsp
            have k0 := cellBelow hbr ks K0.out
            have ksr := Nat.lt_of_lt_of_le ks hbr.size
            have hq0 : Below wr.heap.size wr wr := Below.refl _ _
            have BR := Lib.hid hbr
            clear hbr
            go_upto_region 18 with fail
            go_region_held3 (fun w' => w'.cell? ⟨G, 0, none⟩ = some (.string r.k) ∧ wr.heap.size ≤ w'.heap.size ∧ Below wr.heap.size wr w')
              (((try go_split_ands); refine ⟨?c0, ?s, ?b⟩; (case c0 => (repeat (first | with_reducible assumption | with_reducible refine cell_below hb (by first | omega | (simp; done) | (simp; omega)) ?_ | with_reducible refine cell_set_far (by first | omega | (simp; done) | (simp; omega)) ?_ | with_reducible exact cell_alloc_swap (by with_reducible assumption) (by first | omega | (simp; done) | (simp; omega)) | with_reducible refine cell_alloc_far ?_ | with_reducible refine cell_drew ?_))); (case s => (first | with_reducible assumption | (have := hb.size; omega) | omega | (simp; done) | (simp; omega) | (have := hb.size; simp at this ⊢; omega))); (case b => (repeat (first | with_reducible assumption | with_reducible exact hq0 | with_reducible refine Below.drew ?_ | with_reducible refine Below.trans ?_ (hb.mono (by first | omega | (simp; done) | (simp; omega))) | with_reducible refine Below.setCell ?_ (by first | omega | (simp; done) | (simp; omega)) _ | with_reducible exact below_alloc_swap (by with_reducible assumption) (by first | omega | (simp; done) | (simp; omega)) | with_reducible refine Below.alloc ?_ (by first | omega | (simp; done) | (simp; omega)) _)))))
              (first
                | (go_at_call 8; refine (RelOk_any A2 c2 xs _ (XR.out.below (by (repeat (first | with_reducible assumption | with_reducible exact hq0 | with_reducible refine Below.drew ?_ | with_reducible refine Below.trans ?_ (hb.mono (by first | omega | (simp; done) | (simp; omega))) | with_reducible refine Below.setCell ?_ (by first | omega | (simp; done) | (simp; omega)) _ | with_reducible exact below_alloc_swap (by with_reducible assumption) (by first | omega | (simp; done) | (simp; omega)) | with_reducible refine Below.alloc ?_ (by first | omega | (simp; done) | (simp; omega)) _)))) (by omega) HSX.out).mono ?_; rw [HXO.out]; rintro e wA ⟨rfl, hb⟩; have hsz : wr.heap.size ≤ wA.heap.size := (by have := hb.size; first | omega | (simp at this; omega)); obtain ⟨hc, hf, hlb⟩ := bcell3 hb)
                | (go_at_call 11; (try go_split_ands); refine (vaOthers_any _ _ _ _ zs xs r.k _ (TR.out.below (by (repeat (first | with_reducible assumption | with_reducible exact hq0 | with_reducible refine Below.drew ?_ | with_reducible refine Below.trans ?_ (hb.mono (by first | omega | (simp; done) | (simp; omega))) | with_reducible refine Below.setCell ?_ (by first | omega | (simp; done) | (simp; omega)) _ | with_reducible exact below_alloc_swap (by with_reducible assumption) (by first | omega | (simp; done) | (simp; omega)) | with_reducible refine Below.alloc ?_ (by first | omega | (simp; done) | (simp; omega)) _)))) (XR.out.below (by (repeat (first | with_reducible assumption | with_reducible exact hq0 | with_reducible refine Below.drew ?_ | with_reducible refine Below.trans ?_ (hb.mono (by first | omega | (simp; done) | (simp; omega))) | with_reducible refine Below.setCell ?_ (by first | omega | (simp; done) | (simp; omega)) _ | with_reducible exact below_alloc_swap (by with_reducible assumption) (by first | omega | (simp; done) | (simp; omega)) | with_reducible refine Below.alloc ?_ (by first | omega | (simp; done) | (simp; omega)) _)))) (by omega) (by omega)).mono ?_; rintro e wB ⟨v7, hv7, rfl, hb⟩; obtain rfl : v7 = true := hv7.2 HOT.out; clear hv7; have hsz : wr.heap.size ≤ wB.heap.size := (by have := hb.size; first | omega | (simp at this; omega)); obtain ⟨hc, hf, hlb⟩ := bcell3 hb)
                | (go_at_call 13; (try go_split_ands); ((refine (RelSpans_any A2 c2 xs r.k _ (XR.out.below (by (repeat (first | with_reducible assumption | with_reducible exact hq0 | with_reducible refine Below.drew ?_ | with_reducible refine Below.trans ?_ (hb.mono (by first | omega | (simp; done) | (simp; omega))) | with_reducible refine Below.setCell ?_ (by first | omega | (simp; done) | (simp; omega)) _ | with_reducible exact below_alloc_swap (by with_reducible assumption) (by first | omega | (simp; done) | (simp; omega)) | with_reducible refine Below.alloc ?_ (by first | omega | (simp; done) | (simp; omega)) _)))) (by omega) HSX.out).mono ?_); rw [HS1.out]; rintro e wC ⟨A8, c8, rfl, ho8, hb⟩; have O8 := Lib.hid ho8; clear ho8; have hsz : wr.heap.size ≤ wC.heap.size := (by have := hb.size; first | omega | (simp at this; omega)); obtain ⟨hc, hf, hlb⟩ := bcell3 hb))
                | (go_at_call 13; (try go_split_ands); ((refine (RelSpans_any A1 c1 zs r.k _ (TR.out.below (by (repeat (first | with_reducible assumption | with_reducible exact hq0 | with_reducible refine Below.drew ?_ | with_reducible refine Below.trans ?_ (hb.mono (by first | omega | (simp; done) | (simp; omega))) | with_reducible refine Below.setCell ?_ (by first | omega | (simp; done) | (simp; omega)) _ | with_reducible exact below_alloc_swap (by with_reducible assumption) (by first | omega | (simp; done) | (simp; omega)) | with_reducible refine Below.alloc ?_ (by first | omega | (simp; done) | (simp; omega)) _)))) hl HS.out).mono ?_); rw [HS2.out]; rintro e wD ⟨A9, c9, rfl, ho9, hb⟩; have O9 := Lib.hid ho9; have P9 := Lib.hid (owns_keep O8.out hb); clear ho9; have hsz : wr.heap.size ≤ wD.heap.size := (by have := hb.size; first | omega | (simp at this; omega)); obtain ⟨hc, hf, hlb⟩ := bcell3 hb))
                | (go_at_call 12; (try go_split_ands); refine (vaSpans_same _ _ _ _ sp _ (owns_spans P9.out) (owns_spans O9.out) (by unfold maxLen; omega)).mono ?_; rintro e wE ⟨rfl, hb⟩; have hsz : wr.heap.size ≤ wE.heap.size := (by have := hb.size; first | omega | (simp at this; omega)); obtain ⟨hc, hf, hlb⟩ := bcell3 hb))
            all_goals go_wp2
            all_goals go_ret
            all_goals (rename_i hH; exact ⟨rfl, B3.out.trans ((BR.out.trans (hH.2.2.mono BR.out.size)).mono B3.out.size)⟩)
end Go.Proofs.YtgclmldhdjmabaaGreat
