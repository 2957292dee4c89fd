/-
  The walk of FnRelOf.
-/
import Derived.Test.YtfolppahdmkaoaaDrawOf
import Derived.Test.YtfolppahdmkaoaaRelH
import Derived.Test.YtfolppahdmkaoaaRelOfS
import Derived.Test.YtfolppahdmkaoaaLawRM
namespace Go.Proofs.Ytfolppahdmkaoaa
open Go.Shelf Go.RowKit Go.Lib Go.Sort

theorem rev_take {zs : List RowV} {k : Nat} {x : RowV} (hk : k < zs.length) (hx : zs[zs.length - 1 - k]? = some x) : zs.reverse.take (k + 1) = zs.reverse.take k ++ [x] := by
  have h : zs.reverse[k]? = some x := by rw [List.getElem?_reverse hk]; exact hx
  obtain ⟨h1, h2⟩ := List.getElem?_eq_some_iff.1 h
  rw [List.take_succ_eq_append_getElem h1, h2]
theorem rev_len {zs : List RowV} {k : Nat} (hk : k ≤ zs.length) : (zs.reverse.take k).length = k := by rw [List.length_take, List.length_reverse]; omega

theorem relOf_texts {zs : List RowV} (hs : Short zs) : Short (relOfL zs) := by
  by_cases h : relOfL zs = []
  · rw [h]; intro r hr; cases hr
  · obtain ⟨m, _, _, h3, h4, _⟩ := relOf_made h
    rw [h4]
    exact (hs.perm h3).join

set_option maxRecDepth 100000 in
set_option maxHeartbeats 8000000 in
theorem FnRelOf_any (A : Option Addr) (n cap : Nat) (bs : List Int) (w : World) (hz : Bytes w w.heap.size A bs ∧ bs.length = n ∧ n ≤ cap ∧ cap ≤ maxLen) :
    Calls Try.prog 7 #[.slice A n cap] w fun e w' => e = .returned (.bool true) ∧ Below w.heap.size w w' := by
  obtain ⟨hz, rfl, hc, hm⟩ := hz
  have hm' := hm
  unfold maxLen at hm'
  by_cases hl0 : (1048576 : Int) < bs.length
  · go_enter Try.func7, Try.ntmps7
    go_wp2
    go_ret
    exact ⟨rfl, Below.refl _ _⟩
  · obtain ⟨i0, hi, hz0, hz1, hz2⟩ := info_parts Try.infoR45
    have Hi := Lib.hid hi
    have Hz0 := Lib.hid hz0
    have Hz1 := Lib.hid hz1
    have Hz2 := Lib.hid hz2
    clear hi hz0 hz1 hz2
    go_enter Try.func7, Try.ntmps7
    go_wp2_with fail
    refine (DrawRelOf_any A cap bs _ hz hc hm).mono ?_
    rintro e w1 ⟨zs, A1, c1, rfl, hzl, hsh, ho, hb⟩
    have HS := Lib.hid hsh
    have HN1 := Lib.hid (owns_nilcap ho)
    have L1 := Lib.hid (show RowsA w1 A1 zs from el_of_owns rowC_len ho)
    have B1 := Lib.hid hb
    clear hsh ho hb hz hc hm hm' hl0
    go_wp2_with fail
    refine (RelOf_any A1 c1 zs _ L1.out HN1.out (by omega) HS.out).mono ?_
    have htl := relOf_len zs
    have HTS := Lib.hid (relOf_texts HS.out)
    obtain ⟨tt, htt⟩ : ∃ tt, relOfL zs = tt := ⟨_, rfl⟩
    rw [htt] at htl HTS ⊢
    have HTT := Lib.hid htt
    clear htt
    rintro e w2 ⟨A2, c2, rfl, ho, hb⟩
    have HN2 := Lib.hid (owns_nilcap ho)
    have T2 := Lib.hid (show RowsA w2 A2 tt from el_of_owns rowC_len ho)
    have L2 := Lib.hid (L1.out.below hb)
    have B2 := Lib.hid (B1.out.trans (hb.mono B1.out.size))
    clear ho hb L1 B1
    go_wp2_with fail
    refine (sRelOf_any A1 c1 zs _ L2.out (by omega) HS.out).mono ?_
    rw [HTT.out]
    rintro e w3 ⟨A3, c3, rfl, ho, hb⟩
    have T3 := Lib.hid (T2.out.below hb)
    have S3 := Lib.hid (show RowsA w3 A3 tt from el_of_owns rowC_len ho)
    have L3 := Lib.hid (L2.out.below hb)
    have B3 := Lib.hid (B2.out.trans (hb.mono B2.out.size))
    clear ho hb L2 B2 T2
    go_wp2_with fail
    refine (vaRows_any A2 A3 c2 c3 tt tt _ T3.out S3.out (by omega)).mono ?_
    rintro e w4 ⟨v, hv, rfl, hb⟩
    obtain rfl : v = true := hv.2 rfl
    have T4 := Lib.hid (T3.out.below hb)
    have L4 := Lib.hid (L3.out.below hb)
    have B4 := Lib.hid (B3.out.trans (hb.mono B3.out.size))
    clear hv hb L3 B3 T3 S3
    by_cases hte : tt.length = 0
    · obtain rfl : tt = [] := List.length_eq_zero_iff.1 hte
      clear hte htl
      go_wp2_with fail
      refine (sRelOf_any A1 c1 zs _ L4.out (by omega) HS.out).mono ?_
      rw [HTT.out]
      rintro e w5 ⟨A5, c5, rfl, ho, hb⟩
      have T5 := Lib.hid (T4.out.below hb)
      have S5 := Lib.hid (show RowsA w5 A5 [] from el_of_owns rowC_len ho)
      have B5 := Lib.hid (B4.out.trans (hb.mono B4.out.size))
      clear ho hb B4 T4
      go_wp2_with fail
      refine (vaRows_any A2 A5 c2 c5 [] [] _ T5.out S5.out (by simp)).mono ?_
      rintro e w6 ⟨v, hv, rfl, hb⟩
      obtain rfl : v = true := hv.2 rfl
      have B6 := Lib.hid (B5.out.trans (hb.mono B5.out.size))
      clear hv hb B5 T5 S5
      go_wp2
      go_ret
      exact ⟨rfl, B6.out⟩
    · have hne : relOfL zs ≠ [] := fun e => hte (by rw [← HTT.out, e]; rfl)
      have HNE := Lib.hid hne
      have hte' : ((tt.length : Int) == 0) = false := by simpa using hte
      have hte2 : ¬ (tt.length : Int) = 0 := by omega
      clear hne
      go_wp2
      generalize hW : w4.alloc _ = W0
      have B0 := Lib.hid (show Below w4.heap.size w4 W0 from by rw [← hW]; exact (Below.refl _ _).alloc (Nat.le_refl _) _)
      have OL := Lib.hid (show W0.ownsRow w4.heap.size 45 4 (.slice (some ⟨w4.heap.size, 0, none⟩) 0 0) 0 (flatOf rowC []) from by
        rw [← hW]; have := World.ownsRow_lit (base := w4.heap.size) (e := 45) (size := 4) w4 #[] 0 (Nat.le_refl _) (by simp [maxLen]) (by simp); simpa [flatOf] using this)
      have hw0 := B0.out.size
      clear hW
      go_loopw [5, 6] (fun v i wr => ∃ k : Nat, k ≤ zs.length ∧ i = .int .i64 ((zs.length : Int) - 1 - (k : Int)) ∧ wr.ownsRow w4.heap.size 45 4 v k (flatOf rowC (zs.reverse.take k)) ∧ Below w4.heap.size w4 wr) (fun _ i _ => (intOf i + 1).toNat)
      case atStart => exact ⟨0, Nat.zero_le _, by go_num, OL.out, B0.out⟩
      case round =>
        obtain ⟨k, hk, rfl, hown, hbr⟩ := hrel
        obtain ⟨A5, c5, rfl⟩ := owns_formN hown
        have Hown := Lib.hid hown
        clear hown OL B0
        have hs5 := hbr.size
        by_cases hlt : k < zs.length
        · have hkI : (0 : Int) ≤ (zs.length : Int) - 1 - (k : Int) := by omega
          have hkI2 : (zs.length : Int) - 1 - (k : Int) < (zs.length : Int) := by omega
          have hkN : ((zs.length : Int) - 1 - (k : Int)).toNat = zs.length - 1 - k := by omega
          obtain ⟨b, off, x, e1, hb, hx, c0, c1', c2', c3'⟩ := (L4.out.below hbr).at_ (show zs.length - 1 - k < zs.length by omega)
          have HT := Lib.hid (rev_take hlt hx)
          subst e1
          clear hx
          go_wp2_with (at_builtin; refine wpList_append_own _ rfl _ _ 27 rfl w4.heap.size 45 i0 _ 4 48 Try.underlying27 Hi.out Hz0.out Hz1.out Hz2.out rfl (by decide) _ k (flatOf rowC (zs.reverse.take k)) rfl (Hown.out.alloc _) ⟨wr.heap.size, 0, none⟩ 1 1 [.string x.k, .string x.t, .int .i64 x.f, .int .i64 x.e] rfl rfl (newsFour (by simp) (by simp) (by simp) (by simp)) (by simp [Value.oneCell']) (by unfold maxLen; omega) (by omega) (by simp; omega) ?_; intro v' w9 hown' hgrow hnil; have O9 := Lib.hid hown'; have B9 := Lib.hid ((hbr.alloc hs5 _).grown hgrow (by simp; omega) (fun i e => by have := (Hown.out.lt i e).1; omega)); clear hown' hgrow hnil)
          refine ⟨⟨k + 1, by omega, by go_num, ?_, B9.out⟩, ?_⟩
          · rw [HT.out, flatOf_append, flatOf_one]
            exact O9.out
          · simp [intOf]; omega
        · obtain rfl : k = zs.length := by omega
          have hkI : (zs.length : Int) - 1 - (zs.length : Int) < 0 := by omega
          have RV := Lib.hid (show wr.ownsRow w4.heap.size 45 4 (.slice A5 zs.reverse.length c5) zs.reverse.length (flatOf rowC zs.reverse) from by
            have := Hown.out
            rw [List.take_of_length_le (by rw [List.length_reverse]; exact Nat.le_refl _)] at this
            rw [List.length_reverse]
            exact this)
          have HNR := Lib.hid (owns_nilcap RV.out)
          have V6 := Lib.hid (show RowsA wr A5 zs.reverse from el_of_owns rowC_len RV.out)
          have L6 := Lib.hid (L4.out.below hbr)
          have T6 := Lib.hid (T4.out.below hbr)
          have B6 := Lib.hid (B4.out.trans (hbr.mono B4.out.size))
          clear Hown RV hbr L4 T4 B4 hs5
          obtain ⟨w5, rfl⟩ : ∃ w5, w5 = wr := ⟨_, rfl⟩
          go_wp2
          go_loopw [7] (fun i wi => ∃ q : Nat, q ≤ zs.length ∧ i = .int .i64 q ∧ Below w5.heap.size w5 wi) (fun i _ => zs.length - (intOf i).toNat)
          case atStart => exact ⟨0, Nat.zero_le _, rfl, Below.refl _ _⟩
          case round =>
            obtain ⟨q, hq, rfl, hbi⟩ := hrel
            by_cases hlq : q < zs.length
            · obtain ⟨b, off, x, e1, hb, hx, c0, c1', c2', c3'⟩ := L6.out.at_ hlq
              have hmx := List.mem_of_getElem? hx
              have hrow := rowOk_iff.1 (relOf_rows HNE.out x hmx)
              have hf0 : 0 ≤ x.f := hrow.2.2.1
              have hfe : x.f < x.e := hrow.2.2.2.1
              have he1 : x.e ≤ 100 := hrow.2.2.2.2
              have HGET := Lib.hid (show ∀ (c : Int), x.f ≤ c → c < x.e → ∀ W' : World, RowsA W' A2 tt → Calls Try.prog 12 #[.slice A2 tt.length c2, .string x.k, .int .i64 c] W' fun e w' => e = .returned (.string x.t) ∧ Below W'.heap.size W' w' from fun c h1 h2 W' h => by
                have := RelGet_any A2 c2 tt x.k c W' h (by omega) HTS.out
                rw [← HTT.out, relOf_get HNE.out hmx h1 h2, HTT.out] at this
                exact this)
              subst e1
              have hkz : (q : Int) < (zs.length : Int) := by omega
              have hkz0 : (0 : Int) ≤ (q : Int) := by omega
              have d2 := cellBelow hbi hb c2'
              have d3 := cellBelow hbi hb c3'
              clear hx hmx hrow
              go_wp2
              go_loopw [8] (fun v wj => ∃ c : Int, x.f ≤ c ∧ c ≤ x.e ∧ v = .int .i64 c ∧ Below w5.heap.size w5 wj) (fun v _ => (x.e - intOf v).toNat)
              case atStart => exact ⟨x.f, by omega, by omega, rfl, hbi⟩
              case round =>
                obtain ⟨c, hc1, hc2, rfl, hbj⟩ := hrel
                have f0 := cellBelow hbj hb c0
                have f1 := cellBelow hbj hb c1'
                have f3 := cellBelow hbj hb c3'
                have hbw := Nat.lt_of_lt_of_le hb hbj.size
                by_cases hce : c < x.e
                · have HG2 := Lib.hid (HGET.out c hc1 hce)
                  have TJ := Lib.hid (T6.out.below hbj)
                  go_wp2_with fail
                  refine wp_region_later (by kernel_rfl) (by kernel_rfl) ?_
                  intro f hf1 hf2 hfc
                  repeat (go_big_quiet_step ((go_at_call 12; exact calls_later hf1 hf2 (HG2.out _ (TJ.out.below (hf1.out _))))))
                  refine wpQuiet_nil ?_
                  rintro _ ⟨v, rfl⟩
                  have BV := Lib.hid (hbj.trans ((hf1.out v).mono hbj.size))
                  clear hfc hf1 hf2
                  go_wp2
                  go_roundw
                  case rel => exact ⟨c + 1, by omega, by omega, by go_num, BV.out⟩
                  case measure => simp [intOf]; omega
                · obtain rfl : c = x.e := by omega
                  go_wp2
                  go_roundw
                  case rel => exact ⟨q + 1, by omega, by go_num, hbj⟩
                  case measure => simp [intOf]; omega
            · obtain rfl : q = zs.length := by omega
              have HTB := Lib.hid (show relOk tt = true from by rw [← HTT.out]; exact relOf_table HNE.out)
              have HSL := Lib.hid (show relOfL tt = tt from relOf_self HTB.out)
              have HRV := Lib.hid (show relOfL zs.reverse = tt from by rw [relOf_perm HNE.out (List.reverse_perm zs).symm, HTT.out])
              have HLN := Lib.hid (show tt.length ≤ zs.length from by rw [← HTT.out]; exact relOf_short HNE.out)
              have HSR := Lib.hid (show Short zs.reverse from HS.out.perm (List.reverse_perm zs))
              have HREV := Lib.hid (show ∀ W' : World, RowsA W' A5 zs.reverse → Calls Try.prog 26 #[.slice A5 zs.length c5] W' (GetsE rowC 4 45 W' tt) from fun W' h => by
                have := RelOf_any A5 c5 zs.reverse W' h HNR.out (by rw [List.length_reverse]; omega) HSR.out
                rw [HRV.out, List.length_reverse] at this
                exact this)
              have T7 := Lib.hid (T6.out.below hbi)
              have V7 := Lib.hid (V6.out.below hbi)
              have B7 := Lib.hid (B6.out.trans (hbi.mono B6.out.size))
              clear hbi L6 T6 V6 B6
              go_wp2_with fail
              refine (RelOk_any A2 c2 tt _ T7.out (by omega) HTS.out).mono ?_
              rw [HTB.out]
              rintro e w8 ⟨rfl, hb⟩
              have T8 := Lib.hid (T7.out.below hb)
              have V8 := Lib.hid (V7.out.below hb)
              have B8 := Lib.hid (B7.out.trans (hb.mono B7.out.size))
              clear hb T7 V7 B7
              go_wp2_with fail
              refine (HREV.out _ V8.out).mono ?_
              rintro e w9 ⟨A9, c9, rfl, ho, hb⟩
              have S9 := Lib.hid (show RowsA w9 A9 tt from el_of_owns rowC_len ho)
              have T9 := Lib.hid (T8.out.below hb)
              have B9 := Lib.hid (B8.out.trans (hb.mono B8.out.size))
              clear hb ho T8 V8 B8
              go_wp2_with fail
              refine (vaRows_any A9 A2 c9 c2 tt tt _ S9.out T9.out (by omega)).mono ?_
              rintro e wa ⟨v, hv, rfl, hb⟩
              obtain rfl : v = true := hv.2 rfl
              have Ta := Lib.hid (T9.out.below hb)
              have Ba := Lib.hid (B9.out.trans (hb.mono B9.out.size))
              clear hv hb T9 S9 B9
              go_wp2_with fail
              refine (RelOf_any A2 c2 tt _ Ta.out HN2.out (by omega) HTS.out).mono ?_
              rw [HSL.out]
              rintro e wb ⟨Ab, cb, rfl, ho, hb⟩
              have Sb := Lib.hid (show RowsA wb Ab tt from el_of_owns rowC_len ho)
              have Tb := Lib.hid (Ta.out.below hb)
              have Bb := Lib.hid (Ba.out.trans (hb.mono Ba.out.size))
              clear hb ho Ta Ba
              go_wp2_with fail
              refine (vaRows_any Ab A2 cb c2 tt tt _ Sb.out Tb.out (by omega)).mono ?_
              rintro e wd ⟨v, hv, rfl, hb⟩
              obtain rfl : v = true := hv.2 rfl
              have Bd := Lib.hid (Bb.out.trans (hb.mono Bb.out.size))
              clear hv hb Tb Sb Bb
              have hln := HLN.out
              have hlni : (tt.length : Int) ≤ (zs.length : Int) := by omega
              go_wp2
              go_ret
              exact ⟨rfl, Bd.out⟩
end Go.Proofs.Ytfolppahdmkaoaa
