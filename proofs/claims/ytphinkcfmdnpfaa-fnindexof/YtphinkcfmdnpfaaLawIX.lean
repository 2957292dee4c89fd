/-
  The walk of FnIndexOf.
-/
import Derived.Test.YtphinkcfmdnpfaaIdxW
import Derived.Test.YtphinkcfmdnpfaaVaN
import Derived.Test.YtphinkcfmdnpfaaDrawIX
import Derived.Test.YtphinkcfmdnpfaaLawMeet
namespace Go.Proofs.Ytphinkcfmdnpfaa
open Go.Shelf Go.RowKit Go.Lib

theorem ok_smallI {zs : List RowV} (h : relOk zs = true) : ∀ x ∈ zs, x.k.size ≤ 9 ∧ x.t.size ≤ 9 := fun x hx => by
  obtain ⟨h1, h2, _⟩ := rowOk_iff.1 ((rel_apart h).1 x hx)
  simp only [wordB, Bool.and_eq_true, decide_eq_true_eq] at h1 h2
  exact ⟨h1.1.2, h2.1.2⟩
theorem ok_shortI {zs : List RowV} (h : relOk zs = true) : Short zs := fun r hr => by
  have := ok_smallI h r hr
  unfold maxLen
  omega
theorem eqNs_self (xs : List NodV) : eqNs xs xs = true := eqNs_iff.2 rfl
theorem indexL_short {t : List RowV} (h : relOk t = true) : ShortN (indexL t) := fun x hx => by
  have hm : x.r ∈ rowsN (indexL t) := List.mem_map.2 ⟨x, hx, rfl⟩
  exact ok_shortI h _ ((index_perm h).subset hm)

set_option maxRecDepth 100000 in
set_option maxHeartbeats 8000000 in
theorem FnIndexOf_any (A : Option Addr) (n cap : Nat) (bs : List Int) (w : World) (hz : Bytes w w.heap.size A bs ∧ bs.length = n ∧ n ≤ cap ∧ cap ≤ maxLen) :
    Calls Try.prog 10 #[.slice A n cap] w fun e w' => e = .returned (.bool true) ∧ Below w.heap.size w w' := by
  obtain ⟨i0, hi, hz0, hz1, hz2⟩ := info_parts Try.infoR70
  have Hi := Lib.hid hi
  have Hz0 := Lib.hid hz0
  have Hz1 := Lib.hid hz1
  have Hz2 := Lib.hid hz2
  clear hi hz0 hz1 hz2
  obtain ⟨hz, rfl, hc, hm⟩ := hz
  have hm' := hm
  unfold maxLen at hm'
  by_cases hl0 : (1048576 : Int) < bs.length
  · go_enter Try.func10, Try.ntmps10
    go_wp2
    go_ret
    exact ⟨rfl, Below.refl _ _⟩
  · go_enter Try.func10, Try.ntmps10
    go_wp2_with fail
    refine (DrawIndexOf_any A cap bs w hz hc hm).mono ?_
    rintro e w0 ⟨za, A1, c1, rfl, hla, hsa, hoa, hb0⟩
    have TA := Lib.hid (rowsA_own hoa rfl)
    have NA := Lib.hid (owns_nilE hoa)
    have HSA := Lib.hid hsa
    have B0 := Lib.hid hb0
    have hla' : za.length ≤ 1048577 := by omega
    have hxl := indexL_len za
    have HIO := Lib.hid (fun h => index_ok (t := za) h)
    have HSX := Lib.hid (fun h => indexL_short (t := za) h)
    have HFX := Lib.hid (fun h x l hx => index_first (t := za) h (x := x) (l := l) hx)
    obtain ⟨xs, hxs⟩ : ∃ xs, indexL za = xs := ⟨_, rfl⟩
    rw [hxs] at hxl HIO HSX HFX
    have HX := Lib.hid hxs
    obtain ⟨o, ho⟩ : ∃ o, relOk za = o := ⟨_, rfl⟩
    have HOA := Lib.hid ho
    clear hoa hsa hb0 hz hc hm hm' hxs ho
    go_wp2_with fail
    refine (IndexOf_any A1 c1 za w0 TA.out NA.out hla' HSA.out).mono ?_
    rw [HX.out]
    rintro e w1 ⟨A3, c3, rfl, ho, hb⟩
    have X1 := Lib.hid (show NodsA w1 A3 xs from el_of_owns nodC_len ho)
    have R1 := Lib.hid hb
    clear ho hb
    go_wp2_with fail
    refine (sIndexOf_any A1 c1 za w1 (TA.out.below R1.out) hla' HSA.out).mono ?_
    rw [HX.out]
    rintro e w2 ⟨A4, c4, rfl, ho, hb⟩
    have Y2 := Lib.hid (show NodsA w2 A4 xs from el_of_owns nodC_len ho)
    have X2 := Lib.hid (X1.out.below hb)
    have R2 := Lib.hid (R1.out.trans (hb.mono R1.out.size))
    clear ho hb X1 R1
    go_wp2_with fail
    refine (vaNodes_any _ _ _ _ xs xs _ X2.out Y2.out (by unfold maxLen; omega)).mono ?_
    rw [eqNs_self]
    rintro e w3 ⟨rfl, hb⟩
    have X3 := Lib.hid (X2.out.below hb)
    have R3 := Lib.hid (R2.out.trans (hb.mono R2.out.size))
    clear hb X2 Y2 R2
    go_wp2_with fail
    refine (RelOk_any A1 c1 za _ (TA.out.below R3.out) hla' HSA.out).mono ?_
    rw [HOA.out]
    rintro e w4 ⟨rfl, hb⟩
    have X4 := Lib.hid (X3.out.below hb)
    have R4 := Lib.hid (R3.out.trans (hb.mono R3.out.size))
    clear hb X3 R3
    cases o
    · go_wp2_with fail
      refine (sIndexOf_any A1 c1 za w4 (TA.out.below R4.out) hla' HSA.out).mono ?_
      rw [HX.out]
      rintro e w5 ⟨A5, c5, rfl, ho, hb⟩
      have Y5 := Lib.hid (show NodsA w5 A5 xs from el_of_owns nodC_len ho)
      have X5 := Lib.hid (X4.out.below hb)
      have R5 := Lib.hid (R4.out.trans (hb.mono R4.out.size))
      clear ho hb X4 R4
      go_wp2_with fail
      refine (vaNodes_any _ _ _ _ xs xs _ X5.out Y5.out (by unfold maxLen; omega)).mono ?_
      rw [eqNs_self]
      rintro e w6 ⟨rfl, hb⟩
      have R6 := Lib.hid (R5.out.trans (hb.mono R5.out.size))
      clear hb
      have BZ := Lib.hid (B0.out.trans (R6.out.mono B0.out.size))
      go_wp2
      go_ret
      exact ⟨rfl, BZ.out⟩
    · have HIO2 := Lib.hid (HIO.out HOA.out)
      have HSX2 := Lib.hid (HSX.out HOA.out)
      have HFX2 := Lib.hid (HFX.out HOA.out)
      clear HIO HSX HFX
      obtain ⟨wB, rfl⟩ : ∃ W, W = w4 := ⟨_, rfl⟩
      go_wp2
      go_loopw [5, 6, 7] (fun v m i wr => ∃ k : Nat, k ≤ xs.length ∧ i = .int .i64 k ∧ m = .int .i64 (lastR 0 (rowsN (xs.take k))) ∧ wr.ownsRow wB.heap.size 70 4 v k (flatOf rowC (rowsN (xs.take k))) ∧ Below wB.heap.size wB wr) (fun _ _ i _ => xs.length - (intOf i).toNat)
      case atStart =>
        refine ⟨0, Nat.zero_le _, rfl, rfl, ?_, (Below.refl _ _).alloc (Nat.le_refl _) _⟩
        have := World.ownsRow_lit (base := wB.heap.size) (e := 70) (size := 4) wB #[] 0 (by simp) (by simp [maxLen]) (by simp)
        simpa [flatOf, rowsN] using this
      case round =>
        obtain ⟨k, hk, rfl, rfl, hown, hbr⟩ := hrel
        have Hown := Lib.hid hown
        clear hown
        by_cases hlt : k < xs.length
        · obtain ⟨b, off, y, rfl, hb, hxk, d0, d1, d2, d3, d4, d5⟩ := X4.out.at_ hlt
          have HT := Lib.hid (rowsN_take hxk)
          have HLS := Lib.hid (show lastR 0 (rowsN (xs.take (k + 1))) = if y.r.e > lastR 0 (rowsN (xs.take k)) then y.r.e else lastR 0 (rowsN (xs.take k)) from by
            rw [rowsN_take hxk]; unfold lastR; rw [List.foldl_append]; rfl)
          obtain ⟨m, hm⟩ : ∃ m, lastR 0 (rowsN (xs.take k)) = m := ⟨_, rfl⟩
          obtain ⟨oo, hoo⟩ : ∃ oo, rowsN (xs.take k) = oo := ⟨_, rfl⟩
          rw [hm] at HLS ⊢
          rw [hoo] at Hown HT
          have hkz : (k : Int) < (xs.length : Int) := by omega
          have hkz0 : (0 : Int) ≤ (k : Int) := by omega
          have hs5 := hbr.size
          have p0 := cellBelow hbr hb d0
          have p1 := cellBelow hbr hb d1
          have p2 := cellBelow hbr hb d2
          have p3 := cellBelow hbr hb d3
          clear hxk hm hoo d0 d1 d2 d4 d5
          by_cases hgt : y.r.e > m
          · rw [if_pos hgt] at HLS
            have hgt' : m < y.r.e := hgt
            clear hgt
            go_wp2_with (at_builtin; refine wpList_append_own _ rfl _ _ 23 rfl wB.heap.size 70 i0 _ 4 48 Try.underlying23 Hi.out Hz0.out Hz1.out Hz2.out rfl (by decide) _ k (flatOf rowC oo) rfl (Hown.out.alloc _) ⟨wr.heap.size, 0, none⟩ 1 1 [.string y.r.k, .string y.r.t, .int .i64 y.r.f, .int .i64 y.r.e] rfl rfl (newsFour (by simp) (by simp) (by simp) (by simp)) (by simp [Value.oneCell']) (by unfold maxLen; omega) (by omega) (by simp; omega) ?_; intro v' w9 hown' hgrow hnil; have O9 := Lib.hid hown'; have B9 := Lib.hid ((hbr.alloc hs5 _).grown hgrow (by simp; omega) (fun i e => by have := (Hown.out.lt i e).1; omega)); have q3' := cellBelow B9.out hb d3; clear hown' hgrow hnil)
            refine ⟨⟨k + 1, by omega, by simp, by rw [HLS.out], ?_, B9.out⟩, ?_⟩
            · rw [HT.out, flatOf_append, flatOf_one]
              exact O9.out
            · simp [intOf]; omega
          · rw [if_neg hgt] at HLS
            have hgt' : y.r.e ≤ m := by omega
            clear hgt
            go_wp2_with (at_builtin; refine wpList_append_own _ rfl _ _ 23 rfl wB.heap.size 70 i0 _ 4 48 Try.underlying23 Hi.out Hz0.out Hz1.out Hz2.out rfl (by decide) _ k (flatOf rowC oo) rfl (Hown.out.alloc _) ⟨wr.heap.size, 0, none⟩ 1 1 [.string y.r.k, .string y.r.t, .int .i64 y.r.f, .int .i64 y.r.e] rfl rfl (newsFour (by simp) (by simp) (by simp) (by simp)) (by simp [Value.oneCell']) (by unfold maxLen; omega) (by omega) (by simp; omega) ?_; intro v' w9 hown' hgrow hnil; have O9 := Lib.hid hown'; have B9 := Lib.hid ((hbr.alloc hs5 _).grown hgrow (by simp; omega) (fun i e => by have := (Hown.out.lt i e).1; omega)); have q3' := cellBelow B9.out hb d3; clear hown' hgrow hnil)
            refine ⟨⟨k + 1, by omega, by simp, by rw [HLS.out], ?_, B9.out⟩, ?_⟩
            · rw [HT.out, flatOf_append, flatOf_one]
              exact O9.out
            · simp [intOf]; omega
        · obtain rfl : k = xs.length := by omega
          rw [List.take_length] at Hown ⊢
          obtain ⟨A5, c5, rfl⟩ := owns_formN Hown.out
          have HRN := Lib.hid (rowsN_len xs)
          obtain ⟨rs, hrs⟩ : ∃ rs, rowsN xs = rs := ⟨_, rfl⟩
          have HSR := Lib.hid (shortN_rows HSX2.out)
          rw [hrs] at Hown HIO2 HRN HSR HFX2 ⊢
          have hrl : rs.length ≤ 1048577 := by rw [HRN.out]; omega
          have X5 := Lib.hid (X4.out.below hbr)
          have S5 := Lib.hid (show RowsA wr A5 rs from rowsA_own Hown.out HRN.out.symm)
          have N5 := Lib.hid (owns_nilcap Hown.out)
          have R5 := Lib.hid (R4.out.trans (hbr.mono R4.out.size))
          have HIK := Lib.hid (IndexOk_any A3 c3 xs wr X5.out (by omega) HSX2.out)
          rw [HIO2.out.1] at HIK
          obtain ⟨lm, hlm⟩ : ∃ lm, lastR 0 rs = lm := ⟨_, rfl⟩
          rw [hlm] at HFX2 ⊢
          clear hbr Hown hrs hlm
          go_wp2_with fail
          refine HIK.out.mono ?_
          rintro e w6 ⟨rfl, hb⟩
          have X6 := Lib.hid (X5.out.below hb)
          have S6 := Lib.hid (S5.out.below hb)
          have R6 := Lib.hid (R5.out.trans (hb.mono R5.out.size))
          have HRO := Lib.hid (RelOf_any A5 c5 rs w6 S6.out N5.out hrl HSR.out)
          rw [HIO2.out.2, HRN.out] at HRO
          clear hb HIK X5 S5 R5
          go_wp2_with fail
          refine HRO.out.mono ?_
          rintro e w7 ⟨A7, c7, rfl, ho, hb⟩
          have Z7 := Lib.hid (show RowsA w7 A7 za from el_of_owns rowC_len ho)
          have X7 := Lib.hid (X6.out.below hb)
          have R7 := Lib.hid (R6.out.trans (hb.mono R6.out.size))
          clear ho hb HRO X6 S6 R6
          go_wp2_with fail
          refine (vaRows_any _ _ _ _ za za _ Z7.out (TA.out.below R7.out) (by omega)).mono ?_
          rintro e w8 ⟨v3, hv3, rfl, hb⟩
          obtain rfl : v3 = true := hv3.2 rfl
          have X8 := Lib.hid (X7.out.below hb)
          have R8 := Lib.hid (R7.out.trans (hb.mono R7.out.size))
          have BZ := Lib.hid (B0.out.trans (R8.out.mono B0.out.size))
          clear hb hv3 Z7 X7 R7
          by_cases h0 : 0 < xs.length
          · obtain ⟨b, off, x, rfl, hb, hxk, d0, d1, d2, d3, d4, d5⟩ := X8.out.at_ h0
            obtain ⟨l, hl⟩ : ∃ l, xs = x :: l := by
              cases xs with
              | nil => simp at h0
              | cons z l => exact ⟨l, by simpa using hxk⟩
            obtain ⟨hq1, hq2⟩ := HFX2.out x l hl
            rw [hq1] at d5
            rw [hq2] at d4
            simp only [Nat.zero_mul, Nat.add_zero] at d4 d5
            have z0 : ((xs.length : Int) == 0) = false := by rw [beq_eq_false_iff_ne]; omega
            have z1 : (0 : Int) < (xs.length : Int) := by omega
            have z2 : Int.tdiv (xs.length : Int) 2 = ((xs.length / 2 : Nat) : Int) := by rw [Int.tdiv_eq_ediv_of_nonneg (by omega)]; omega
            obtain ⟨hf, hhf⟩ : ∃ hf, xs.length / 2 = hf := ⟨_, rfl⟩
            rw [hhf] at d4 z2
            have hf24 : hf ≤ 24 := by omega
            have z3 : wrap64 (hf : Int) = (hf : Int) := IntWalk.wrap64_in _ (by omega)
            clear hl hxk hq1 hq2 d0 d1 d2 d3 hhf h0
            go_wp2
            go_ret
            exact ⟨rfl, BZ.out⟩
          · have hxn : xs = [] := List.length_eq_zero_iff.1 (by omega)
            subst hxn
            go_wp2
            go_ret
            exact ⟨rfl, BZ.out⟩
end Go.Proofs.Ytphinkcfmdnpfaa
