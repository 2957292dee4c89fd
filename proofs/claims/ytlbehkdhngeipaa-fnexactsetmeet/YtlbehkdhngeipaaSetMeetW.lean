/-
  The walk of the exact law of SetMeet.
-/
import Derived.Test.YtlbehkdhngeipaaGets
namespace Go.Proofs.Ytlbehkdhngeipaa
open Go.RowKit

set_option maxRecDepth 100000 in
set_option maxHeartbeats 4000000 in
theorem FnExactSetMeet_any (A : Option Addr) (n ca : Nat) (xs : List (Int × Int)) (B : Option Addr) (n' cb : Nat) (ys : List (Int × Int)) (w : World) (hA : Spans w A xs ∧ xs.length = n ∧ n ≤ maxLen) (hB : Spans w B ys ∧ ys.length = n' ∧ n' ≤ maxLen) :
    Calls Try.prog 18 #[.slice A n ca, .slice B n' cb] w fun e w' => e = .returned (.bool true) ∧ Below w.heap.size w w' := by
  obtain ⟨hx, rfl, hmx⟩ := hA
  obtain ⟨hy, rfl, hmy⟩ := hB
  have HX := Lib.hid hx
  have HY := Lib.hid hy
  clear hx hy
  go_enter Try.func18, Try.ntmps18
  go_wp2_with fail
  refine (szSpanS_any _ _ _ _ _ (by omega) (by omega) hmx).mono ?_
  rintro e w1 ⟨rfl, rfl⟩
  by_cases hl : (1048576 : Int) - xs.length < 0
  · rw [if_pos hl]
    go_wp2
    go_ret
    exact ⟨rfl, Below.refl _ _⟩
  · rw [if_neg hl]
    have hlx : xs.length ≤ 1048577 := by omega
    go_wp2_with fail
    refine (szSpanS_any _ _ _ _ _ (by omega) (by omega) hmy).mono ?_
    rintro e w1 ⟨rfl, rfl⟩
    by_cases hl2 : (1048576 : Int) - xs.length - ys.length < 0
    · rw [if_pos hl2]
      go_wp2
      go_ret
      exact ⟨rfl, Below.refl _ _⟩
    · rw [if_neg hl2]
      have hly : ys.length ≤ 1048577 := by omega
      have hzl := setMeetL_len xs ys
      obtain ⟨zs, hzs⟩ : ∃ zs, setMeetL xs ys = zs := ⟨_, rfl⟩
      have HZ := Lib.hid hzs
      rw [hzs] at hzl
      clear hzs
      go_wp2_with fail
      refine (toSpanS_any _ _ _ _ HX.out hlx).mono ?_
      rintro e w1 ⟨g1, c1, rfl, ho1, hb1⟩
      have O1 := Lib.hid ho1
      clear ho1
      go_wp2_with fail
      refine (toSpanS_any _ _ _ _ (HY.out.below hb1) hly).mono ?_
      rintro e w2 ⟨g2, c2, rfl, ho2, hb2'⟩
      have O2 := Lib.hid ho2
      have P1 := Lib.hid (owns_keep O1.out hb2')
      have hb2 : Below w.heap.size w w2 := hb1.trans (hb2'.mono hb1.size)
      clear ho2 O1 hb1 hb2'
      go_wp2_with fail
      refine (sSetMeet_any _ _ _ _ _ _ _ (owns_spans P1.out) (owns_spans O2.out) hlx hly).mono ?_
      rw [HZ.out]
      rintro e w3 ⟨A3, c3, rfl, ho3, hb3'⟩
      have O3 := Lib.hid ho3
      have hb3 : Below w.heap.size w w3 := hb2.trans (hb3'.mono hb2.size)
      have s3 := hb3'.size
      have s2 := hb2.size
      clear ho3 O2 P1 hb3' hb2
      go_wp2_with fail
      refine (toSpanS_any _ _ _ _ (HX.out.below hb3) hlx).mono ?_
      rintro e w4 ⟨g4, c4, rfl, ho4, hb4'⟩
      have O4 := Lib.hid ho4
      have P3 := Lib.hid (owns_keep O3.out hb4')
      have hb4 : Below w.heap.size w w4 := hb3.trans (hb4'.mono hb3.size)
      have s4 := hb4'.size
      have a34 := Lib.hid (owns_apart O3.out (Nat.le_refl _) (Nat.le_refl _) O4.out)
      clear ho4 O3 hb4' hb3
      go_wp2_with fail
      refine (toSpanS_any _ _ _ _ (HY.out.below hb4) hly).mono ?_
      rintro e w5 ⟨g5, c5, rfl, ho5, hb5'⟩
      have O5 := Lib.hid ho5
      have Q3 := Lib.hid (owns_keep P3.out hb5')
      have Q4 := Lib.hid (owns_keep O4.out hb5')
      have hb5 : Below w.heap.size w w5 := hb4.trans (hb5'.mono hb4.size)
      have s5 := hb5'.size
      have a35 := Lib.hid (owns_apart P3.out (Nat.le_refl _) (Nat.le_refl _) O5.out)
      have a45 := Lib.hid (owns_apart O4.out (Nat.le_refl _) (Nat.le_refl _) O5.out)
      clear ho5 P3 O4 hb5' hb4
      go_wp2_with fail
      refine (SetMeet_any _ _ _ _ _ _ _ (owns_spans Q4.out) (owns_spans O5.out) (owns_block Q4.out) (owns_block O5.out) hlx hly).mono ?_
      rw [HZ.out]
      rintro e w6 h6
      obtain ⟨A6, c6, rfl, ho6, hb6'⟩ := gets_of_coll h6
      have O6 := Lib.hid ho6
      have R3 := Lib.hid (owns_keep Q3.out hb6')
      have R4 := Lib.hid (owns_keep Q4.out hb6')
      have R5 := Lib.hid (owns_keep O5.out hb6')
      have hb6 : Below w.heap.size w w6 := hb5.trans (hb6'.mono hb5.size)
      have s6 := hb6'.size
      have a36 := Lib.hid (owns_apart Q3.out (Nat.le_refl _) (Nat.le_refl _) O6.out)
      have a46 := Lib.hid (owns_apart Q4.out (Nat.le_refl _) (Nat.le_refl _) O6.out)
      have a56 := Lib.hid (owns_apart O5.out (Nat.le_refl _) (Nat.le_refl _) O6.out)
      clear h6 ho6 Q3 Q4 O5 hb6' hb5
      go_wp2_with fail
      refine (eqSpanS_same _ _ _ _ _ _ (owns_spans O6.out) (owns_spans R3.out) (by unfold maxLen; omega)).mono ?_
      rintro e w7 ⟨rfl, hb7'⟩
      have S3 := Lib.hid (owns_keep R3.out hb7')
      have S4 := Lib.hid (owns_keep R4.out hb7')
      have S5 := Lib.hid (owns_keep R5.out hb7')
      have S6 := Lib.hid (owns_keep O6.out hb7')
      have hb7 : Below w.heap.size w w7 := hb6.trans (hb7'.mono hb6.size)
      clear R3 R4 R5 O6 hb7' hb6
      go_wp2_with fail
      refine (toSpanS_any _ _ _ _ (HX.out.below hb7) hlx).mono ?_
      rintro e w8 ⟨g8, c8, rfl, ho8, hb8'⟩
      have O8 := Lib.hid ho8
      have T3 := Lib.hid (owns_keep S3.out hb8')
      have T4 := Lib.hid (owns_keep S4.out hb8')
      have T5 := Lib.hid (owns_keep S5.out hb8')
      have T6 := Lib.hid (owns_keep S6.out hb8')
      have hb8 : Below w.heap.size w w8 := hb7.trans (hb8'.mono hb7.size)
      clear ho8 S3 S4 S5 S6 hb8' hb7
      go_wp2_with fail
      refine (eqSpanS_same _ _ _ _ _ _ (owns_spans T4.out) (owns_spans O8.out) hmx).mono ?_
      rintro e w9 ⟨rfl, hb9'⟩
      have U3 := Lib.hid (owns_keep T3.out hb9')
      have U4 := Lib.hid (owns_keep T4.out hb9')
      have U5 := Lib.hid (owns_keep T5.out hb9')
      have U6 := Lib.hid (owns_keep T6.out hb9')
      have hb9 : Below w.heap.size w w9 := hb8.trans (hb9'.mono hb8.size)
      clear T3 T4 T5 T6 O8 hb9' hb8
      go_wp2_with fail
      refine (toSpanS_any _ _ _ _ (HY.out.below hb9) hly).mono ?_
      rintro e w10 ⟨g10, c10, rfl, ho10, hb10'⟩
      have O10 := Lib.hid ho10
      have V3 := Lib.hid (owns_keep U3.out hb10')
      have V4 := Lib.hid (owns_keep U4.out hb10')
      have V5 := Lib.hid (owns_keep U5.out hb10')
      have V6 := Lib.hid (owns_keep U6.out hb10')
      have hb10 : Below w.heap.size w w10 := hb9.trans (hb10'.mono hb9.size)
      clear ho10 U3 U4 U5 U6 hb10' hb9
      go_wp2_with fail
      refine (eqSpanS_same _ _ _ _ _ _ (owns_spans V5.out) (owns_spans O10.out) hmy).mono ?_
      rintro e w11 ⟨rfl, hb11'⟩
      have W3 := Lib.hid (owns_keep V3.out hb11')
      have W4 := Lib.hid (owns_keep V4.out hb11')
      have W5 := Lib.hid (owns_keep V5.out hb11')
      have W6 := Lib.hid (owns_keep V6.out hb11')
      have hb11 : Below w.heap.size w w11 := hb10.trans (hb11'.mono hb10.size)
      clear V3 V4 V5 V6 O10 hb11' hb10
      go_wp2_with fail
      refine (mark_any _ _ xs 1 _ W4.out (by omega) (by omega) (by omega)).mono ?_
      rintro e w12 ⟨rfl, _, hg12⟩
      have X3 := Lib.hid (W3.out.kept hg12 a34.out)
      have X5 := Lib.hid (W5.out.kept hg12 (ap_sym a45.out))
      have X6 := Lib.hid (W6.out.kept hg12 (ap_sym a46.out))
      have hb12 : Below w.heap.size w w12 := hb11.grown hg12 hb11.size (fun k e => by have := (W4.out.lt k e).1; omega)
      clear W3 W4 W5 W6 hg12 hb11
      go_wp2_with fail
      refine (mark_any _ _ ys _ _ X5.out (by omega) (by omega) (by omega)).mono ?_
      rintro e w13 ⟨rfl, _, hg13⟩
      have Y3 := Lib.hid (X3.out.kept hg13 a35.out)
      have Y6 := Lib.hid (X6.out.kept hg13 (ap_sym a56.out))
      have hb13 : Below w.heap.size w w13 := hb12.grown hg13 hb12.size (fun k e => by have := (X5.out.lt k e).1; omega)
      clear X3 X5 X6 hg13 hb12
      have hk13 : decide (1 + 2 * (xs.length : Int) + 2 * (ys.length : Int) < 0) = false := decide_eq_false (by omega)
      go_wp2_with fail
      refine (eqSpanS_same _ _ _ _ _ _ (owns_spans Y6.out) (owns_spans Y3.out) (by unfold maxLen; omega)).mono ?_
      rintro e w14 ⟨rfl, hb14'⟩
      have Z3 := Lib.hid (owns_keep Y3.out hb14')
      have Z6 := Lib.hid (owns_keep Y6.out hb14')
      have hb14 : Below w.heap.size w w14 := hb13.trans (hb14'.mono hb13.size)
      clear Y3 Y6 hb14' hb13
      go_wp2_with fail
      refine (mark_any _ _ zs 1 _ Z6.out (by omega) (by omega) (by omega)).mono ?_
      rintro e w15 ⟨rfl, hm15, hg15⟩
      have M6 := Lib.hid (show w15.ownsRow _ 24 2 (.slice A6 (markL 1 zs.length).length c6) (markL 1 zs.length).length (flat (markL 1 zs.length)) from by rw [markL_length]; exact hm15)
      have N3 := Lib.hid (Z3.out.kept hg15 a36.out)
      have hb15 : Below w.heap.size w w15 := hb14.grown hg15 hb14.size (fun k e => by have := (Z6.out.lt k e).1; omega)
      clear Z3 Z6 hm15 hg15 hb14
      go_wp2_with fail
      refine (held_any _ zs.length _ 1 _ (owns_spans M6.out) (by omega) (by omega) (by omega)).mono ?_
      rintro e w16 ⟨rfl, rfl⟩
      have hq : decide (1 + 2 * (zs.length : Int) < 0) = false := decide_eq_false (by omega)
      go_wp2_with fail
      refine (toSpanS_any _ _ _ _ (HX.out.below hb15) hlx).mono ?_
      rintro e w17 ⟨g17, c17, rfl, ho17, hb17'⟩
      have O17 := Lib.hid ho17
      have A3' := Lib.hid (owns_keep N3.out hb17')
      have A6' := Lib.hid (owns_keep M6.out hb17')
      have hb17 : Below w.heap.size w w17 := hb15.trans (hb17'.mono hb15.size)
      clear ho17 N3 M6 hb17' hb15
      go_wp2_with fail
      refine (toSpanS_any _ _ _ _ (HY.out.below hb17) hly).mono ?_
      rintro e w18 ⟨g18, c18, rfl, ho18, hb18'⟩
      have O5 := Lib.hid ho18
      have Q4 := Lib.hid (owns_keep O17.out hb18')
      have B3' := Lib.hid (owns_keep A3'.out hb18')
      have B6' := Lib.hid (owns_keep A6'.out hb18')
      have hb18 : Below w.heap.size w w18 := hb17.trans (hb18'.mono hb17.size)
      clear ho18 O17 A3' A6' hb18' hb17
      go_wp2_with fail
      refine (SetMeet_any _ _ _ _ _ _ _ (owns_spans Q4.out) (owns_spans O5.out) (owns_block Q4.out) (owns_block O5.out) hlx hly).mono ?_
      rw [HZ.out]
      rintro e w19 h19
      obtain ⟨A19, c19, rfl, ho19, hb19'⟩ := gets_of_coll h19
      have O19 := Lib.hid ho19
      have C3' := Lib.hid (owns_keep B3'.out hb19')
      have C6' := Lib.hid (owns_keep B6'.out hb19')
      have hb19 : Below w.heap.size w w19 := hb18.trans (hb19'.mono hb18.size)
      clear h19 ho19 O5 Q4 B3' B6' hb19' hb18
      go_wp2_with fail
      refine (eqSpanS_same _ _ _ _ _ _ (owns_spans O19.out) (owns_spans C3'.out) (by unfold maxLen; omega)).mono ?_
      rintro e w20 ⟨rfl, hb20'⟩
      have D6' := Lib.hid (owns_keep C6'.out hb20')
      have hb20 : Below w.heap.size w w20 := hb19.trans (hb20'.mono hb19.size)
      clear O19 C3' C6' hb20' hb19
      go_wp2_with fail
      refine (held_any _ zs.length _ 1 _ (owns_spans D6'.out) (by omega) (by omega) (by omega)).mono ?_
      rintro e w21 ⟨rfl, rfl⟩
      go_wp2
      go_ret
      exact ⟨rfl, hb20⟩
end Go.Proofs.Ytlbehkdhngeipaa
