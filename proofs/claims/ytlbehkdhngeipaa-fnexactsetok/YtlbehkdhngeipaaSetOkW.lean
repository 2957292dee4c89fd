/-
  The walk of FnExactSetOk.
-/
import Derived.Test.YtlbehkdhngeipaaSets
namespace Go.Proofs.Ytlbehkdhngeipaa
open Go.RowKit

set_option maxHeartbeats 1000000 in
theorem FnExactSetOk_any (A : Option Addr) (n cap : Nat) (zs : List (Int × Int)) (w : World) (hz : Spans w A zs ∧ zs.length = n ∧ n ≤ maxLen) :
    Calls Try.prog 14 #[.slice A n cap] w fun e w' => e = .returned (.bool true) ∧ Below w.heap.size w w' := by
  obtain ⟨hz, rfl, hm⟩ := hz
  go_enter Try.func14, Try.ntmps14
  go_wp2_with fail
  refine (szSpanS_any _ _ _ _ _ (by omega) (by omega) hm).mono ?_
  rintro e w1 ⟨rfl, rfl⟩
  by_cases hl : (1048576 : Int) - zs.length < 0
  · rw [if_pos hl]
    go_wp2
    go_ret
    exact ⟨rfl, Below.refl _ _⟩
  · rw [if_neg hl]
    have hl' : zs.length ≤ 1048577 := by omega
    go_wp2_with fail
    refine (toSpanS_any _ _ _ _ hz hl').mono ?_
    rintro e w1 ⟨g1, cap1, rfl, ho1, hb1⟩
    have Ho1 := Lib.hid ho1
    clear ho1
    go_wp2_with fail
    refine (sSetOk_any _ _ _ _ (spans_of_owns Ho1.out rfl) hl').mono ?_
    rintro e w2 ⟨rfl, hb2⟩
    go_wp2_with fail
    have hz2 : Spans w2 A zs := (hz.below hb1).below hb2
    refine (toSpanS_any _ _ _ _ hz2 hl').mono ?_
    rintro e w3 ⟨g3, cap3, rfl, ho3, hb3⟩
    have Ho3 := Lib.hid ho3
    clear ho3
    go_wp2_with fail
    refine (SetOk_any _ _ _ _ (spans_of_owns Ho3.out rfl) hl').mono ?_
    rintro e w4 ⟨rfl, hb4⟩
    go_wp2_with fail
    have hz4 : Spans w4 A zs := (hz2.below hb3).below hb4
    refine (toSpanS_any _ _ _ _ hz4 hl').mono ?_
    rintro e w5 ⟨g5, cap5, rfl, ho5, hb5⟩
    have Ho5 := Lib.hid ho5
    clear ho5
    have hs3 : Spans w5 (some ⟨g3, 0, none⟩) zs := ((spans_of_owns Ho3.out rfl).below hb4).below hb5
    go_wp2_with fail
    refine (eqSpanS_same _ _ _ _ _ _ hs3 (spans_of_owns Ho5.out rfl) hm).mono ?_
    rintro e w6 ⟨rfl, hb6⟩
    have hB : Below w.heap.size w w6 := by
      have h1 := hb1.size
      have h2 := hb2.size
      have h3 := hb3.size
      have h4 := hb4.size
      have h5 := hb5.size
      exact ((((hb1.trans (hb2.mono h1)).trans (hb3.mono (by omega))).trans (hb4.mono (by omega))).trans (hb5.mono (by omega))).trans (hb6.mono (by omega))
    have HB := Lib.hid hB
    clear hB hb1 hb2 hb3 hb4 hb5 hb6
    go_wp2
    go_ret
    exact ⟨rfl, HB.out⟩
end Go.Proofs.Ytlbehkdhngeipaa
