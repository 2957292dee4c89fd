/-
  The walk of the exact law of SetOf.
-/
import Derived.Test.YtgclmldhdjmabaaEl
import Derived.Test.YtgclmldhdjmabaaMark
import Derived.Test.YtgclmldhdjmabaaSetOfS
import Derived.Test.YtgclmldhdjmabaaGets
namespace Go.Proofs.Ytgclmldhdjmabaa
open Go.RowKit

set_option maxRecDepth 100000 in
set_option maxHeartbeats 8000000 in
theorem FnExactSetOf_any (A0 : Option Addr) (n0 cap0 : Nat) (zs0 : List (Int × Int)) (w : World) (h0 : Spans w A0 zs0 ∧ zs0.length = n0 ∧ n0 ≤ maxLen) :
    Calls Try.prog 10 #[.slice A0 n0 cap0] w fun e w' => e = .returned (.bool true) ∧ Below w.heap.size w w' := by
  obtain ⟨hz0, rfl, hm0⟩ := h0
  have HZ0 := Lib.hid hz0
  clear hz0
  go_enter Try.func10, Try.ntmps10
  have Bw := Lib.hid (Below.refl w.heap.size w)
  go_wp2_with fail
  refine (szSpanS_any _ _ _ _ _ (by omega) (by omega) hm0).mono ?_
  rintro e w' ⟨rfl, rfl⟩
  by_cases hneg0 : (1048576 : Int) - zs0.length < 0
  · rw [if_pos hneg0]
    go_wp2
    go_ret
    exact ⟨rfl, Bw.out⟩
  · skip
    rw [if_neg hneg0]
    have hl0 : zs0.length ≤ 1048577 := by omega
    have hzl : (setOfL zs0).length ≤ 4194304 := by have := setOfL_len zs0; omega
    obtain ⟨zs, hzs⟩ : ∃ zs, setOfL zs0 = zs := ⟨_, rfl⟩
    rw [hzs] at hzl
    have HZ := Lib.hid hzs
    clear hzs
    go_wp2_with fail
    refine (toSpanS_any _ _ _ _ (HZ0.out.below Bw.out) hl0).mono ?_
    rintro e w1 ⟨As0, cs0, rfl, ho, hb⟩
    have Os0 := Lib.hid ho
    clear ho
    have zzs0 := Bw.out.size
    have Bw1 := Lib.hid (Bw.out.trans (hb.mono Bw.out.size))
    clear Bw
    clear hb
    go_wp2_with fail
    refine (sSetOf_any _ _ _ _ (owns_spans Os0.out) (by omega)).mono ?_
    rw [HZ.out]
    rintro e w2 ⟨AW0, cW0, rfl, ho, hb⟩
    have OW0 := Lib.hid ho
    clear ho
    have zzW0 := Bw1.out.size
    have as0W0 := Lib.hid (ownsApart Os0.out (Nat.le_refl _) (Nat.le_refl _) OW0.out)
    have Bw2 := Lib.hid (Bw1.out.trans (hb.mono Bw1.out.size))
    have Kw2s0 := Lib.hid (ownsKeep Os0.out hb)
    clear Os0
    clear Bw1
    clear hb
    clear Kw2s0
    go_wp2_with fail
    refine (toSpanS_any _ _ _ _ (HZ0.out.below Bw2.out) hl0).mono ?_
    rintro e w3 ⟨Ax0, cx0, rfl, ho, hb⟩
    have Ox0 := Lib.hid ho
    clear ho
    have zzx0 := Bw2.out.size
    have aW0x0 := Lib.hid (ownsApart OW0.out (Nat.le_refl _) (Nat.le_refl _) Ox0.out)
    have Bw3 := Lib.hid (Bw2.out.trans (hb.mono Bw2.out.size))
    have Kw3W0 := Lib.hid (ownsKeep OW0.out hb)
    clear OW0
    clear Bw2
    clear hb
    go_wp2_with fail
    refine (SetOf_any _ _ _ _ (owns_spans Ox0.out) (owns_block Ox0.out) (by omega)).mono ?_
    rw [HZ.out]
    rintro e w4 ⟨AG0, cG0, rfl, ho, hb⟩
    have OG0 := Lib.hid ho
    clear ho
    have zzG0 := Bw3.out.size
    have aW0G0 := Lib.hid (ownsApart Kw3W0.out (Nat.le_refl _) (Nat.le_refl _) OG0.out)
    have ax0G0 := Lib.hid (ownsApart Ox0.out (Nat.le_refl _) (Nat.le_refl _) OG0.out)
    have Bw4 := Lib.hid (Bw3.out.trans (hb.mono Bw3.out.size))
    have Kw4W0 := Lib.hid (ownsKeep Kw3W0.out hb)
    clear Kw3W0
    have Kw4x0 := Lib.hid (ownsKeep Ox0.out hb)
    clear Ox0
    clear Bw3
    clear hb
    go_wp2_with fail
    refine (eqSpanS_same _ _ _ _ _ _ (owns_spans OG0.out) (owns_spans Kw4W0.out) (by unfold maxLen; omega)).mono ?_
    rintro e w5 ⟨rfl, hb⟩
    have Bw5 := Lib.hid (Bw4.out.trans (hb.mono Bw4.out.size))
    have Kw5W0 := Lib.hid (ownsKeep Kw4W0.out hb)
    clear Kw4W0
    have Kw5x0 := Lib.hid (ownsKeep Kw4x0.out hb)
    clear Kw4x0
    have Kw5G0 := Lib.hid (ownsKeep OG0.out hb)
    clear OG0
    clear Bw4
    clear hb
    go_wp2_with fail
    refine (toSpanS_any _ _ _ _ (HZ0.out.below Bw5.out) hl0).mono ?_
    rintro e w6 ⟨Ay0, cy0, rfl, ho, hb⟩
    have Oy0 := Lib.hid ho
    clear ho
    have zzy0 := Bw5.out.size
    have aW0y0 := Lib.hid (ownsApart Kw5W0.out (Nat.le_refl _) (Nat.le_refl _) Oy0.out)
    have ax0y0 := Lib.hid (ownsApart Kw5x0.out (Nat.le_refl _) (Nat.le_refl _) Oy0.out)
    have aG0y0 := Lib.hid (ownsApart Kw5G0.out (Nat.le_refl _) (Nat.le_refl _) Oy0.out)
    have Bw6 := Lib.hid (Bw5.out.trans (hb.mono Bw5.out.size))
    have Kw6W0 := Lib.hid (ownsKeep Kw5W0.out hb)
    clear Kw5W0
    have Kw6x0 := Lib.hid (ownsKeep Kw5x0.out hb)
    clear Kw5x0
    have Kw6G0 := Lib.hid (ownsKeep Kw5G0.out hb)
    clear Kw5G0
    clear Bw5
    clear hb
    go_wp2_with fail
    refine (eqSpanS_same _ _ _ _ _ _ (owns_spans Kw6x0.out) (owns_spans Oy0.out) hm0).mono ?_
    rintro e w7 ⟨rfl, hb⟩
    have Bw7 := Lib.hid (Bw6.out.trans (hb.mono Bw6.out.size))
    have Kw7W0 := Lib.hid (ownsKeep Kw6W0.out hb)
    clear Kw6W0
    have Kw7x0 := Lib.hid (ownsKeep Kw6x0.out hb)
    clear Kw6x0
    have Kw7G0 := Lib.hid (ownsKeep Kw6G0.out hb)
    clear Kw6G0
    have Kw7y0 := Lib.hid (ownsKeep Oy0.out hb)
    clear Oy0
    clear Bw6
    clear hb
    clear Kw7y0
    go_wp2_with fail
    refine (mark_any _ _ zs0 1 _ Kw7x0.out (by omega) (by omega) (by omega)).mono ?_
    rintro e w8 ⟨rfl, hmk, hg⟩
    have Bw8 := Lib.hid (Bw7.out.grown hg Bw7.out.size (fun k e => by have := (Kw7x0.out.lt k e).1; have := zzx0; omega))
    have Kw8W0 := Lib.hid (Kw7W0.out.kept hg aW0x0.out)
    clear Kw7W0
    have Kw8G0 := Lib.hid (Kw7G0.out.kept hg (apSym ax0G0.out))
    clear Kw7G0
    clear Kw7x0
    clear hmk hg Bw7
    have hk : decide (1 + 2 * (zs0.length : Int) < 0) = false := decide_eq_false (by omega)
    go_wp2_with fail
    refine (eqSpanS_same _ _ _ _ _ _ (owns_spans Kw8G0.out) (owns_spans Kw8W0.out) (by unfold maxLen; omega)).mono ?_
    rintro e w9 ⟨rfl, hb⟩
    have Bw9 := Lib.hid (Bw8.out.trans (hb.mono Bw8.out.size))
    have Kw9W0 := Lib.hid (ownsKeep Kw8W0.out hb)
    clear Kw8W0
    have Kw9G0 := Lib.hid (ownsKeep Kw8G0.out hb)
    clear Kw8G0
    clear Bw8
    clear hb
    go_wp2_with fail
    refine (mark_any _ _ zs 1 _ Kw9G0.out (by omega) (by omega) (by omega)).mono ?_
    rintro e w10 ⟨rfl, hmk, hg⟩
    have Bw10 := Lib.hid (Bw9.out.grown hg Bw9.out.size (fun k e => by have := (Kw9G0.out.lt k e).1; have := zzG0; omega))
    have Kw10W0 := Lib.hid (Kw9W0.out.kept hg aW0G0.out)
    clear Kw9W0
    have MG0 := Lib.hid (show w10.ownsRow _ 32 2 (.slice AG0 (markL 1 zs.length).length cG0) (markL 1 zs.length).length (flat (markL 1 zs.length)) from by rw [markL_length]; exact hmk)
    clear Kw9G0
    clear hmk hg Bw9
    go_wp2_with fail
    refine (held_any _ zs.length _ 1 _ (owns_spans MG0.out) (by omega) (by omega) (by omega)).mono ?_
    rintro e w11 ⟨rfl, rfl⟩
    have hq : decide (1 + 2 * (zs.length : Int) < 0) = false := decide_eq_false (by omega)
    go_wp2_with fail
    refine (toSpanS_any _ _ _ _ (HZ0.out.below Bw10.out) hl0).mono ?_
    rintro e w12 ⟨Az0, cz0, rfl, ho, hb⟩
    have Oz0 := Lib.hid ho
    clear ho
    have zzz0 := Bw10.out.size
    have aW0z0 := Lib.hid (ownsApart Kw10W0.out (Nat.le_refl _) (Nat.le_refl _) Oz0.out)
    have aG0z0 := Lib.hid (ownsApart MG0.out (Nat.le_refl _) (Nat.le_refl _) Oz0.out)
    have Bw12 := Lib.hid (Bw10.out.trans (hb.mono Bw10.out.size))
    have Kw12W0 := Lib.hid (ownsKeep Kw10W0.out hb)
    clear Kw10W0
    have Kw12G0 := Lib.hid (ownsKeep MG0.out hb)
    clear MG0
    clear Bw10
    clear hb
    go_wp2_with fail
    refine (SetOf_any _ _ _ _ (owns_spans Oz0.out) (owns_block Oz0.out) (by omega)).mono ?_
    rw [HZ.out]
    rintro e w13 ⟨AH0, cH0, rfl, ho, hb⟩
    have OH0 := Lib.hid ho
    clear ho
    have zzH0 := Bw12.out.size
    have aW0H0 := Lib.hid (ownsApart Kw12W0.out (Nat.le_refl _) (Nat.le_refl _) OH0.out)
    have aG0H0 := Lib.hid (ownsApart Kw12G0.out (Nat.le_refl _) (Nat.le_refl _) OH0.out)
    have az0H0 := Lib.hid (ownsApart Oz0.out (Nat.le_refl _) (Nat.le_refl _) OH0.out)
    have Bw13 := Lib.hid (Bw12.out.trans (hb.mono Bw12.out.size))
    have Kw13W0 := Lib.hid (ownsKeep Kw12W0.out hb)
    clear Kw12W0
    have Kw13G0 := Lib.hid (ownsKeep Kw12G0.out hb)
    clear Kw12G0
    have Kw13z0 := Lib.hid (ownsKeep Oz0.out hb)
    clear Oz0
    clear Bw12
    clear hb
    clear Kw13z0
    go_wp2_with fail
    refine (eqSpanS_same _ _ _ _ _ _ (owns_spans OH0.out) (owns_spans Kw13W0.out) (by unfold maxLen; omega)).mono ?_
    rintro e w14 ⟨rfl, hb⟩
    have Bw14 := Lib.hid (Bw13.out.trans (hb.mono Bw13.out.size))
    have Kw14W0 := Lib.hid (ownsKeep Kw13W0.out hb)
    clear Kw13W0
    have Kw14G0 := Lib.hid (ownsKeep Kw13G0.out hb)
    clear Kw13G0
    have Kw14H0 := Lib.hid (ownsKeep OH0.out hb)
    clear OH0
    clear Bw13
    clear hb
    go_wp2_with fail
    refine (held_any _ zs.length _ 1 _ (owns_spans Kw14G0.out) (by omega) (by omega) (by omega)).mono ?_
    rintro e w15 ⟨rfl, rfl⟩
    go_wp2
    go_ret
    exact ⟨rfl, Bw14.out⟩
end Go.Proofs.Ytgclmldhdjmabaa
