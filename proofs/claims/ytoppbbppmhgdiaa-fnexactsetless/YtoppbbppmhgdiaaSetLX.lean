/-
  The walk of the exact law of SetLess.
-/
import Derived.Test.YtoppbbppmhgdiaaEl
import Derived.Test.YtoppbbppmhgdiaaMark
import Derived.Test.YtoppbbppmhgdiaaSetLS
import Derived.Test.YtoppbbppmhgdiaaGets
namespace Go.Proofs.Ytoppbbppmhgdiaa
open Go.RowKit

set_option maxRecDepth 100000 in
set_option maxHeartbeats 8000000 in
theorem FnExactSetLess_any (A0 : Option Addr) (n0 cap0 : Nat) (zs0 : List (Int × Int)) (A1 : Option Addr) (n1 cap1 : Nat) (zs1 : List (Int × Int)) (w : World) (h0 : Spans w A0 zs0 ∧ zs0.length = n0 ∧ n0 ≤ maxLen) (h1 : Spans w A1 zs1 ∧ zs1.length = n1 ∧ n1 ≤ maxLen) :
    Calls Try.prog 8 #[.slice A0 n0 cap0, .slice A1 n1 cap1] w fun e w' => e = .returned (.bool true) ∧ Below w.heap.size w w' := by
  obtain ⟨hz0, rfl, hm0⟩ := h0
  have HZ0 := Lib.hid hz0
  clear hz0
  obtain ⟨hz1, rfl, hm1⟩ := h1
  have HZ1 := Lib.hid hz1
  clear hz1
  go_enter Try.func8, Try.ntmps8
  have Bw := Lib.hid (Below.refl w.heap.size w)
  go_wp2_with fail
  refine (szSpanS_any _ _ _ _ _ (by omega) (by omega) hm0).mono ?_
  rintro e w' ⟨rfl, rfl⟩
  by_cases hneg0 : (1048576 : Int) - zs0.length < 0
  · rw [if_pos hneg0]
    go_wp2
    go_ret
    exact ⟨rfl, Bw.out⟩
  · skip
    rw [if_neg hneg0]
    have hl0 : zs0.length ≤ 1048577 := by omega
    go_wp2_with fail
    refine (szSpanS_any _ _ _ _ _ (by omega) (by omega) hm1).mono ?_
    rintro e w' ⟨rfl, rfl⟩
    by_cases hneg1 : (1048576 : Int) - zs0.length - zs1.length < 0
    · rw [if_pos hneg1]
      go_wp2
      go_ret
      exact ⟨rfl, Bw.out⟩
    · skip
      rw [if_neg hneg1]
      have hl1 : zs1.length ≤ 1048577 := by omega
      have hzl : (setLessL zs0 zs1).length ≤ 4194304 := by have := setLessL_len zs0 zs1; omega
      obtain ⟨zs, hzs⟩ : ∃ zs, setLessL zs0 zs1 = zs := ⟨_, rfl⟩
      rw [hzs] at hzl
      have HZ := Lib.hid hzs
      clear hzs
      go_wp2_with fail
      refine (toSpanS_any _ _ _ _ (HZ0.out.below Bw.out) hl0).mono ?_
      rintro e w1 ⟨As0, cs0, rfl, ho, hb⟩
      have Os0 := Lib.hid ho
      clear ho
      have zzs0 := Bw.out.size
      have Bw1 := Lib.hid (Bw.out.trans (hb.mono Bw.out.size))
      clear Bw
      clear hb
      go_wp2_with fail
      refine (toSpanS_any _ _ _ _ (HZ1.out.below Bw1.out) hl1).mono ?_
      rintro e w2 ⟨As1, cs1, rfl, ho, hb⟩
      have Os1 := Lib.hid ho
      clear ho
      have zzs1 := Bw1.out.size
      have as0s1 := Lib.hid (ownsApart Os0.out (Nat.le_refl _) (Nat.le_refl _) Os1.out)
      have Bw2 := Lib.hid (Bw1.out.trans (hb.mono Bw1.out.size))
      have Kw2s0 := Lib.hid (ownsKeep Os0.out hb)
      clear Os0
      clear Bw1
      clear hb
      go_wp2_with fail
      refine (sSetLess_any _ _ _ _ _ _ _ _ (owns_spans Kw2s0.out) (owns_spans Os1.out) ((owns_block Kw2s0.out) _ _ rfl) hl0 hl1).mono ?_
      rw [HZ.out]
      rintro e w3 ⟨AW0, cW0, rfl, ho, hb⟩
      have OW0 := Lib.hid ho
      clear ho
      have zzW0 := Bw2.out.size
      have as0W0 := Lib.hid (ownsApart Kw2s0.out (Nat.le_refl _) (Nat.le_refl _) OW0.out)
      have as1W0 := Lib.hid (ownsApart Os1.out (Nat.le_refl _) (Nat.le_refl _) OW0.out)
      have Bw3 := Lib.hid (Bw2.out.trans (hb.mono Bw2.out.size))
      have Kw3s0 := Lib.hid (ownsKeep Kw2s0.out hb)
      clear Kw2s0
      have Kw3s1 := Lib.hid (ownsKeep Os1.out hb)
      clear Os1
      clear Bw2
      clear hb
      clear Kw3s0
      clear Kw3s1
      go_wp2_with fail
      refine (toSpanS_any _ _ _ _ (HZ0.out.below Bw3.out) hl0).mono ?_
      rintro e w4 ⟨Ax0, cx0, rfl, ho, hb⟩
      have Ox0 := Lib.hid ho
      clear ho
      have zzx0 := Bw3.out.size
      have aW0x0 := Lib.hid (ownsApart OW0.out (Nat.le_refl _) (Nat.le_refl _) Ox0.out)
      have Bw4 := Lib.hid (Bw3.out.trans (hb.mono Bw3.out.size))
      have Kw4W0 := Lib.hid (ownsKeep OW0.out hb)
      clear OW0
      clear Bw3
      clear hb
      go_wp2_with fail
      refine (toSpanS_any _ _ _ _ (HZ1.out.below Bw4.out) hl1).mono ?_
      rintro e w5 ⟨Ax1, cx1, rfl, ho, hb⟩
      have Ox1 := Lib.hid ho
      clear ho
      have zzx1 := Bw4.out.size
      have aW0x1 := Lib.hid (ownsApart Kw4W0.out (Nat.le_refl _) (Nat.le_refl _) Ox1.out)
      have ax0x1 := Lib.hid (ownsApart Ox0.out (Nat.le_refl _) (Nat.le_refl _) Ox1.out)
      have Bw5 := Lib.hid (Bw4.out.trans (hb.mono Bw4.out.size))
      have Kw5W0 := Lib.hid (ownsKeep Kw4W0.out hb)
      clear Kw4W0
      have Kw5x0 := Lib.hid (ownsKeep Ox0.out hb)
      clear Ox0
      clear Bw4
      clear hb
      go_wp2_with fail
      refine (SetLess_gets _ _ _ _ _ _ _ (owns_spans Kw5x0.out) (owns_spans Ox1.out) (owns_block Kw5x0.out) (owns_block Ox1.out) hl0 hl1).mono ?_
      rw [HZ.out]
      rintro e w6 ⟨AG0, cG0, rfl, ho, hb⟩
      have OG0 := Lib.hid ho
      clear ho
      have zzG0 := Bw5.out.size
      have aW0G0 := Lib.hid (ownsApart Kw5W0.out (Nat.le_refl _) (Nat.le_refl _) OG0.out)
      have ax0G0 := Lib.hid (ownsApart Kw5x0.out (Nat.le_refl _) (Nat.le_refl _) OG0.out)
      have ax1G0 := Lib.hid (ownsApart Ox1.out (Nat.le_refl _) (Nat.le_refl _) OG0.out)
      have Bw6 := Lib.hid (Bw5.out.trans (hb.mono Bw5.out.size))
      have Kw6W0 := Lib.hid (ownsKeep Kw5W0.out hb)
      clear Kw5W0
      have Kw6x0 := Lib.hid (ownsKeep Kw5x0.out hb)
      clear Kw5x0
      have Kw6x1 := Lib.hid (ownsKeep Ox1.out hb)
      clear Ox1
      clear Bw5
      clear hb
      go_wp2_with fail
      refine (eqSpanS_same _ _ _ _ _ _ (owns_spans OG0.out) (owns_spans Kw6W0.out) (by unfold maxLen; omega)).mono ?_
      rintro e w7 ⟨rfl, hb⟩
      have Bw7 := Lib.hid (Bw6.out.trans (hb.mono Bw6.out.size))
      have Kw7W0 := Lib.hid (ownsKeep Kw6W0.out hb)
      clear Kw6W0
      have Kw7x0 := Lib.hid (ownsKeep Kw6x0.out hb)
      clear Kw6x0
      have Kw7x1 := Lib.hid (ownsKeep Kw6x1.out hb)
      clear Kw6x1
      have Kw7G0 := Lib.hid (ownsKeep OG0.out hb)
      clear OG0
      clear Bw6
      clear hb
      go_wp2_with fail
      refine (toSpanS_any _ _ _ _ (HZ0.out.below Bw7.out) hl0).mono ?_
      rintro e w8 ⟨Ay0, cy0, rfl, ho, hb⟩
      have Oy0 := Lib.hid ho
      clear ho
      have zzy0 := Bw7.out.size
      have aW0y0 := Lib.hid (ownsApart Kw7W0.out (Nat.le_refl _) (Nat.le_refl _) Oy0.out)
      have ax0y0 := Lib.hid (ownsApart Kw7x0.out (Nat.le_refl _) (Nat.le_refl _) Oy0.out)
      have ax1y0 := Lib.hid (ownsApart Kw7x1.out (Nat.le_refl _) (Nat.le_refl _) Oy0.out)
      have aG0y0 := Lib.hid (ownsApart Kw7G0.out (Nat.le_refl _) (Nat.le_refl _) Oy0.out)
      have Bw8 := Lib.hid (Bw7.out.trans (hb.mono Bw7.out.size))
      have Kw8W0 := Lib.hid (ownsKeep Kw7W0.out hb)
      clear Kw7W0
      have Kw8x0 := Lib.hid (ownsKeep Kw7x0.out hb)
      clear Kw7x0
      have Kw8x1 := Lib.hid (ownsKeep Kw7x1.out hb)
      clear Kw7x1
      have Kw8G0 := Lib.hid (ownsKeep Kw7G0.out hb)
      clear Kw7G0
      clear Bw7
      clear hb
      go_wp2_with fail
      refine (eqSpanS_same _ _ _ _ _ _ (owns_spans Kw8x0.out) (owns_spans Oy0.out) hm0).mono ?_
      rintro e w9 ⟨rfl, hb⟩
      have Bw9 := Lib.hid (Bw8.out.trans (hb.mono Bw8.out.size))
      have Kw9W0 := Lib.hid (ownsKeep Kw8W0.out hb)
      clear Kw8W0
      have Kw9x0 := Lib.hid (ownsKeep Kw8x0.out hb)
      clear Kw8x0
      have Kw9x1 := Lib.hid (ownsKeep Kw8x1.out hb)
      clear Kw8x1
      have Kw9G0 := Lib.hid (ownsKeep Kw8G0.out hb)
      clear Kw8G0
      have Kw9y0 := Lib.hid (ownsKeep Oy0.out hb)
      clear Oy0
      clear Bw8
      clear hb
      clear Kw9y0
      go_wp2_with fail
      refine (toSpanS_any _ _ _ _ (HZ1.out.below Bw9.out) hl1).mono ?_
      rintro e w10 ⟨Ay1, cy1, rfl, ho, hb⟩
      have Oy1 := Lib.hid ho
      clear ho
      have zzy1 := Bw9.out.size
      have aW0y1 := Lib.hid (ownsApart Kw9W0.out (Nat.le_refl _) (Nat.le_refl _) Oy1.out)
      have ax0y1 := Lib.hid (ownsApart Kw9x0.out (Nat.le_refl _) (Nat.le_refl _) Oy1.out)
      have ax1y1 := Lib.hid (ownsApart Kw9x1.out (Nat.le_refl _) (Nat.le_refl _) Oy1.out)
      have aG0y1 := Lib.hid (ownsApart Kw9G0.out (Nat.le_refl _) (Nat.le_refl _) Oy1.out)
      have Bw10 := Lib.hid (Bw9.out.trans (hb.mono Bw9.out.size))
      have Kw10W0 := Lib.hid (ownsKeep Kw9W0.out hb)
      clear Kw9W0
      have Kw10x0 := Lib.hid (ownsKeep Kw9x0.out hb)
      clear Kw9x0
      have Kw10x1 := Lib.hid (ownsKeep Kw9x1.out hb)
      clear Kw9x1
      have Kw10G0 := Lib.hid (ownsKeep Kw9G0.out hb)
      clear Kw9G0
      clear Bw9
      clear hb
      go_wp2_with fail
      refine (eqSpanS_same _ _ _ _ _ _ (owns_spans Kw10x1.out) (owns_spans Oy1.out) hm1).mono ?_
      rintro e w11 ⟨rfl, hb⟩
      have Bw11 := Lib.hid (Bw10.out.trans (hb.mono Bw10.out.size))
      have Kw11W0 := Lib.hid (ownsKeep Kw10W0.out hb)
      clear Kw10W0
      have Kw11x0 := Lib.hid (ownsKeep Kw10x0.out hb)
      clear Kw10x0
      have Kw11x1 := Lib.hid (ownsKeep Kw10x1.out hb)
      clear Kw10x1
      have Kw11G0 := Lib.hid (ownsKeep Kw10G0.out hb)
      clear Kw10G0
      have Kw11y1 := Lib.hid (ownsKeep Oy1.out hb)
      clear Oy1
      clear Bw10
      clear hb
      clear Kw11y1
      go_wp2_with fail
      refine (mark_any _ _ zs0 1 _ Kw11x0.out (by omega) (by omega) (by omega)).mono ?_
      rintro e w12 ⟨rfl, hmk, hg⟩
      have Bw12 := Lib.hid (Bw11.out.grown hg Bw11.out.size (fun k e => by have := (Kw11x0.out.lt k e).1; have := zzx0; omega))
      have Kw12W0 := Lib.hid (Kw11W0.out.kept hg aW0x0.out)
      clear Kw11W0
      have Kw12x1 := Lib.hid (Kw11x1.out.kept hg (apSym ax0x1.out))
      clear Kw11x1
      have Kw12G0 := Lib.hid (Kw11G0.out.kept hg (apSym ax0G0.out))
      clear Kw11G0
      clear Kw11x0
      clear hmk hg Bw11
      go_wp2_with fail
      refine (mark_any _ _ zs1 _ _ Kw12x1.out (by omega) (by omega) (by omega)).mono ?_
      rintro e w13 ⟨rfl, hmk, hg⟩
      have Bw13 := Lib.hid (Bw12.out.grown hg Bw12.out.size (fun k e => by have := (Kw12x1.out.lt k e).1; have := zzx1; omega))
      have Kw13W0 := Lib.hid (Kw12W0.out.kept hg aW0x1.out)
      clear Kw12W0
      have Kw13G0 := Lib.hid (Kw12G0.out.kept hg (apSym ax1G0.out))
      clear Kw12G0
      clear Kw12x1
      clear hmk hg Bw12
      have hk : decide (1 + 2 * (zs0.length : Int) + 2 * (zs1.length : Int) < 0) = false := decide_eq_false (by omega)
      go_wp2_with fail
      refine (eqSpanS_same _ _ _ _ _ _ (owns_spans Kw13G0.out) (owns_spans Kw13W0.out) (by unfold maxLen; omega)).mono ?_
      rintro e w14 ⟨rfl, hb⟩
      have Bw14 := Lib.hid (Bw13.out.trans (hb.mono Bw13.out.size))
      have Kw14W0 := Lib.hid (ownsKeep Kw13W0.out hb)
      clear Kw13W0
      have Kw14G0 := Lib.hid (ownsKeep Kw13G0.out hb)
      clear Kw13G0
      clear Bw13
      clear hb
      go_wp2_with fail
      refine (mark_any _ _ zs 1 _ Kw14G0.out (by omega) (by omega) (by omega)).mono ?_
      rintro e w15 ⟨rfl, hmk, hg⟩
      have Bw15 := Lib.hid (Bw14.out.grown hg Bw14.out.size (fun k e => by have := (Kw14G0.out.lt k e).1; have := zzG0; omega))
      have Kw15W0 := Lib.hid (Kw14W0.out.kept hg aW0G0.out)
      clear Kw14W0
      have MG0 := Lib.hid (show w15.ownsRow _ 28 2 (.slice AG0 (markL 1 zs.length).length cG0) (markL 1 zs.length).length (flat (markL 1 zs.length)) from by rw [markL_length]; exact hmk)
      clear Kw14G0
      clear hmk hg Bw14
      go_wp2_with fail
      refine (held_any _ zs.length _ 1 _ (owns_spans MG0.out) (by omega) (by omega) (by omega)).mono ?_
      rintro e w16 ⟨rfl, rfl⟩
      have hq : decide (1 + 2 * (zs.length : Int) < 0) = false := decide_eq_false (by omega)
      go_wp2_with fail
      refine (toSpanS_any _ _ _ _ (HZ0.out.below Bw15.out) hl0).mono ?_
      rintro e w17 ⟨Az0, cz0, rfl, ho, hb⟩
      have Oz0 := Lib.hid ho
      clear ho
      have zzz0 := Bw15.out.size
      have aW0z0 := Lib.hid (ownsApart Kw15W0.out (Nat.le_refl _) (Nat.le_refl _) Oz0.out)
      have aG0z0 := Lib.hid (ownsApart MG0.out (Nat.le_refl _) (Nat.le_refl _) Oz0.out)
      have Bw17 := Lib.hid (Bw15.out.trans (hb.mono Bw15.out.size))
      have Kw17W0 := Lib.hid (ownsKeep Kw15W0.out hb)
      clear Kw15W0
      have Kw17G0 := Lib.hid (ownsKeep MG0.out hb)
      clear MG0
      clear Bw15
      clear hb
      go_wp2_with fail
      refine (toSpanS_any _ _ _ _ (HZ1.out.below Bw17.out) hl1).mono ?_
      rintro e w18 ⟨Az1, cz1, rfl, ho, hb⟩
      have Oz1 := Lib.hid ho
      clear ho
      have zzz1 := Bw17.out.size
      have aW0z1 := Lib.hid (ownsApart Kw17W0.out (Nat.le_refl _) (Nat.le_refl _) Oz1.out)
      have aG0z1 := Lib.hid (ownsApart Kw17G0.out (Nat.le_refl _) (Nat.le_refl _) Oz1.out)
      have az0z1 := Lib.hid (ownsApart Oz0.out (Nat.le_refl _) (Nat.le_refl _) Oz1.out)
      have Bw18 := Lib.hid (Bw17.out.trans (hb.mono Bw17.out.size))
      have Kw18W0 := Lib.hid (ownsKeep Kw17W0.out hb)
      clear Kw17W0
      have Kw18G0 := Lib.hid (ownsKeep Kw17G0.out hb)
      clear Kw17G0
      have Kw18z0 := Lib.hid (ownsKeep Oz0.out hb)
      clear Oz0
      clear Bw17
      clear hb
      go_wp2_with fail
      refine (SetLess_gets _ _ _ _ _ _ _ (owns_spans Kw18z0.out) (owns_spans Oz1.out) (owns_block Kw18z0.out) (owns_block Oz1.out) hl0 hl1).mono ?_
      rw [HZ.out]
      rintro e w19 ⟨AH0, cH0, rfl, ho, hb⟩
      have OH0 := Lib.hid ho
      clear ho
      have zzH0 := Bw18.out.size
      have aW0H0 := Lib.hid (ownsApart Kw18W0.out (Nat.le_refl _) (Nat.le_refl _) OH0.out)
      have aG0H0 := Lib.hid (ownsApart Kw18G0.out (Nat.le_refl _) (Nat.le_refl _) OH0.out)
      have az0H0 := Lib.hid (ownsApart Kw18z0.out (Nat.le_refl _) (Nat.le_refl _) OH0.out)
      have az1H0 := Lib.hid (ownsApart Oz1.out (Nat.le_refl _) (Nat.le_refl _) OH0.out)
      have Bw19 := Lib.hid (Bw18.out.trans (hb.mono Bw18.out.size))
      have Kw19W0 := Lib.hid (ownsKeep Kw18W0.out hb)
      clear Kw18W0
      have Kw19G0 := Lib.hid (ownsKeep Kw18G0.out hb)
      clear Kw18G0
      have Kw19z0 := Lib.hid (ownsKeep Kw18z0.out hb)
      clear Kw18z0
      have Kw19z1 := Lib.hid (ownsKeep Oz1.out hb)
      clear Oz1
      clear Bw18
      clear hb
      clear Kw19z0
      clear Kw19z1
      go_wp2_with fail
      refine (eqSpanS_same _ _ _ _ _ _ (owns_spans OH0.out) (owns_spans Kw19W0.out) (by unfold maxLen; omega)).mono ?_
      rintro e w20 ⟨rfl, hb⟩
      have Bw20 := Lib.hid (Bw19.out.trans (hb.mono Bw19.out.size))
      have Kw20W0 := Lib.hid (ownsKeep Kw19W0.out hb)
      clear Kw19W0
      have Kw20G0 := Lib.hid (ownsKeep Kw19G0.out hb)
      clear Kw19G0
      have Kw20H0 := Lib.hid (ownsKeep OH0.out hb)
      clear OH0
      clear Bw19
      clear hb
      go_wp2_with fail
      refine (held_any _ zs.length _ 1 _ (owns_spans Kw20G0.out) (by omega) (by omega) (by omega)).mono ?_
      rintro e w21 ⟨rfl, rfl⟩
      go_wp2
      go_ret
      exact ⟨rfl, Bw20.out⟩
end Go.Proofs.Ytoppbbppmhgdiaa
