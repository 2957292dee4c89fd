/-
  The walk of the exact law of RelBoth.
-/
import Derived.Test.YtjopilcpmmfclaaRowM
import Derived.Test.YtjopilcpmmfclaaCombN
namespace Go.Proofs.Ytjopilcpmmfclaa
open Go.RowKit Go.Lib

set_option maxRecDepth 100000 in
set_option maxHeartbeats 8000000 in
theorem FnExactRelBoth_any (A0 : Option Addr) (n0 cap0 : Nat) (zs0 : List RowV) (A1 : Option Addr) (n1 cap1 : Nat) (zs1 : List RowV) (w : World) (h0 : RowsA w A0 zs0 ∧ zs0.length = n0 ∧ n0 ≤ maxLen ∧ ∀ r ∈ zs0, r.k.size ≤ maxLen ∧ r.t.size ≤ maxLen) (h1 : RowsA w A1 zs1 ∧ zs1.length = n1 ∧ n1 ≤ maxLen ∧ ∀ r ∈ zs1, r.k.size ≤ maxLen ∧ r.t.size ≤ maxLen) :
    Calls Try.prog 5 #[.slice A0 n0 cap0, .slice A1 n1 cap1] w fun e w' => e = .returned (.bool true) ∧ Below w.heap.size w w' := by
  obtain ⟨hz0, rfl, hm0, hs0⟩ := h0
  have HZ0 := Lib.hid hz0
  clear hz0
  have HS0 := Lib.hid hs0
  clear hs0
  obtain ⟨hz1, rfl, hm1, hs1⟩ := h1
  have HZ1 := Lib.hid hz1
  clear hz1
  have HS1 := Lib.hid hs1
  clear hs1
  go_enter Try.func5, Try.ntmps5
  have Bw := Lib.hid (Below.refl w.heap.size w)
  go_wp2_with fail
  refine (szRowS_any _ _ _ _ _ (by omega) (by omega) (HZ0.out.below Bw.out) hm0 HS0.out).mono ?_
  rintro e w1 ⟨v0, rfl, hv0, hb⟩
  have Bw1 := Lib.hid (Bw.out.trans (hb.mono Bw.out.size))
  clear hb Bw
  rcases hv0 with rfl | ⟨hv00, hv01, hv02⟩
  · go_wp2
    go_ret
    exact ⟨rfl, Bw1.out⟩
  · skip
    have hl0 : zs0.length ≤ 1048577 := by omega
    have hd0 : decide (v0 < 0) = false := decide_eq_false (by omega)
    go_wp2_with fail
    refine (szRowS_any _ _ _ _ _ (by omega) (by omega) (HZ1.out.below Bw1.out) hm1 HS1.out).mono ?_
    rintro e w2 ⟨v1, rfl, hv1, hb⟩
    have Bw2 := Lib.hid (Bw1.out.trans (hb.mono Bw1.out.size))
    clear hb Bw1
    rcases hv1 with rfl | ⟨hv10, hv11, hv12⟩
    · go_wp2
      go_ret
      exact ⟨rfl, Bw2.out⟩
    · skip
      have hl1 : zs1.length ≤ 1048577 := by omega
      have hd1 : decide (v1 < 0) = false := decide_eq_false (by omega)
      have hzl : (relBothS zs0 zs1).1.length ≤ 4194304 := Nat.le_trans (relBothS_len ..) (by omega)
      obtain ⟨pz, hzs⟩ : ∃ pz, relBothS zs0 zs1 = pz := ⟨_, rfl⟩
      rw [hzs] at hzl
      have HZ := Lib.hid hzs
      clear hzs
      obtain ⟨zs, zb⟩ := pz
      replace hzl : zs.length ≤ 4194304 := hzl
      go_wp2_with fail
      refine (toRowS_any _ _ _ _ (HZ0.out.below Bw2.out) hl0).mono ?_
      rintro e w3 ⟨As0, cs0, rfl, ho, hb⟩
      have Os0 := Lib.hid ho
      clear ho
      have zzs0 := Bw2.out.size
      have Bw3 := Lib.hid (Bw2.out.trans (hb.mono Bw2.out.size))
      clear Bw2
      clear hb
      go_wp2_with fail
      refine (toRowS_any _ _ _ _ (HZ1.out.below Bw3.out) hl1).mono ?_
      rintro e w4 ⟨As1, cs1, rfl, ho, hb⟩
      have Os1 := Lib.hid ho
      clear ho
      have zzs1 := Bw3.out.size
      have as0s1 := Lib.hid (ownsApart Os0.out (Nat.le_refl _) (Nat.le_refl _) Os1.out)
      have Bw4 := Lib.hid (Bw3.out.trans (hb.mono Bw3.out.size))
      have Kw4s0 := Lib.hid (ownsKeep Os0.out hb)
      clear Os0
      clear Bw3
      clear hb
      go_wp2_with fail
      refine (sRelBoth_any _ _ _ _ zs0 zs1 _ (el_of_owns rowC_len Kw4s0.out) (el_of_owns rowC_len Os1.out) (owns_nilcap Kw4s0.out) (owns_nilcap Os1.out) hl0 hl1 HS0.out HS1.out).mono ?_
      rw [HZ.out]
      rintro e w5 ⟨AW0, cW0, rfl, ho, hb⟩
      have OW0 := Lib.hid (show w5.ownsRow _ 60 4 (.slice AW0 zs.length cW0) zs.length (flatOf rowC zs) from ho)
      clear ho
      have zzW0 := Bw4.out.size
      have as0W0 := Lib.hid (ownsApart Kw4s0.out (Nat.le_refl _) (Nat.le_refl _) OW0.out)
      have as1W0 := Lib.hid (ownsApart Os1.out (Nat.le_refl _) (Nat.le_refl _) OW0.out)
      have Bw5 := Lib.hid (Bw4.out.trans (hb.mono Bw4.out.size))
      have Kw5s0 := Lib.hid (ownsKeep Kw4s0.out hb)
      clear Kw4s0
      have Kw5s1 := Lib.hid (ownsKeep Os1.out hb)
      clear Os1
      clear Bw4
      clear hb
      clear Kw5s0
      clear Kw5s1
      go_wp2_with fail
      refine (toRowS_any _ _ _ _ (HZ0.out.below Bw5.out) hl0).mono ?_
      rintro e w6 ⟨Ax0, cx0, rfl, ho, hb⟩
      have Ox0 := Lib.hid ho
      clear ho
      have zzx0 := Bw5.out.size
      have aW0x0 := Lib.hid (ownsApart OW0.out (Nat.le_refl _) (Nat.le_refl _) Ox0.out)
      have Bw6 := Lib.hid (Bw5.out.trans (hb.mono Bw5.out.size))
      have Kw6W0 := Lib.hid (ownsKeep OW0.out hb)
      clear OW0
      clear Bw5
      clear hb
      go_wp2_with fail
      refine (toRowS_any _ _ _ _ (HZ1.out.below Bw6.out) hl1).mono ?_
      rintro e w7 ⟨Ax1, cx1, rfl, ho, hb⟩
      have Ox1 := Lib.hid ho
      clear ho
      have zzx1 := Bw6.out.size
      have aW0x1 := Lib.hid (ownsApart Kw6W0.out (Nat.le_refl _) (Nat.le_refl _) Ox1.out)
      have ax0x1 := Lib.hid (ownsApart Ox0.out (Nat.le_refl _) (Nat.le_refl _) Ox1.out)
      have Bw7 := Lib.hid (Bw6.out.trans (hb.mono Bw6.out.size))
      have Kw7W0 := Lib.hid (ownsKeep Kw6W0.out hb)
      clear Kw6W0
      have Kw7x0 := Lib.hid (ownsKeep Ox0.out hb)
      clear Ox0
      clear Bw6
      clear hb
      go_wp2_with fail
      refine (RelBoth_any _ _ _ _ zs0 zs1 _ (el_of_owns rowC_len Kw7x0.out) (el_of_owns rowC_len Ox1.out) (owns_nilcap Kw7x0.out) (owns_nilcap Ox1.out) hl0 hl1 HS0.out HS1.out).mono ?_
      rw [HZ.out]
      rintro e w8 ⟨AG0, cG0, rfl, ho, hb⟩
      have OG0 := Lib.hid (show w8.ownsRow _ 60 4 (.slice AG0 zs.length cG0) zs.length (flatOf rowC zs) from ho)
      clear ho
      have zzG0 := Bw7.out.size
      have aW0G0 := Lib.hid (ownsApart Kw7W0.out (Nat.le_refl _) (Nat.le_refl _) OG0.out)
      have ax0G0 := Lib.hid (ownsApart Kw7x0.out (Nat.le_refl _) (Nat.le_refl _) OG0.out)
      have ax1G0 := Lib.hid (ownsApart Ox1.out (Nat.le_refl _) (Nat.le_refl _) OG0.out)
      have Bw8 := Lib.hid (Bw7.out.trans (hb.mono Bw7.out.size))
      have Kw8W0 := Lib.hid (ownsKeep Kw7W0.out hb)
      clear Kw7W0
      have Kw8x0 := Lib.hid (ownsKeep Kw7x0.out hb)
      clear Kw7x0
      have Kw8x1 := Lib.hid (ownsKeep Ox1.out hb)
      clear Ox1
      clear Bw7
      clear hb
      go_wp2_with fail
      refine (eqRowS_same _ _ _ _ _ _ (el_of_owns rowC_len OG0.out) (el_of_owns rowC_len Kw8W0.out) (by unfold maxLen; omega)).mono ?_
      rintro e w9 ⟨rfl, hb⟩
      have Bw9 := Lib.hid (Bw8.out.trans (hb.mono Bw8.out.size))
      have Kw9W0 := Lib.hid (ownsKeep Kw8W0.out hb)
      clear Kw8W0
      have Kw9x0 := Lib.hid (ownsKeep Kw8x0.out hb)
      clear Kw8x0
      have Kw9x1 := Lib.hid (ownsKeep Kw8x1.out hb)
      clear Kw8x1
      have Kw9G0 := Lib.hid (ownsKeep OG0.out hb)
      clear OG0
      clear Bw8
      clear hb
      go_wp2_with fail
      refine (toRowS_any _ _ _ _ (HZ0.out.below Bw9.out) hl0).mono ?_
      rintro e w10 ⟨Ay0, cy0, rfl, ho, hb⟩
      have Oy0 := Lib.hid ho
      clear ho
      have zzy0 := Bw9.out.size
      have aW0y0 := Lib.hid (ownsApart Kw9W0.out (Nat.le_refl _) (Nat.le_refl _) Oy0.out)
      have ax0y0 := Lib.hid (ownsApart Kw9x0.out (Nat.le_refl _) (Nat.le_refl _) Oy0.out)
      have ax1y0 := Lib.hid (ownsApart Kw9x1.out (Nat.le_refl _) (Nat.le_refl _) Oy0.out)
      have aG0y0 := Lib.hid (ownsApart Kw9G0.out (Nat.le_refl _) (Nat.le_refl _) Oy0.out)
      have Bw10 := Lib.hid (Bw9.out.trans (hb.mono Bw9.out.size))
      have Kw10W0 := Lib.hid (ownsKeep Kw9W0.out hb)
      clear Kw9W0
      have Kw10x0 := Lib.hid (ownsKeep Kw9x0.out hb)
      clear Kw9x0
      have Kw10x1 := Lib.hid (ownsKeep Kw9x1.out hb)
      clear Kw9x1
      have Kw10G0 := Lib.hid (ownsKeep Kw9G0.out hb)
      clear Kw9G0
      clear Bw9
      clear hb
      go_wp2_with fail
      refine (eqRowS_same _ _ _ _ _ _ (el_of_owns rowC_len Kw10x0.out) (el_of_owns rowC_len Oy0.out) hm0).mono ?_
      rintro e w11 ⟨rfl, hb⟩
      have Bw11 := Lib.hid (Bw10.out.trans (hb.mono Bw10.out.size))
      have Kw11W0 := Lib.hid (ownsKeep Kw10W0.out hb)
      clear Kw10W0
      have Kw11x0 := Lib.hid (ownsKeep Kw10x0.out hb)
      clear Kw10x0
      have Kw11x1 := Lib.hid (ownsKeep Kw10x1.out hb)
      clear Kw10x1
      have Kw11G0 := Lib.hid (ownsKeep Kw10G0.out hb)
      clear Kw10G0
      have Kw11y0 := Lib.hid (ownsKeep Oy0.out hb)
      clear Oy0
      clear Bw10
      clear hb
      clear Kw11y0
      go_wp2_with fail
      refine (toRowS_any _ _ _ _ (HZ1.out.below Bw11.out) hl1).mono ?_
      rintro e w12 ⟨Ay1, cy1, rfl, ho, hb⟩
      have Oy1 := Lib.hid ho
      clear ho
      have zzy1 := Bw11.out.size
      have aW0y1 := Lib.hid (ownsApart Kw11W0.out (Nat.le_refl _) (Nat.le_refl _) Oy1.out)
      have ax0y1 := Lib.hid (ownsApart Kw11x0.out (Nat.le_refl _) (Nat.le_refl _) Oy1.out)
      have ax1y1 := Lib.hid (ownsApart Kw11x1.out (Nat.le_refl _) (Nat.le_refl _) Oy1.out)
      have aG0y1 := Lib.hid (ownsApart Kw11G0.out (Nat.le_refl _) (Nat.le_refl _) Oy1.out)
      have Bw12 := Lib.hid (Bw11.out.trans (hb.mono Bw11.out.size))
      have Kw12W0 := Lib.hid (ownsKeep Kw11W0.out hb)
      clear Kw11W0
      have Kw12x0 := Lib.hid (ownsKeep Kw11x0.out hb)
      clear Kw11x0
      have Kw12x1 := Lib.hid (ownsKeep Kw11x1.out hb)
      clear Kw11x1
      have Kw12G0 := Lib.hid (ownsKeep Kw11G0.out hb)
      clear Kw11G0
      clear Bw11
      clear hb
      go_wp2_with fail
      refine (eqRowS_same _ _ _ _ _ _ (el_of_owns rowC_len Kw12x1.out) (el_of_owns rowC_len Oy1.out) hm1).mono ?_
      rintro e w13 ⟨rfl, hb⟩
      have Bw13 := Lib.hid (Bw12.out.trans (hb.mono Bw12.out.size))
      have Kw13W0 := Lib.hid (ownsKeep Kw12W0.out hb)
      clear Kw12W0
      have Kw13x0 := Lib.hid (ownsKeep Kw12x0.out hb)
      clear Kw12x0
      have Kw13x1 := Lib.hid (ownsKeep Kw12x1.out hb)
      clear Kw12x1
      have Kw13G0 := Lib.hid (ownsKeep Kw12G0.out hb)
      clear Kw12G0
      have Kw13y1 := Lib.hid (ownsKeep Oy1.out hb)
      clear Oy1
      clear Bw12
      clear hb
      clear Kw13y1
      go_wp2_with fail
      refine (markRowS_any _ _ zs0 1 _ Kw13x0.out (by omega) (by omega) (by omega)).mono ?_
      rintro e w14 ⟨rfl, hmk, hg⟩
      have Bw14 := Lib.hid (Bw13.out.grown hg Bw13.out.size (fun k e => by have := (Kw13x0.out.lt k e).1; have := zzx0; omega))
      have Kw14W0 := Lib.hid (Kw13W0.out.kept hg aW0x0.out)
      clear Kw13W0
      have Kw14x1 := Lib.hid (Kw13x1.out.kept hg (apSym ax0x1.out))
      clear Kw13x1
      have Kw14G0 := Lib.hid (Kw13G0.out.kept hg (apSym ax0G0.out))
      clear Kw13G0
      clear Kw13x0
      clear hmk hg Bw13
      go_wp2_with fail
      refine (markRowS_any _ _ zs1 _ _ Kw14x1.out (by omega) (by omega) (by omega)).mono ?_
      rintro e w15 ⟨rfl, hmk, hg⟩
      have Bw15 := Lib.hid (Bw14.out.grown hg Bw14.out.size (fun k e => by have := (Kw14x1.out.lt k e).1; have := zzx1; omega))
      have Kw15W0 := Lib.hid (Kw14W0.out.kept hg aW0x1.out)
      clear Kw14W0
      have Kw15G0 := Lib.hid (Kw14G0.out.kept hg (apSym ax1G0.out))
      clear Kw14G0
      clear Kw14x1
      clear hmk hg Bw14
      have hk : decide (1 + 4 * (zs0.length : Int) + 4 * (zs1.length : Int) < 0) = false := decide_eq_false (by omega)
      go_wp2_with fail
      refine (eqRowS_same _ _ _ _ _ _ (el_of_owns rowC_len Kw15G0.out) (el_of_owns rowC_len Kw15W0.out) (by unfold maxLen; omega)).mono ?_
      rintro e w16 ⟨rfl, hb⟩
      have Bw16 := Lib.hid (Bw15.out.trans (hb.mono Bw15.out.size))
      have Kw16W0 := Lib.hid (ownsKeep Kw15W0.out hb)
      clear Kw15W0
      have Kw16G0 := Lib.hid (ownsKeep Kw15G0.out hb)
      clear Kw15G0
      clear Bw15
      clear hb
      go_wp2_with fail
      refine (markRowS_any _ _ zs 1 _ Kw16G0.out (by omega) (by omega) (by omega)).mono ?_
      rintro e w17 ⟨rfl, hmk, hg⟩
      have Bw17 := Lib.hid (Bw16.out.grown hg Bw16.out.size (fun k e => by have := (Kw16G0.out.lt k e).1; have := zzG0; omega))
      have Kw17W0 := Lib.hid (Kw16W0.out.kept hg aW0G0.out)
      clear Kw16W0
      have MG0 := Lib.hid (show w17.ownsRow _ 60 4 (.slice AG0 (markE rowMk 4 1 zs.length).length cG0) (markE rowMk 4 1 zs.length).length (flatOf rowC (markE rowMk 4 1 zs.length)) from by rw [markE_length]; exact hmk)
      clear Kw16G0
      clear hmk hg Bw16
      go_wp2_with fail
      refine (heldRowS_any _ zs.length _ 1 _ (el_of_owns rowC_len MG0.out) (by omega) (by omega) (by omega)).mono ?_
      rintro e w18 ⟨rfl, hb⟩
      have Bw18 := Lib.hid (Bw17.out.trans (hb.mono Bw17.out.size))
      have Kw18W0 := Lib.hid (ownsKeep Kw17W0.out hb)
      clear Kw17W0
      have Kw18G0 := Lib.hid (ownsKeep MG0.out hb)
      clear MG0
      clear Bw17
      clear hb
      have hq : decide (1 + 4 * (zs.length : Int) < 0) = false := decide_eq_false (by omega)
      go_wp2_with fail
      refine (toRowS_any _ _ _ _ (HZ0.out.below Bw18.out) hl0).mono ?_
      rintro e w19 ⟨Az0, cz0, rfl, ho, hb⟩
      have Oz0 := Lib.hid ho
      clear ho
      have zzz0 := Bw18.out.size
      have aW0z0 := Lib.hid (ownsApart Kw18W0.out (Nat.le_refl _) (Nat.le_refl _) Oz0.out)
      have aG0z0 := Lib.hid (ownsApart Kw18G0.out (Nat.le_refl _) (Nat.le_refl _) Oz0.out)
      have Bw19 := Lib.hid (Bw18.out.trans (hb.mono Bw18.out.size))
      have Kw19W0 := Lib.hid (ownsKeep Kw18W0.out hb)
      clear Kw18W0
      have Kw19G0 := Lib.hid (ownsKeep Kw18G0.out hb)
      clear Kw18G0
      clear Bw18
      clear hb
      go_wp2_with fail
      refine (toRowS_any _ _ _ _ (HZ1.out.below Bw19.out) hl1).mono ?_
      rintro e w20 ⟨Az1, cz1, rfl, ho, hb⟩
      have Oz1 := Lib.hid ho
      clear ho
      have zzz1 := Bw19.out.size
      have aW0z1 := Lib.hid (ownsApart Kw19W0.out (Nat.le_refl _) (Nat.le_refl _) Oz1.out)
      have aG0z1 := Lib.hid (ownsApart Kw19G0.out (Nat.le_refl _) (Nat.le_refl _) Oz1.out)
      have az0z1 := Lib.hid (ownsApart Oz0.out (Nat.le_refl _) (Nat.le_refl _) Oz1.out)
      have Bw20 := Lib.hid (Bw19.out.trans (hb.mono Bw19.out.size))
      have Kw20W0 := Lib.hid (ownsKeep Kw19W0.out hb)
      clear Kw19W0
      have Kw20G0 := Lib.hid (ownsKeep Kw19G0.out hb)
      clear Kw19G0
      have Kw20z0 := Lib.hid (ownsKeep Oz0.out hb)
      clear Oz0
      clear Bw19
      clear hb
      go_wp2_with fail
      refine (RelBoth_any _ _ _ _ zs0 zs1 _ (el_of_owns rowC_len Kw20z0.out) (el_of_owns rowC_len Oz1.out) (owns_nilcap Kw20z0.out) (owns_nilcap Oz1.out) hl0 hl1 HS0.out HS1.out).mono ?_
      rw [HZ.out]
      rintro e w21 ⟨AH0, cH0, rfl, ho, hb⟩
      have OH0 := Lib.hid (show w21.ownsRow _ 60 4 (.slice AH0 zs.length cH0) zs.length (flatOf rowC zs) from ho)
      clear ho
      have zzH0 := Bw20.out.size
      have aW0H0 := Lib.hid (ownsApart Kw20W0.out (Nat.le_refl _) (Nat.le_refl _) OH0.out)
      have aG0H0 := Lib.hid (ownsApart Kw20G0.out (Nat.le_refl _) (Nat.le_refl _) OH0.out)
      have az0H0 := Lib.hid (ownsApart Kw20z0.out (Nat.le_refl _) (Nat.le_refl _) OH0.out)
      have az1H0 := Lib.hid (ownsApart Oz1.out (Nat.le_refl _) (Nat.le_refl _) OH0.out)
      have Bw21 := Lib.hid (Bw20.out.trans (hb.mono Bw20.out.size))
      have Kw21W0 := Lib.hid (ownsKeep Kw20W0.out hb)
      clear Kw20W0
      have Kw21G0 := Lib.hid (ownsKeep Kw20G0.out hb)
      clear Kw20G0
      have Kw21z0 := Lib.hid (ownsKeep Kw20z0.out hb)
      clear Kw20z0
      have Kw21z1 := Lib.hid (ownsKeep Oz1.out hb)
      clear Oz1
      clear Bw20
      clear hb
      clear Kw21z0
      clear Kw21z1
      go_wp2_with fail
      refine (eqRowS_same _ _ _ _ _ _ (el_of_owns rowC_len OH0.out) (el_of_owns rowC_len Kw21W0.out) (by unfold maxLen; omega)).mono ?_
      rintro e w22 ⟨rfl, hb⟩
      have Bw22 := Lib.hid (Bw21.out.trans (hb.mono Bw21.out.size))
      have Kw22W0 := Lib.hid (ownsKeep Kw21W0.out hb)
      clear Kw21W0
      have Kw22G0 := Lib.hid (ownsKeep Kw21G0.out hb)
      clear Kw21G0
      have Kw22H0 := Lib.hid (ownsKeep OH0.out hb)
      clear OH0
      clear Bw21
      clear hb
      go_wp2_with fail
      refine (heldRowS_any _ zs.length _ 1 _ (el_of_owns rowC_len Kw22G0.out) (by omega) (by omega) (by omega)).mono ?_
      rintro e w23 ⟨rfl, hb⟩
      have Bw23 := Lib.hid (Bw22.out.trans (hb.mono Bw22.out.size))
      have Kw23W0 := Lib.hid (ownsKeep Kw22W0.out hb)
      clear Kw22W0
      have Kw23G0 := Lib.hid (ownsKeep Kw22G0.out hb)
      clear Kw22G0
      have Kw23H0 := Lib.hid (ownsKeep Kw22H0.out hb)
      clear Kw22H0
      clear Bw22
      clear hb
      go_wp2
      go_ret
      exact ⟨rfl, Bw23.out⟩
end Go.Proofs.Ytjopilcpmmfclaa
