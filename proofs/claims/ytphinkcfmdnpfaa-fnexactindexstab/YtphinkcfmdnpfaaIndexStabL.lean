/-
  The walk of the exact law of IndexStab.
-/
import Derived.Test.YtphinkcfmdnpfaaRowM
import Derived.Test.YtphinkcfmdnpfaaNodM
import Derived.Test.YtphinkcfmdnpfaaIdxV
namespace Go.Proofs.Ytphinkcfmdnpfaa
open Go.RowKit Go.Lib

set_option maxRecDepth 100000 in
set_option maxHeartbeats 8000000 in
theorem FnExactIndexStab_any (A0 : Option Addr) (n0 cap0 : Nat) (zs0 : List NodV) (a1 : Int) (w : World) (h0 : NodsA w A0 zs0 ∧ zs0.length = n0 ∧ n0 ≤ maxLen ∧ ∀ r ∈ zs0, r.r.k.size ≤ maxLen ∧ r.r.t.size ≤ maxLen) :
    Calls Try.prog 9 #[.slice A0 n0 cap0, .int .i64 a1] w fun e w' => e = .returned (.bool true) ∧ Below w.heap.size w w' := by
  obtain ⟨hz0, rfl, hm0, hs0⟩ := h0
  have HZ0 := Lib.hid hz0
  clear hz0
  have HS0 := Lib.hid hs0
  clear hs0
  go_enter Try.func9, Try.ntmps9
  have Bw := Lib.hid (Below.refl w.heap.size w)
  go_wp2_with fail
  refine (szNodeS_any _ _ _ _ _ (by omega) (by omega) (HZ0.out.below Bw.out) hm0 HS0.out).mono ?_
  rintro e w1 ⟨v0, rfl, hv0, hb⟩
  have Bw1 := Lib.hid (Bw.out.trans (hb.mono Bw.out.size))
  clear hb Bw
  rcases hv0 with rfl | ⟨hv00, hv01, hv02⟩
  · go_wp2
    go_ret
    exact ⟨rfl, Bw1.out⟩
  · skip
    have hl0 : zs0.length ≤ 1048577 := by omega
    have hd0 : decide (v0 < 0) = false := decide_eq_false (by omega)
    have hzl : ((metR zs0 a1 (IntKind.i64.wrap (a1 + 1))).1).length ≤ 4194304 := (Nat.le_trans (metR_len zs0 a1 _).1 (by omega))
    obtain ⟨zs, hzs⟩ : ∃ zs, (metR zs0 a1 (IntKind.i64.wrap (a1 + 1))).1 = zs := ⟨_, rfl⟩
    rw [hzs] at hzl
    have HZ := Lib.hid hzs
    clear hzs
    go_wp2_with fail
    refine (toNodeS_any _ _ _ _ (HZ0.out.below Bw1.out) hl0).mono ?_
    rintro e w2 ⟨As0, cs0, rfl, ho, hb⟩
    have Os0 := Lib.hid ho
    clear ho
    have zzs0 := Bw1.out.size
    have Bw2 := Lib.hid (Bw1.out.trans (hb.mono Bw1.out.size))
    clear Bw1
    clear hb
    go_wp2_with fail
    refine (sIndexStab_any _ _ zs0 a1 _ (el_of_owns nodC_len Os0.out) (owns_cap Os0.out) hl0 HS0.out).mono ?_
    rw [HZ.out]
    rintro e w3 ⟨AW0, cW0, rfl, ho, hb⟩
    have OW0 := Lib.hid ho
    clear ho
    have zzW0 := Bw2.out.size
    have as0W0 := Lib.hid (ownsApart Os0.out (Nat.le_refl _) (Nat.le_refl _) OW0.out)
    have Bw3 := Lib.hid (Bw2.out.trans (hb.mono Bw2.out.size))
    have Kw3s0 := Lib.hid (ownsKeep Os0.out hb)
    clear Os0
    clear Bw2
    clear hb
    clear Kw3s0
    go_wp2_with fail
    refine (toNodeS_any _ _ _ _ (HZ0.out.below Bw3.out) hl0).mono ?_
    rintro e w4 ⟨Ax0, cx0, rfl, ho, hb⟩
    have Ox0 := Lib.hid ho
    clear ho
    have zzx0 := Bw3.out.size
    have aW0x0 := Lib.hid (ownsApart OW0.out (Nat.le_refl _) (Nat.le_refl _) Ox0.out)
    have Bw4 := Lib.hid (Bw3.out.trans (hb.mono Bw3.out.size))
    have Kw4W0 := Lib.hid (ownsKeep OW0.out hb)
    clear OW0
    clear Bw3
    clear hb
    go_wp2_with fail
    refine (IndexStab_any _ _ zs0 a1 _ (el_of_owns nodC_len Ox0.out) hl0 HS0.out).mono ?_
    rw [HZ.out]
    rintro e w5 ⟨AG0, cG0, rfl, ho, hb⟩
    have OG0 := Lib.hid ho
    clear ho
    have zzG0 := Bw4.out.size
    have aW0G0 := Lib.hid (ownsApart Kw4W0.out (Nat.le_refl _) (Nat.le_refl _) OG0.out)
    have ax0G0 := Lib.hid (ownsApart Ox0.out (Nat.le_refl _) (Nat.le_refl _) OG0.out)
    have Bw5 := Lib.hid (Bw4.out.trans (hb.mono Bw4.out.size))
    have Kw5W0 := Lib.hid (ownsKeep Kw4W0.out hb)
    clear Kw4W0
    have Kw5x0 := Lib.hid (ownsKeep Ox0.out hb)
    clear Ox0
    clear Bw4
    clear hb
    go_wp2_with fail
    refine (eqRowS_same _ _ _ _ _ _ (el_of_owns rowC_len OG0.out) (el_of_owns rowC_len Kw5W0.out) (by unfold maxLen; omega)).mono ?_
    rintro e w6 ⟨rfl, hb⟩
    have Bw6 := Lib.hid (Bw5.out.trans (hb.mono Bw5.out.size))
    have Kw6W0 := Lib.hid (ownsKeep Kw5W0.out hb)
    clear Kw5W0
    have Kw6x0 := Lib.hid (ownsKeep Kw5x0.out hb)
    clear Kw5x0
    have Kw6G0 := Lib.hid (ownsKeep OG0.out hb)
    clear OG0
    clear Bw5
    clear hb
    go_wp2_with fail
    refine (toNodeS_any _ _ _ _ (HZ0.out.below Bw6.out) hl0).mono ?_
    rintro e w7 ⟨Ay0, cy0, rfl, ho, hb⟩
    have Oy0 := Lib.hid ho
    clear ho
    have zzy0 := Bw6.out.size
    have aW0y0 := Lib.hid (ownsApart Kw6W0.out (Nat.le_refl _) (Nat.le_refl _) Oy0.out)
    have ax0y0 := Lib.hid (ownsApart Kw6x0.out (Nat.le_refl _) (Nat.le_refl _) Oy0.out)
    have aG0y0 := Lib.hid (ownsApart Kw6G0.out (Nat.le_refl _) (Nat.le_refl _) Oy0.out)
    have Bw7 := Lib.hid (Bw6.out.trans (hb.mono Bw6.out.size))
    have Kw7W0 := Lib.hid (ownsKeep Kw6W0.out hb)
    clear Kw6W0
    have Kw7x0 := Lib.hid (ownsKeep Kw6x0.out hb)
    clear Kw6x0
    have Kw7G0 := Lib.hid (ownsKeep Kw6G0.out hb)
    clear Kw6G0
    clear Bw6
    clear hb
    go_wp2_with fail
    refine (eqNodeS_same _ _ _ _ _ _ (el_of_owns nodC_len Kw7x0.out) (el_of_owns nodC_len Oy0.out) hm0).mono ?_
    rintro e w8 ⟨rfl, hb⟩
    have Bw8 := Lib.hid (Bw7.out.trans (hb.mono Bw7.out.size))
    have Kw8W0 := Lib.hid (ownsKeep Kw7W0.out hb)
    clear Kw7W0
    have Kw8x0 := Lib.hid (ownsKeep Kw7x0.out hb)
    clear Kw7x0
    have Kw8G0 := Lib.hid (ownsKeep Kw7G0.out hb)
    clear Kw7G0
    have Kw8y0 := Lib.hid (ownsKeep Oy0.out hb)
    clear Oy0
    clear Bw7
    clear hb
    clear Kw8y0
    go_wp2_with fail
    refine (markNodeS_any _ _ zs0 1 _ Kw8x0.out (by omega) (by omega) (by omega)).mono ?_
    rintro e w9 ⟨rfl, hmk, hg⟩
    have Bw9 := Lib.hid (Bw8.out.grown hg Bw8.out.size (fun k e => by have := (Kw8x0.out.lt k e).1; have := zzx0; omega))
    have Kw9W0 := Lib.hid (Kw8W0.out.kept hg aW0x0.out)
    clear Kw8W0
    have Kw9G0 := Lib.hid (Kw8G0.out.kept hg (apSym ax0G0.out))
    clear Kw8G0
    clear Kw8x0
    clear hmk hg Bw8
    have hk : decide (1 + 6 * (zs0.length : Int) < 0) = false := decide_eq_false (by omega)
    go_wp2_with fail
    refine (eqRowS_same _ _ _ _ _ _ (el_of_owns rowC_len Kw9G0.out) (el_of_owns rowC_len Kw9W0.out) (by unfold maxLen; omega)).mono ?_
    rintro e w10 ⟨rfl, hb⟩
    have Bw10 := Lib.hid (Bw9.out.trans (hb.mono Bw9.out.size))
    have Kw10W0 := Lib.hid (ownsKeep Kw9W0.out hb)
    clear Kw9W0
    have Kw10G0 := Lib.hid (ownsKeep Kw9G0.out hb)
    clear Kw9G0
    clear Bw9
    clear hb
    go_wp2_with fail
    refine (markRowS_any _ _ zs 1 _ Kw10G0.out (by omega) (by omega) (by omega)).mono ?_
    rintro e w11 ⟨rfl, hmk, hg⟩
    have Bw11 := Lib.hid (Bw10.out.grown hg Bw10.out.size (fun k e => by have := (Kw10G0.out.lt k e).1; have := zzG0; omega))
    have Kw11W0 := Lib.hid (Kw10W0.out.kept hg aW0G0.out)
    clear Kw10W0
    have MG0 := Lib.hid (show w11.ownsRow _ 70 4 (.slice AG0 (markE rowMk 4 1 zs.length).length cG0) (markE rowMk 4 1 zs.length).length (flatOf rowC (markE rowMk 4 1 zs.length)) from by rw [markE_length]; exact hmk)
    clear Kw10G0
    clear hmk hg Bw10
    go_wp2_with fail
    refine (heldRowS_any _ zs.length _ 1 _ (el_of_owns rowC_len MG0.out) (by omega) (by omega) (by omega)).mono ?_
    rintro e w12 ⟨rfl, hb⟩
    have Bw12 := Lib.hid (Bw11.out.trans (hb.mono Bw11.out.size))
    have Kw12W0 := Lib.hid (ownsKeep Kw11W0.out hb)
    clear Kw11W0
    have Kw12G0 := Lib.hid (ownsKeep MG0.out hb)
    clear MG0
    clear Bw11
    clear hb
    have hq : decide (1 + 4 * (zs.length : Int) < 0) = false := decide_eq_false (by omega)
    go_wp2_with fail
    refine (toNodeS_any _ _ _ _ (HZ0.out.below Bw12.out) hl0).mono ?_
    rintro e w13 ⟨Az0, cz0, rfl, ho, hb⟩
    have Oz0 := Lib.hid ho
    clear ho
    have zzz0 := Bw12.out.size
    have aW0z0 := Lib.hid (ownsApart Kw12W0.out (Nat.le_refl _) (Nat.le_refl _) Oz0.out)
    have aG0z0 := Lib.hid (ownsApart Kw12G0.out (Nat.le_refl _) (Nat.le_refl _) Oz0.out)
    have Bw13 := Lib.hid (Bw12.out.trans (hb.mono Bw12.out.size))
    have Kw13W0 := Lib.hid (ownsKeep Kw12W0.out hb)
    clear Kw12W0
    have Kw13G0 := Lib.hid (ownsKeep Kw12G0.out hb)
    clear Kw12G0
    clear Bw12
    clear hb
    go_wp2_with fail
    refine (IndexStab_any _ _ zs0 a1 _ (el_of_owns nodC_len Oz0.out) hl0 HS0.out).mono ?_
    rw [HZ.out]
    rintro e w14 ⟨AH0, cH0, rfl, ho, hb⟩
    have OH0 := Lib.hid ho
    clear ho
    have zzH0 := Bw13.out.size
    have aW0H0 := Lib.hid (ownsApart Kw13W0.out (Nat.le_refl _) (Nat.le_refl _) OH0.out)
    have aG0H0 := Lib.hid (ownsApart Kw13G0.out (Nat.le_refl _) (Nat.le_refl _) OH0.out)
    have az0H0 := Lib.hid (ownsApart Oz0.out (Nat.le_refl _) (Nat.le_refl _) OH0.out)
    have Bw14 := Lib.hid (Bw13.out.trans (hb.mono Bw13.out.size))
    have Kw14W0 := Lib.hid (ownsKeep Kw13W0.out hb)
    clear Kw13W0
    have Kw14G0 := Lib.hid (ownsKeep Kw13G0.out hb)
    clear Kw13G0
    have Kw14z0 := Lib.hid (ownsKeep Oz0.out hb)
    clear Oz0
    clear Bw13
    clear hb
    clear Kw14z0
    go_wp2_with fail
    refine (eqRowS_same _ _ _ _ _ _ (el_of_owns rowC_len OH0.out) (el_of_owns rowC_len Kw14W0.out) (by unfold maxLen; omega)).mono ?_
    rintro e w15 ⟨rfl, hb⟩
    have Bw15 := Lib.hid (Bw14.out.trans (hb.mono Bw14.out.size))
    have Kw15W0 := Lib.hid (ownsKeep Kw14W0.out hb)
    clear Kw14W0
    have Kw15G0 := Lib.hid (ownsKeep Kw14G0.out hb)
    clear Kw14G0
    have Kw15H0 := Lib.hid (ownsKeep OH0.out hb)
    clear OH0
    clear Bw14
    clear hb
    go_wp2_with fail
    refine (heldRowS_any _ zs.length _ 1 _ (el_of_owns rowC_len Kw15G0.out) (by omega) (by omega) (by omega)).mono ?_
    rintro e w16 ⟨rfl, hb⟩
    have Bw16 := Lib.hid (Bw15.out.trans (hb.mono Bw15.out.size))
    have Kw16W0 := Lib.hid (ownsKeep Kw15W0.out hb)
    clear Kw15W0
    have Kw16G0 := Lib.hid (ownsKeep Kw15G0.out hb)
    clear Kw15G0
    have Kw16H0 := Lib.hid (ownsKeep Kw15H0.out hb)
    clear Kw15H0
    clear Bw15
    clear hb
    go_wp2
    go_ret
    exact ⟨rfl, Bw16.out⟩
end Go.Proofs.Ytphinkcfmdnpfaa
