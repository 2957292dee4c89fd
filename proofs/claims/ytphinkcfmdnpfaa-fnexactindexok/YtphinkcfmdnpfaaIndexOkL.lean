/-
  The walk of the exact law of IndexOk.
-/
import Derived.Test.YtphinkcfmdnpfaaNodM
import Derived.Test.YtphinkcfmdnpfaaIdxV
namespace Go.Proofs.Ytphinkcfmdnpfaa
open Go.RowKit Go.Lib

set_option maxRecDepth 100000 in
set_option maxHeartbeats 8000000 in
theorem FnExactIndexOk_any (A0 : Option Addr) (n0 cap0 : Nat) (zs0 : List NodV) (w : World) (h0 : NodsA w A0 zs0 ∧ zs0.length = n0 ∧ n0 ≤ maxLen ∧ ∀ r ∈ zs0, r.r.k.size ≤ maxLen ∧ r.r.t.size ≤ maxLen) :
    Calls Try.prog 7 #[.slice A0 n0 cap0] w fun e w' => e = .returned (.bool true) ∧ Below w.heap.size w w' := by
  obtain ⟨hz0, rfl, hm0, hs0⟩ := h0
  have HZ0 := Lib.hid hz0
  clear hz0
  have HS0 := Lib.hid hs0
  clear hs0
  go_enter Try.func7, Try.ntmps7
  have Bw := Lib.hid (Below.refl w.heap.size w)
  go_wp2_with fail
  refine (szNodeS_any _ _ _ _ _ (by omega) (by omega) (HZ0.out.below Bw.out) hm0 HS0.out).mono ?_
  rintro e w1 ⟨v0, rfl, hv0, hb⟩
  have Bw1 := Lib.hid (Bw.out.trans (hb.mono Bw.out.size))
  clear hb Bw
  rcases hv0 with rfl | ⟨hv00, hv01, hv02⟩
  · go_wp2
    go_ret
    exact ⟨rfl, Bw1.out⟩
  · skip
    have hl0 : zs0.length ≤ 1048577 := by omega
    have hd0 : decide (v0 < 0) = false := decide_eq_false (by omega)
    obtain ⟨rv, hrv⟩ : ∃ rv, idxB zs0 = rv := ⟨_, rfl⟩
    have HR := Lib.hid hrv
    clear hrv
    go_wp2_with fail
    refine (toNodeS_any _ _ _ _ (HZ0.out.below Bw1.out) hl0).mono ?_
    rintro e w2 ⟨As0, cs0, rfl, ho, hb⟩
    have Os0 := Lib.hid ho
    clear ho
    have zzs0 := Bw1.out.size
    have Bw2 := Lib.hid (Bw1.out.trans (hb.mono Bw1.out.size))
    clear Bw1
    clear hb
    go_wp2_with fail
    refine (sIndexOk_any _ _ zs0 _ (el_of_owns nodC_len Os0.out) hl0 HS0.out).mono ?_
    rw [HR.out]
    rintro e w3 ⟨rfl, hb⟩
    have Bw3 := Lib.hid (Bw2.out.trans (hb.mono Bw2.out.size))
    have Kw3s0 := Lib.hid (ownsKeep Os0.out hb)
    clear Os0
    clear Bw2
    clear hb
    clear Kw3s0
    go_wp2_with fail
    refine (toNodeS_any _ _ _ _ (HZ0.out.below Bw3.out) hl0).mono ?_
    rintro e w4 ⟨Ax0, cx0, rfl, ho, hb⟩
    have Ox0 := Lib.hid ho
    clear ho
    have zzx0 := Bw3.out.size
    have Bw4 := Lib.hid (Bw3.out.trans (hb.mono Bw3.out.size))
    clear Bw3
    clear hb
    go_wp2_with fail
    refine (IndexOk_any _ _ zs0 _ (el_of_owns nodC_len Ox0.out) hl0 HS0.out).mono ?_
    rw [HR.out]
    rintro e w5 ⟨rfl, hb⟩
    have Bw5 := Lib.hid (Bw4.out.trans (hb.mono Bw4.out.size))
    have Kw5x0 := Lib.hid (ownsKeep Ox0.out hb)
    clear Ox0
    clear Bw4
    clear hb
    go_wp2_with fail
    refine (toNodeS_any _ _ _ _ (HZ0.out.below Bw5.out) hl0).mono ?_
    rintro e w6 ⟨Ay0, cy0, rfl, ho, hb⟩
    have Oy0 := Lib.hid ho
    clear ho
    have zzy0 := Bw5.out.size
    have ax0y0 := Lib.hid (ownsApart Kw5x0.out (Nat.le_refl _) (Nat.le_refl _) Oy0.out)
    have Bw6 := Lib.hid (Bw5.out.trans (hb.mono Bw5.out.size))
    have Kw6x0 := Lib.hid (ownsKeep Kw5x0.out hb)
    clear Kw5x0
    clear Bw5
    clear hb
    go_wp2_with fail
    refine (eqNodeS_same _ _ _ _ _ _ (el_of_owns nodC_len Kw6x0.out) (el_of_owns nodC_len Oy0.out) hm0).mono ?_
    rintro e w7 ⟨rfl, hb⟩
    have Bw7 := Lib.hid (Bw6.out.trans (hb.mono Bw6.out.size))
    have Kw7x0 := Lib.hid (ownsKeep Kw6x0.out hb)
    clear Kw6x0
    have Kw7y0 := Lib.hid (ownsKeep Oy0.out hb)
    clear Oy0
    clear Bw6
    clear hb
    clear Kw7y0
    go_wp2
    go_ret
    exact ⟨rfl, Bw7.out⟩
end Go.Proofs.Ytphinkcfmdnpfaa
