/-
  Walks: when a table is ok, as the model has it.
-/
import Derived.Test.YtmfpojminbkojaaRel
namespace Go.Proofs.Ytmfpojminbkojaa
open Go.RowKit

theorem below_drewN {w w' : World} {B : Nat} (h : Below B w w') (n : Nat) : Below B w (w'.drewN n) := by
  induction n with
  | zero => exact h
  | succ n ih => exact ih.drew

set_option maxRecDepth 100000 in
set_option maxHeartbeats 8000000 in
theorem l2Ok_any (A : Option Addr) (cap : Nat) (zs : List RowV) (w : World) (hz : RowsA w A zs) (hl : zs.length ≤ 1048577) (hs : ∀ r ∈ zs, r.k.size ≤ maxLen ∧ r.t.size ≤ maxLen) :
    Calls Try.prog 52 #[.slice A zs.length cap] w fun e w' => e = .returned (.bool (relOk zs)) ∧ Below w.heap.size w w' := by
  have HZ := Lib.hid hz
  have HS := Lib.hid hs
  clear hz hs
  go_enter Try.func52, Try.ntmps52
  go_wp2
  go_loopw [3] (fun i wr => ∃ k : Nat, k ≤ zs.length ∧ i = .int .i64 k ∧ (∀ j, j < k → relAt zs j = true) ∧ Below w.heap.size w wr) (fun i _ => zs.length - (intOf i).toNat)
  case atStart => exact ⟨0, Nat.zero_le _, rfl, fun j hj => absurd hj (by omega), Below.refl _ _⟩
  case round =>
    obtain ⟨k, hk, rfl, hall, hbr⟩ := hrel
    have Hall := Lib.hid hall
    clear hall
    by_cases hlt : k < zs.length
    · obtain ⟨b, off, x, rfl, hb, hx, c0, c1, c2, c3⟩ := (HZ.out.below hbr).at_ hlt
      have hm := HS.out x (List.mem_of_getElem? hx)
      have HX := Lib.hid hx
      clear hx
      cases h1 : rowOk x
      · have H1 := Lib.hid h1
        have HN := Lib.hid (show relAt zs k = false from by rw [relAt, getD_of HX.out, H1.out]; rfl)
        clear h1
        go_wp2_with fail
        refine wp_region_later (by kernel_rfl) (by kernel_rfl) ?_
        intro f hf1 hf2 hfc
        repeat (go_big_quiet_step ((go_at_call 76; exact calls_later hf1 hf2 (l2RowOk_val _ _ _ hm.1 hm.2 H1.out))))
        refine wpQuiet_nil ?_
        rintro _ ⟨v, rfl⟩
        have hbf := hf1.out v
        replace c0 := cellBelow hbf hb c0
        replace c1 := cellBelow hbf hb c1
        replace c2 := cellBelow hbf hb c2
        replace c3 := cellBelow hbf hb c3
        replace hb := Nat.lt_of_lt_of_le hb hbf.size
        have BW := Lib.hid (hbr.trans (hbf.mono hbr.size))
        clear hbf hfc hf1 hf2
        generalize f v = W at *
        clear v f
        go_wp2
        go_ret
        exact ⟨ret_bool (relOk_no hlt HN.out).symm, BW.out⟩
      · have H1 := Lib.hid h1
        clear h1
        by_cases hk0 : k = 0
        · have HA := Lib.hid (show relAt zs k = true from by rw [relAt_of HX.out hk0, H1.out])
          have hkd : decide ((0 : Int) < (k : Int)) = false := by simp; omega
          have hke : decide (0 < k) = false := by simp; omega
          have H0 := Lib.hid hk0
          clear hk0
          go_wp2_with fail
          refine wp_region_later (by kernel_rfl) (by kernel_rfl) ?_
          intro f hf1 hf2 hfc
          repeat (go_big_quiet_step ((go_at_call 76; exact calls_later hf1 hf2 (l2RowOk_val _ _ _ hm.1 hm.2 H1.out))))
          refine wpQuiet_nil ?_
          rintro _ ⟨v, rfl⟩
          have hbf := hf1.out v
          replace c0 := cellBelow hbf hb c0
          replace c1 := cellBelow hbf hb c1
          replace c2 := cellBelow hbf hb c2
          replace c3 := cellBelow hbf hb c3
          replace hb := Nat.lt_of_lt_of_le hb hbf.size
          have BW := Lib.hid (hbr.trans (hbf.mono hbr.size))
          clear hbf hfc hf1 hf2
          generalize f v = W at *
          clear v f
          go_wp2_with fail
          go_quiet (fail)
          go_wp2
          go_roundw
          case rel => exact ⟨k + 1, by omega, by go_num, (fun j hj => by
            by_cases e : j = k
            · subst e; exact HA.out
            · exact Hall.out j (by omega)), below_drewN BW.out _⟩
          case measure => simp [intOf]; omega
        · obtain ⟨b', off', y, e1, hb', hy, d0, d1, d2, d3⟩ := (HZ.out.below hbr).at_ (show k - 1 < zs.length by omega)
          injection e1 with e1
          injection e1 with e1 e2 e3
          subst e1 e2
          have hkd : decide ((0 : Int) < (k : Int)) = true := by simp; omega
          have hke : decide (0 < k) = true := by simp; omega
          have hke' : 0 < k := by omega
          have hkp : (0 : Int) < (k : Int) := by omega
          have hkp1 : (0 : Int) ≤ (k : Int) - 1 := by omega
          have hkp2 : (k : Int) - 1 < (zs.length : Int) := by omega
          have hkn : ((k : Int) - 1).toNat = k - 1 := by omega
          have HA := Lib.hid (relAt_of2 HX.out hk0 hy)
          have HL := Lib.hid (show leadB y x = (lessB y x && !clashB y x) from by
            refine lead_eq y x ?_
            have h := Hall.out (k - 1) (by omega)
            rw [relAt, getD_of hy, Bool.and_eq_true] at h
            have h2 := h.1
            simp only [rowOk, okSpan, Bool.and_eq_true, decide_eq_true_eq] at h2
            exact h2.2.2.1)
          clear hy hk0
          cases h2 : lessB y x
          · have H2 := Lib.hid h2
            clear h2
            go_wp2_with fail
            refine wp_region_later (by kernel_rfl) (by kernel_rfl) ?_
            intro f hf1 hf2 hfc
            repeat (go_big_quiet_step ((first | (go_at_call 76; exact calls_later hf1 hf2 (l2RowOk_val _ _ _ hm.1 hm.2 H1.out)) | (go_at_call 77; exact calls_later hf1 hf2 (l2Less_val _ _ _ _ H2.out)))))
            refine wpQuiet_nil ?_
            rintro _ ⟨v, rfl⟩
            have hbf := hf1.out v
            replace c0 := cellBelow hbf hb c0
            replace c1 := cellBelow hbf hb c1
            replace c2 := cellBelow hbf hb c2
            replace c3 := cellBelow hbf hb c3
            replace d0 := cellBelow hbf hb d0
            replace d1 := cellBelow hbf hb d1
            replace d2 := cellBelow hbf hb d2
            replace d3 := cellBelow hbf hb d3
            replace hb := Nat.lt_of_lt_of_le hb hbf.size
            have BW := Lib.hid (hbr.trans (hbf.mono hbr.size))
            clear hbf hfc hf1 hf2
            generalize f v = W at *
            clear v f
            go_wp2
            go_ret
            exact ⟨ret_bool (relOk_no hlt (by rw [HA.out, H1.out, HL.out, H2.out]; rfl)).symm, BW.out⟩
          · have H2 := Lib.hid h2
            clear h2
            go_wp2_with fail
            refine wp_region_later (by kernel_rfl) (by kernel_rfl) ?_
            intro f hf1 hf2 hfc
            repeat (go_big_quiet_step ((first | (go_at_call 76; exact calls_later hf1 hf2 (l2RowOk_val _ _ _ hm.1 hm.2 H1.out)) | (go_at_call 77; exact calls_later hf1 hf2 (l2Less_val _ _ _ _ H2.out)))))
            refine wpQuiet_nil ?_
            rintro _ ⟨v, rfl⟩
            have hbf := hf1.out v
            replace c0 := cellBelow hbf hb c0
            replace c1 := cellBelow hbf hb c1
            replace c2 := cellBelow hbf hb c2
            replace c3 := cellBelow hbf hb c3
            replace d0 := cellBelow hbf hb d0
            replace d1 := cellBelow hbf hb d1
            replace d2 := cellBelow hbf hb d2
            replace d3 := cellBelow hbf hb d3
            replace hb := Nat.lt_of_lt_of_le hb hbf.size
            have BW := Lib.hid (hbr.trans (hbf.mono hbr.size))
            clear hbf hfc hf1 hf2
            generalize f v = W at *
            clear v f
            cases hkey : (y.k.toList == x.k.toList)
            · have HC := Lib.hid (show clashB y x = false from by unfold clashB; rw [hkey]; rfl)
              go_wp2_with fail
              go_quiet (fail)
              go_wp2
              go_roundw
              case rel => exact ⟨k + 1, by omega, by go_num, (fun j hj => by
                by_cases e : j = k
                · subst e; rw [HA.out, H1.out, HL.out, H2.out, HC.out]; rfl
                · exact Hall.out j (by omega)), below_drewN BW.out _⟩
              case measure => simp [intOf]; omega
            · cases hlt1 : decide (x.f < y.e)
              · cases heq : decide (x.f = y.e)
                · have heq' : (x.f == y.e) = false := by simpa using heq
                  have HC := Lib.hid (show clashB y x = false from by unfold clashB; rw [hkey, hlt1, heq]; rfl)
                  go_wp2_with fail
                  go_quiet (fail)
                  go_wp2
                  go_roundw
                  case rel => exact ⟨k + 1, by omega, by go_num, (fun j hj => by
                    by_cases e : j = k
                    · subst e; rw [HA.out, H1.out, HL.out, H2.out, HC.out]; rfl
                    · exact Hall.out j (by omega)), below_drewN BW.out _⟩
                  case measure => simp [intOf]; omega
                · have heq' : (x.f == y.e) = true := by simpa using heq
                  cases htx : (x.t.toList == y.t.toList)
                  · have HC := Lib.hid (show clashB y x = false from by unfold clashB; rw [hkey, hlt1, heq, htx]; rfl)
                    go_wp2_with fail
                    go_quiet (fail)
                    go_wp2
                    go_roundw
                    case rel => exact ⟨k + 1, by omega, by go_num, (fun j hj => by
                      by_cases e : j = k
                      · subst e; rw [HA.out, H1.out, HL.out, H2.out, HC.out]; rfl
                      · exact Hall.out j (by omega)), below_drewN BW.out _⟩
                    case measure => simp [intOf]; omega
                  · have HC := Lib.hid (show clashB y x = true from by unfold clashB; rw [hkey, hlt1, heq, htx]; rfl)
                    go_wp2_with fail
                    go_quiet (fail)
                    go_wp2
                    go_ret
                    exact ⟨ret_bool (relOk_no hlt (by rw [HA.out, H1.out, HL.out, H2.out, HC.out]; rfl)).symm, below_drewN BW.out _⟩
              · have HC := Lib.hid (show clashB y x = true from by unfold clashB; rw [hkey, hlt1]; rfl)
                go_wp2_with fail
                go_quiet (fail)
                go_wp2
                go_ret
                exact ⟨ret_bool (relOk_no hlt (by rw [HA.out, H1.out, HL.out, H2.out, HC.out]; rfl)).symm, below_drewN BW.out _⟩
    · go_wp2
      go_ret
      refine ⟨ret_bool ?_, hbr⟩
      by_cases hlen : zs.length ≤ 24
      · rw [relOk_yes hlen fun j hj => Hall.out j (by omega)]
        simp; omega
      · rw [relOk_long (by omega)]
        simp; omega

end Go.Proofs.Ytmfpojminbkojaa
