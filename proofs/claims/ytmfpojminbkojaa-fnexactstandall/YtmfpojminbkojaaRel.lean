/-
  Walks: when a table is ok.
-/
import Derived.Test.YtmfpojminbkojaaLead
namespace Go.Proofs.Ytmfpojminbkojaa
open Go.RowKit

theorem rowOkM_val (r : RowV) (w : World) (v : Bool) (hk : r.k.size ≤ maxLen) (ht : r.t.size ≤ maxLen) (h : rowOk r = v) :
    Calls Try.prog 65 #[.agg #[.string r.k, .string r.t, .int .i64 r.f, .int .i64 r.e]] w fun e w' => e = .returned (.bool v) ∧ Below w.heap.size w w' := by
  subst h; exact rowOkM_any r w hk ht
theorem l2RowOk_val (r : RowV) (w : World) (v : Bool) (hk : r.k.size ≤ maxLen) (ht : r.t.size ≤ maxLen) (h : rowOk r = v) :
    Calls Try.prog 76 #[.agg #[.string r.k, .string r.t, .int .i64 r.f, .int .i64 r.e]] w fun e w' => e = .returned (.bool v) ∧ Below w.heap.size w w' := by
  subst h; exact l2RowOk_any r w hk ht
theorem leads_val (a b : RowV) (w : World) (v : Bool) (h : leadB a b = v) :
    Calls Try.prog 66 #[.agg #[.string a.k, .string a.t, .int .i64 a.f, .int .i64 a.e], .agg #[.string b.k, .string b.t, .int .i64 b.f, .int .i64 b.e]] w fun e w' => e = .returned (.bool v) ∧ Below w.heap.size w w' := by
  subst h; exact leads_any a b w
theorem l2Less_val (a b : RowV) (w : World) (v : Bool) (h : lessB a b = v) :
    Calls Try.prog 77 #[.agg #[.string a.k, .string a.t, .int .i64 a.f, .int .i64 a.e], .agg #[.string b.k, .string b.t, .int .i64 b.f, .int .i64 b.e]] w fun e w' => e = .returned (.bool v) ∧ Below w.heap.size w w' := by
  subst h; exact l2Less_any a b w

theorem relAt_of {zs : List RowV} {k : Nat} {x : RowV} (hx : zs[k]? = some x) (h0 : k = 0) : relAt zs k = rowOk x := by
  have : (k == 0) = true := by simp [h0]
  rw [relAt, getD_of hx, this, Bool.true_or, Bool.and_true]
theorem relAt_of2 {zs : List RowV} {k : Nat} {x y : RowV} (hx : zs[k]? = some x) (h0 : k ≠ 0) (hy : zs[k - 1]? = some y) : relAt zs k = (rowOk x && leadB y x) := by
  have : (k == 0) = false := by simp [h0]
  rw [relAt, getD_of hx, getD_of hy, this, Bool.false_or]

set_option maxRecDepth 100000 in
set_option maxHeartbeats 4000000 in
theorem RelOk_any (A : Option Addr) (cap : Nat) (zs : List RowV) (w : World) (hz : RowsA w A zs) (hl : zs.length ≤ 1048577) (hs : ∀ r ∈ zs, r.k.size ≤ maxLen ∧ r.t.size ≤ maxLen) :
    Calls Try.prog 37 #[.slice A zs.length cap] w fun e w' => e = .returned (.bool (relOk zs)) ∧ Below w.heap.size w w' := by
  have HZ := Lib.hid hz
  have HS := Lib.hid hs
  clear hz hs
  by_cases hlen : 24 < zs.length
  · have HL := Lib.hid (relOk_long hlen)
    go_enter Try.func37, Try.ntmps37
    go_wp2
    go_ret
    exact ⟨ret_bool HL.out.symm, Below.refl _ _⟩
  · go_enter Try.func37, Try.ntmps37
    go_wp2
    go_loopw [10] (fun i wr => ∃ k : Nat, k ≤ zs.length ∧ i = .int .i64 k ∧ (∀ j, j < k → relAt zs j = true) ∧ Below w.heap.size w wr) (fun i _ => zs.length - (intOf i).toNat)
    case atStart => exact ⟨0, Nat.zero_le _, rfl, fun j hj => absurd hj (by omega), Below.refl _ _⟩
    case round =>
      obtain ⟨k, hk, rfl, hall, hbr⟩ := hrel
      have Hall := Lib.hid hall
      clear hall
      by_cases hlt : k < zs.length
      · obtain ⟨b, off, x, rfl, hb, hx, c0, c1, c2, c3⟩ := (HZ.out.below hbr).at_ hlt
        have hm := HS.out x (List.mem_of_getElem? hx)
        have HX := Lib.hid hx
        clear hx
        go_upto_region 6 with fail
        generalize hW : wr.alloc _ = W
        have q0 : W.cell? ⟨wr.heap.size, 0, none⟩ = some (.string x.k) := by rw [← hW]; simp [go_sem]
        have q1 : W.cell? ⟨wr.heap.size, 1, none⟩ = some (.string x.t) := by rw [← hW]; simp [go_sem]
        have q2 : W.cell? ⟨wr.heap.size, 2, none⟩ = some (.int .i64 x.f) := by rw [← hW]; simp [go_sem]
        have q3 : W.cell? ⟨wr.heap.size, 3, none⟩ = some (.int .i64 x.e) := by rw [← hW]; simp [go_sem]
        replace c0 : W.cell? ⟨b, off + k * 4, none⟩ = some (.string x.k) := by rw [← hW]; exact (World.cell?_alloc_lt _ _ _ hb).trans c0
        replace c1 : W.cell? ⟨b, off + k * 4 + 1, none⟩ = some (.string x.t) := by rw [← hW]; exact (World.cell?_alloc_lt _ _ _ hb).trans c1
        replace c2 : W.cell? ⟨b, off + k * 4 + 2, none⟩ = some (.int .i64 x.f) := by rw [← hW]; exact (World.cell?_alloc_lt _ _ _ hb).trans c2
        replace c3 : W.cell? ⟨b, off + k * 4 + 3, none⟩ = some (.int .i64 x.e) := by rw [← hW]; exact (World.cell?_alloc_lt _ _ _ hb).trans c3
        have lw : wr.heap.size < W.heap.size := by rw [← hW]; simp
        have lb : b < W.heap.size := Nat.lt_trans hb lw
        have BW := Lib.hid (show Below w.heap.size w W from by rw [← hW]; exact hbr.alloc hbr.size _)
        clear hW
        cases h1 : rowOk x
        · have H1 := Lib.hid h1
          have HN := Lib.hid (show relAt zs k = false from by rw [relAt, getD_of HX.out, H1.out]; rfl)
          clear h1
          refine wp_region_later (by kernel_rfl) (by kernel_rfl) ?_
          intro f hf1 hf2 hfc
          repeat (go_big_quiet_step ((go_at_call 65; exact calls_later hf1 hf2 (rowOkM_val _ _ _ hm.1 hm.2 H1.out))))
          refine wpQuiet_nil ?_
          rintro _ ⟨v, rfl⟩
          have Hv := Lib.hid (BW.out.trans ((hf1.out v).mono BW.out.size))
          clear hfc
          go_wp2
          go_ret
          exact ⟨ret_bool (relOk_no hlt HN.out).symm, Hv.out⟩
        · have H1 := Lib.hid h1
          clear h1
          by_cases hk0 : k = 0
          · have HA := Lib.hid (show relAt zs k = true from by rw [relAt_of HX.out hk0, H1.out])
            have hkd : decide ((0 : Int) < (k : Int)) = false := by simp; omega
            have hke : decide (0 < k) = false := by simp; omega
            have H0 := Lib.hid hk0
            clear hk0
            refine wp_region_later (by kernel_rfl) (by kernel_rfl) ?_
            intro f hf1 hf2 hfc
            repeat (go_big_quiet_step ((go_at_call 65; exact calls_later hf1 hf2 (rowOkM_val _ _ _ hm.1 hm.2 H1.out))))
            refine wpQuiet_nil ?_
            rintro _ ⟨v, rfl⟩
            have Hv := Lib.hid (BW.out.trans ((hf1.out v).mono BW.out.size))
            clear hfc
            go_wp2
            go_roundw
            case rel => exact ⟨k + 1, by omega, by go_num, fun j hj => by
              by_cases e : j = k
              · subst e; exact HA.out
              · exact Hall.out j (by omega), Hv.out⟩
            case measure => simp [intOf]; omega
          · obtain ⟨b', off', y, e1, hb', hy, d0, d1, d2, d3⟩ := (HZ.out.below BW.out).at_ (show k - 1 < zs.length by omega)
            injection e1 with e1
            injection e1 with e1 e2 e3
            subst e1 e2
            have hkd : decide ((0 : Int) < (k : Int)) = true := by simp; omega
            have hke : decide (0 < k) = true := by simp; omega
            have hke' : 0 < k := by omega
            have hkp : (0 : Int) < (k : Int) := by omega
            have hkp1 : (0 : Int) ≤ (k : Int) - 1 := by omega
            have hkp2 : (k : Int) - 1 < (zs.length : Int) := by omega
            have hkn : ((k : Int) - 1).toNat = k - 1 := by omega
            have HA := Lib.hid (relAt_of2 HX.out hk0 hy)
            clear hy hk0
            cases h2 : leadB y x
            · have H2 := Lib.hid h2
              clear h2
              refine wp_region_later (by kernel_rfl) (by kernel_rfl) ?_
              intro f hf1 hf2 hfc
              repeat (go_big_quiet_step ((first | (go_at_call 65; exact calls_later hf1 hf2 (rowOkM_val _ _ _ hm.1 hm.2 H1.out)) | (go_at_call 66; exact calls_later hf1 hf2 (leads_val _ _ _ _ H2.out)))))
              refine wpQuiet_nil ?_
              rintro _ ⟨v, rfl⟩
              have Hv := Lib.hid (BW.out.trans ((hf1.out v).mono BW.out.size))
              clear hfc
              go_wp2
              go_ret
              exact ⟨ret_bool (relOk_no hlt (by rw [HA.out, H1.out, H2.out]; rfl)).symm, Hv.out⟩
            · have H2 := Lib.hid h2
              clear h2
              refine wp_region_later (by kernel_rfl) (by kernel_rfl) ?_
              intro f hf1 hf2 hfc
              repeat (go_big_quiet_step ((first | (go_at_call 65; exact calls_later hf1 hf2 (rowOkM_val _ _ _ hm.1 hm.2 H1.out)) | (go_at_call 66; exact calls_later hf1 hf2 (leads_val _ _ _ _ H2.out)))))
              refine wpQuiet_nil ?_
              rintro _ ⟨v, rfl⟩
              have Hv := Lib.hid (BW.out.trans ((hf1.out v).mono BW.out.size))
              clear hfc
              go_wp2
              go_roundw
              case rel => exact ⟨k + 1, by omega, by go_num, fun j hj => by
                by_cases e : j = k
                · subst e; rw [HA.out, H1.out, H2.out]; rfl
                · exact Hall.out j (by omega), Hv.out⟩
              case measure => simp [intOf]; omega
      · have HL := Lib.hid (relOk_yes (zs := zs) (by omega) fun j hj => Hall.out j (by omega))
        go_wp2
        go_ret
        exact ⟨ret_bool HL.out.symm, hbr⟩
end Go.Proofs.Ytmfpojminbkojaa
