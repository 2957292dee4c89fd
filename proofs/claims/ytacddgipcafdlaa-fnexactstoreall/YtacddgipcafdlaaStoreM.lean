/-
  Walks: when a store is ok, as the model finds it.
-/
import Derived.Test.YtacddgipcafdlaaStoreW
import Derived.Test.YtacddgipcafdlaaPutS
import Derived.Test.YtacddgipcafdlaaRelS
import Derived.IntWalk
namespace Go.Proofs.Ytacddgipcafdlaa
open Go.Shelf Go.RowKit Go.Lib Go.Sort

set_option maxRecDepth 100000 in
set_option maxHeartbeats 4000000 in
theorem l5Live_any (A : Option Addr) (cap : Nat) (zs : List VerV) (m : Int) (w : World) (hz : VersA w A zs) (hl : zs.length ≤ 1048576) :
    Calls Try.prog 71 #[.slice A zs.length cap, .int .i64 m] w (GetsE rowC 4 72 w (liveS zs m)) := by
  have HZ := Lib.hid hz
  clear hz
  go_enter Try.func71, Try.ntmps71
  go_wp2
  go_loopw [5, 6] (fun v i wr => ∃ k : Nat, k ≤ zs.length ∧ i = .int .i64 k ∧ wr.ownsRow w.heap.size 72 4 v (liveS (zs.take k) m).length (flatOf rowC (liveS (zs.take k) m)) ∧ Below w.heap.size w wr) (fun _ i _ => zs.length - (intOf i).toNat)
  case atStart =>
    refine ⟨0, Nat.zero_le _, rfl, ?_, (Below.refl _ _).alloc (Nat.le_refl _) _⟩
    have := World.ownsRow_lit (base := w.heap.size) (e := 72) (size := 4) w #[] 0 (by simp) (by simp [maxLen]) (by simp)
    simpa [flatOf, liveS, liveL] using this
  case round =>
    obtain ⟨k, hk, rfl, hown, hbr⟩ := hrel
    have Hown := Lib.hid hown
    clear hown
    have hlo : (liveS (zs.take k) m).length ≤ 1048576 := by have := liveS_len (zs.take k) m; rw [List.length_take] at this; omega
    by_cases hlt : k < zs.length
    · obtain ⟨b, off, x, rfl, hb, hx, c0, c1, c2, c3, c4, c5⟩ := (HZ.out.below hbr).at_ hlt
      have HT := Lib.hid (liveS_take (s := m) hx)
      obtain ⟨oo, hoo⟩ : ∃ oo, liveS (zs.take k) m = oo := ⟨_, rfl⟩
      rw [hoo] at Hown HT hlo
      clear hx hoo
      have hkz : (k : Int) < (zs.length : Int) := by omega
      have hkz0 : (0 : Int) ≤ (k : Int) := by omega
      have BR := Lib.hid hbr
      clear hbr
      by_cases h1 : x.i ≤ m
      · by_cases h2 : m < x.o
        · rw [if_pos (by simp [liveB, h1, h2])] at HT
          obtain ⟨A', c', hv⟩ := owns_sliceE Hown.out
          subst hv
          go_wp2_with fail
          refine (l2Put_any A' c' oo x.r _ (el_of_owns rowC_len Hown.out) (owns_nilcap Hown.out) (owns_cap Hown.out) (by omega)).mono ?_
          rintro e w2 ⟨A2, c2', rfl, ho2, hb2⟩
          have O2 := Lib.hid (owns_baseE (base' := w.heap.size) ho2 BR.out.size)
          have B2 := Lib.hid (BR.out.trans (hb2.mono BR.out.size))
          clear ho2 hb2 c0 c1 c2 c3 c4 c5
          go_wp2
          go_roundw
          case rel => exact ⟨k + 1, by omega, by go_num, (by rw [HT.out]; exact O2.out), B2.out⟩
          case measure => simp [intOf]; omega
        · rw [if_neg (by simp [liveB]; omega)] at HT
          go_wp2
          go_roundw
          case rel => exact ⟨k + 1, by omega, by go_num, (by rw [HT.out]; exact Hown.out), BR.out⟩
          case measure => simp [intOf]; omega
      · rw [if_neg (by simp [liveB]; omega)] at HT
        go_wp2
        go_roundw
        case rel => exact ⟨k + 1, by omega, by go_num, (by rw [HT.out]; exact Hown.out), BR.out⟩
        case measure => simp [intOf]; omega
    · obtain rfl : k = zs.length := by omega
      rw [List.take_length] at Hown
      obtain ⟨A', c', hv⟩ := owns_sliceE Hown.out
      subst hv
      go_wp2
      go_ret
      exact ⟨A', c', rfl, Hown.out, hbr⟩
end Go.Proofs.Ytacddgipcafdlaa
namespace Go.Proofs.Ytacddgipcafdlaa
open Go.Shelf Go.RowKit Go.Lib Go.Sort

theorem inL_val (n l h : Int) (w : World) (v : Bool) (hv : inB n l h = v) :
    Calls Try.prog 106 #[.int .i64 n, .int .i64 l, .int .i64 h] w fun e w' => e = .returned (.bool v) ∧ Below w.heap.size w w' := by
  subst hv
  exact (in_any n l h w).mono (by rintro e w' ⟨rfl, rfl⟩; exact ⟨rfl, Below.refl _ _⟩)
theorem inB_true {n l h : Int} (hb : inB n l h = true) : l ≤ n ∧ n ≤ h := by simpa [inB] using hb
theorem ver_no {x : VerV} {now : Int} (h : inB x.i 1 now = false) : verB now x = false := by
  have h' : ¬ (1 ≤ x.i ∧ x.i ≤ now) := by simpa [inB] using h
  unfold verB
  rw [Bool.and_eq_false_iff]
  right
  rw [decide_eq_false_iff_not]
  omega
theorem ver_no2 {x : VerV} {now : Int} (h9 : ¬ x.o = 999) (h : inB x.o (x.i + 1) now = false) : verB now x = false := by
  have h' : ¬ (x.i + 1 ≤ x.o ∧ x.o ≤ now) := by simpa [inB] using h
  unfold verB
  rw [Bool.and_eq_false_iff]
  right
  rw [decide_eq_false_iff_not]
  omega
theorem ver_yes {x : VerV} {now : Int} (hr : rowOk x.r = true) (h1 : inB x.i 1 now = true) (h2 : x.o = 999 ∨ inB x.o (x.i + 1) now = true) (h3 : x.i ≤ 30) : verB now x = true := by
  have h1' := inB_true h1
  unfold verB
  rw [hr, Bool.true_and, decide_eq_true_iff]
  rcases h2 with h2 | h2
  · omega
  · have := inB_true h2
    omega
theorem verAt_false {vs : List VerV} {now : Int} {k : Nat} {x : VerV} (hx : vs[k]? = some x) (h : verB now x = false) : verAt vs now k = false := by
  rw [verAt, getV_of hx, h, Bool.false_and]

set_option maxRecDepth 100000 in
set_option maxHeartbeats 8000000 in
theorem l5Ok_in (A : Option Addr) (cap : Nat) (zs : List VerV) (now : Int) (w : World) (hz : VersA w A zs) (hl : zs.length ≤ 1048576) (hs : ShortV zs) (hn0 : 0 ≤ now) (hn1 : now ≤ 30) :
    Calls Try.prog 70 #[.agg #[.int .i64 now, .slice A zs.length cap]] w fun e w' => e = .returned (.bool (storeB zs now)) ∧ Below w.heap.size w w' := by
  have HS := Lib.hid hs
  clear hs
  go_enter Try.func70, Try.ntmps70
  go_wp2
  generalize hW : w.alloc _ = W0
  have s0 : W0.cell? ⟨w.heap.size, 0, none⟩ = some (.int .i64 now) := by rw [← hW]; simp [go_sem]
  have s1 : W0.cell? ⟨w.heap.size, 1, none⟩ = some (.slice A zs.length cap) := by rw [← hW]; simp [go_sem]
  have ls : w.heap.size < W0.heap.size := by rw [← hW]; simp
  have B0 := Lib.hid (show Below w.heap.size w W0 from by rw [← hW]; exact (Below.refl _ _).alloc (Nat.le_refl _) _)
  have HZ := Lib.hid (hz.below B0.out)
  obtain ⟨G, hG⟩ : ∃ G, w.heap.size = G := ⟨_, rfl⟩
  rw [hG] at s0 s1 ls ⊢
  have S0 := Lib.hid s0
  have S1 := Lib.hid s1
  clear hW hG hz s0 s1
  go_loopw [3] (fun i wr => ∃ k : Nat, k ≤ zs.length ∧ i = .int .i64 k ∧ (∀ j, j < k → verAt zs now j = true) ∧ Below W0.heap.size W0 wr) (fun i _ => zs.length - (intOf i).toNat)
  case atStart => exact ⟨0, Nat.zero_le _, rfl, fun j hj => absurd hj (by omega), Below.refl _ _⟩
  case round =>
    obtain ⟨k, hk, rfl, hall, hbr⟩ := hrel
    have Hall := Lib.hid hall
    clear hall
    have g0 := cellBelow hbr ls S0.out
    have g1 := cellBelow hbr ls S1.out
    by_cases hlt : k < zs.length
    · obtain ⟨b, off, x, rfl, hb, hx, c0, c1, c2, c3, c4, c5⟩ := (HZ.out.below hbr).at_ hlt
      have hm := HS.out x (List.mem_of_getElem? hx)
      have HX := Lib.hid hx
      have hkz : (k : Int) < (zs.length : Int) := by omega
      have hkz0 : (0 : Int) ≤ (k : Int) := by omega
      clear hx
      go_wp2_with fail
      generalize hW1 : wr.alloc _ = W1
      have v0 : W1.cell? ⟨wr.heap.size, 0, none⟩ = some (.string x.r.k) := by rw [← hW1]; simp [go_sem]
      have v1 : W1.cell? ⟨wr.heap.size, 1, none⟩ = some (.string x.r.t) := by rw [← hW1]; simp [go_sem]
      have v2 : W1.cell? ⟨wr.heap.size, 2, none⟩ = some (.int .i64 x.r.f) := by rw [← hW1]; simp [go_sem]
      have v3 : W1.cell? ⟨wr.heap.size, 3, none⟩ = some (.int .i64 x.r.e) := by rw [← hW1]; simp [go_sem]
      have v4 : W1.cell? ⟨wr.heap.size, 4, none⟩ = some (.int .i64 x.i) := by rw [← hW1]; simp [go_sem]
      have v5 : W1.cell? ⟨wr.heap.size, 5, none⟩ = some (.int .i64 x.o) := by rw [← hW1]; simp [go_sem]
      have hBW : Below wr.heap.size wr W1 := by rw [← hW1]; exact (Below.refl _ _).alloc (Nat.le_refl _) _
      replace g0 := cellBelow hBW (Nat.lt_of_lt_of_le ls hbr.size) g0
      replace g1 := cellBelow hBW (Nat.lt_of_lt_of_le ls hbr.size) g1
      have lV : wr.heap.size < W1.heap.size := by rw [← hW1]; simp
      have lG : G < W1.heap.size := by have := hbr.size; omega
      have lb : b < W1.heap.size := by omega
      have BW := Lib.hid (hbr.trans (hBW.mono hbr.size))
      obtain ⟨V, hV⟩ : ∃ V, wr.heap.size = V := ⟨_, rfl⟩
      rw [hV] at v0 v1 v2 v3 v4 v5 lV ⊢
      clear hW1 hV hBW hbr c0 c1 c2 c3 c4 c5 hb
      obtain ⟨ro, hro⟩ : ∃ ro, rowOk x.r = ro := ⟨_, rfl⟩
      have HRO := Lib.hid hro
      clear hro
      cases ro
      · have HI1 := HRO
        have HI2 := HRO
        have HVB := Lib.hid (show verB now x = false from by simp [verB, HRO.out])
        go_wp2_with fail
        refine wp_region_later (by kernel_rfl) (by kernel_rfl) ?_
        intro f hf1 hf2 hfc
        repeat (go_big_quiet_step ((first | (go_at_call 105; exact calls_later hf1 hf2 (rowS_val x.r _ _ hm.1 hm.2 HRO.out)) | (go_at_call 106; exact calls_later hf1 hf2 (inL_val _ _ _ _ _ HI1.out)) | (go_at_call 106; exact calls_later hf1 hf2 (inL_val _ _ _ _ _ HI2.out)))))
        refine wpQuiet_nil ?_
        rintro _ ⟨v, rfl⟩
        have Hv := Lib.hid (BW.out.trans ((hf1.out v).mono BW.out.size))
        clear hfc
        go_wp2
        go_ret
        exact ⟨ret_bool (by rw [storeB_vers (versB_no hlt (verAt_false HX.out HVB.out))]), B0.out.trans (Hv.out.mono B0.out.size)⟩
      · obtain ⟨i1, hi1⟩ : ∃ i1, inB x.i 1 now = i1 := ⟨_, rfl⟩
        have HI1 := Lib.hid hi1
        clear hi1
        cases i1
        · have HI2 := HRO
          have HVB := Lib.hid (show verB now x = false from ver_no HI1.out)
          go_wp2_with fail
          refine wp_region_later (by kernel_rfl) (by kernel_rfl) ?_
          intro f hf1 hf2 hfc
          repeat (go_big_quiet_step ((first | (go_at_call 105; exact calls_later hf1 hf2 (rowS_val x.r _ _ hm.1 hm.2 HRO.out)) | (go_at_call 106; exact calls_later hf1 hf2 (inL_val _ _ _ _ _ HI1.out)) | (go_at_call 106; exact calls_later hf1 hf2 (inL_val _ _ _ _ _ HI2.out)))))
          refine wpQuiet_nil ?_
          rintro _ ⟨v, rfl⟩
          have Hv := Lib.hid (BW.out.trans ((hf1.out v).mono BW.out.size))
          clear hfc
          go_wp2
          go_ret
          exact ⟨ret_bool (by rw [storeB_vers (versB_no hlt (verAt_false HX.out HVB.out))]), B0.out.trans (Hv.out.mono B0.out.size)⟩
        · have hr1 := inB_true HI1.out
          have hr2 : x.i ≤ 30 := by omega
          have hwr : IntKind.i64.wrap (x.i + 1) = x.i + 1 := IntWalk.i64_in _ (by omega)
          by_cases h9 : x.o = 999
          · have h9a : (x.o == 999) = true := by simpa using h9
            have h9b : (x.o != 999) = false := by simpa using h9
            have HI2 := HRO
            have HVB := Lib.hid (show verB now x = true from ver_yes HRO.out HI1.out (.inl h9) hr2)
            clear hwr
            clear h9
            by_cases hk0 : k = 0
            · have HVA := Lib.hid (show verAt zs now k = true from by rw [verAt_of HX.out hk0, HVB.out])
              subst hk0
              go_wp2_with fail
              refine wp_region_later (by kernel_rfl) (by kernel_rfl) ?_
              intro f hf1 hf2 hfc
              repeat (go_big_quiet_step ((first | (go_at_call 105; exact calls_later hf1 hf2 (rowS_val x.r _ _ hm.1 hm.2 HRO.out)) | (go_at_call 106; exact calls_later hf1 hf2 (inL_val _ _ _ _ _ HI1.out)) | (go_at_call 106; exact calls_later hf1 hf2 (inL_val _ _ _ _ _ HI2.out)))))
              refine wpQuiet_nil ?_
              rintro _ ⟨v, rfl⟩
              have Hv := Lib.hid (BW.out.trans ((hf1.out v).mono BW.out.size))
              clear hfc
              go_wp2
              go_roundw
              case rel =>
                exact ⟨0 + 1, by omega, by go_num, fun j hj => by
                  by_cases e : j = 0
                  · subst e; rw [HVA.out]
                  · exact Hall.out j (by omega), Hv.out⟩
              case measure => simp [intOf]; omega
            · obtain ⟨b1, off1, y, e1, _, hy, _, _, _, _, z4, _⟩ := (HZ.out.below BW.out).at_ (show k - 1 < zs.length by omega)
              injection e1 with e1
              injection e1 with e2 e3 _
              subst e2 e3
              have HVA := Lib.hid (verAt_of2 (now := now) HX.out hk0 hy)
              rw [HVB.out, Bool.true_and] at HVA
              have hkp : (0 : Int) < (k : Int) := by omega
              have hkN : 0 < k := by omega
              have hkp1 : (0 : Int) ≤ (k : Int) - 1 := by omega
              have hkp2 : (k : Int) - 1 < (zs.length : Int) := by omega
              have hkn : ((k : Int) - 1).toNat = k - 1 := by omega
              clear hy
              by_cases hxy : x.i < y.i
              · skip
                go_wp2_with fail
                refine wp_region_later (by kernel_rfl) (by kernel_rfl) ?_
                intro f hf1 hf2 hfc
                repeat (go_big_quiet_step ((first | (go_at_call 105; exact calls_later hf1 hf2 (rowS_val x.r _ _ hm.1 hm.2 HRO.out)) | (go_at_call 106; exact calls_later hf1 hf2 (inL_val _ _ _ _ _ HI1.out)) | (go_at_call 106; exact calls_later hf1 hf2 (inL_val _ _ _ _ _ HI2.out)))))
                refine wpQuiet_nil ?_
                rintro _ ⟨v, rfl⟩
                have Hv := Lib.hid (BW.out.trans ((hf1.out v).mono BW.out.size))
                clear hfc
                go_wp2
                go_ret
                exact ⟨ret_bool (by rw [storeB_vers (versB_no hlt (by rw [HVA.out, decide_eq_false_iff_not]; omega))]), B0.out.trans (Hv.out.mono B0.out.size)⟩
              · have hyx : y.i ≤ x.i := by omega
                have HYX := Lib.hid hyx
                have hxd : decide (x.i < y.i) = false := decide_eq_false hxy
                clear hxy
                go_wp2_with fail
                refine wp_region_later (by kernel_rfl) (by kernel_rfl) ?_
                intro f hf1 hf2 hfc
                repeat (go_big_quiet_step ((first | (go_at_call 105; exact calls_later hf1 hf2 (rowS_val x.r _ _ hm.1 hm.2 HRO.out)) | (go_at_call 106; exact calls_later hf1 hf2 (inL_val _ _ _ _ _ HI1.out)) | (go_at_call 106; exact calls_later hf1 hf2 (inL_val _ _ _ _ _ HI2.out)))))
                refine wpQuiet_nil ?_
                rintro _ ⟨v, rfl⟩
                have Hv := Lib.hid (BW.out.trans ((hf1.out v).mono BW.out.size))
                clear hfc
                go_wp2
                go_roundw
                case rel =>
                  exact ⟨k + 1, by omega, by go_num, fun j hj => by
                    by_cases e : j = k
                    · subst e; rw [HVA.out, decide_eq_true_iff]; exact HYX.out
                    · exact Hall.out j (by omega), Hv.out⟩
                case measure => simp [intOf]; omega
          · have h9a : (x.o == 999) = false := by simpa using h9
            have h9b : (x.o != 999) = true := by simpa using h9
            obtain ⟨z, hz⟩ : ∃ z, x.i + 1 = z := ⟨_, rfl⟩
            obtain ⟨i2, hi2⟩ : ∃ i2, inB x.o z now = i2 := ⟨_, rfl⟩
            have HI2 := Lib.hid hi2
            clear hi2
            rw [hz] at hwr
            have HI3 := Lib.hid (show inB x.o (x.i + 1) now = i2 from by rw [hz]; exact HI2.out)
            cases i2
            · skip
              have HVB := Lib.hid (show verB now x = false from ver_no2 h9 HI3.out)
              clear h9
              go_wp2_with fail
              refine wp_region_later (by kernel_rfl) (by kernel_rfl) ?_
              intro f hf1 hf2 hfc
              repeat (go_big_quiet_step ((first | (go_at_call 105; exact calls_later hf1 hf2 (rowS_val x.r _ _ hm.1 hm.2 HRO.out)) | (go_at_call 106; exact calls_later hf1 hf2 (inL_val _ _ _ _ _ HI1.out)) | (go_at_call 106; exact calls_later hf1 hf2 (inL_val _ _ _ _ _ HI2.out)))))
              refine wpQuiet_nil ?_
              rintro _ ⟨v, rfl⟩
              have Hv := Lib.hid (BW.out.trans ((hf1.out v).mono BW.out.size))
              clear hfc
              go_wp2
              go_ret
              exact ⟨ret_bool (by rw [storeB_vers (versB_no hlt (verAt_false HX.out HVB.out))]), B0.out.trans (Hv.out.mono B0.out.size)⟩
            · skip
              have HVB := Lib.hid (show verB now x = true from ver_yes HRO.out HI1.out (.inr HI3.out) hr2)
              clear h9
              by_cases hk0 : k = 0
              · have HVA := Lib.hid (show verAt zs now k = true from by rw [verAt_of HX.out hk0, HVB.out])
                subst hk0
                go_wp2_with fail
                refine wp_region_later (by kernel_rfl) (by kernel_rfl) ?_
                intro f hf1 hf2 hfc
                repeat (go_big_quiet_step ((first | (go_at_call 105; exact calls_later hf1 hf2 (rowS_val x.r _ _ hm.1 hm.2 HRO.out)) | (go_at_call 106; exact calls_later hf1 hf2 (inL_val _ _ _ _ _ HI1.out)) | (go_at_call 106; exact calls_later hf1 hf2 (inL_val _ _ _ _ _ HI2.out)))))
                refine wpQuiet_nil ?_
                rintro _ ⟨v, rfl⟩
                have Hv := Lib.hid (BW.out.trans ((hf1.out v).mono BW.out.size))
                clear hfc
                go_wp2
                go_roundw
                case rel =>
                  exact ⟨0 + 1, by omega, by go_num, fun j hj => by
                    by_cases e : j = 0
                    · subst e; rw [HVA.out]
                    · exact Hall.out j (by omega), Hv.out⟩
                case measure => simp [intOf]; omega
              · obtain ⟨b1, off1, y, e1, _, hy, _, _, _, _, z4, _⟩ := (HZ.out.below BW.out).at_ (show k - 1 < zs.length by omega)
                injection e1 with e1
                injection e1 with e2 e3 _
                subst e2 e3
                have HVA := Lib.hid (verAt_of2 (now := now) HX.out hk0 hy)
                rw [HVB.out, Bool.true_and] at HVA
                have hkp : (0 : Int) < (k : Int) := by omega
                have hkN : 0 < k := by omega
                have hkp1 : (0 : Int) ≤ (k : Int) - 1 := by omega
                have hkp2 : (k : Int) - 1 < (zs.length : Int) := by omega
                have hkn : ((k : Int) - 1).toNat = k - 1 := by omega
                clear hy
                by_cases hxy : x.i < y.i
                · skip
                  go_wp2_with fail
                  refine wp_region_later (by kernel_rfl) (by kernel_rfl) ?_
                  intro f hf1 hf2 hfc
                  repeat (go_big_quiet_step ((first | (go_at_call 105; exact calls_later hf1 hf2 (rowS_val x.r _ _ hm.1 hm.2 HRO.out)) | (go_at_call 106; exact calls_later hf1 hf2 (inL_val _ _ _ _ _ HI1.out)) | (go_at_call 106; exact calls_later hf1 hf2 (inL_val _ _ _ _ _ HI2.out)))))
                  refine wpQuiet_nil ?_
                  rintro _ ⟨v, rfl⟩
                  have Hv := Lib.hid (BW.out.trans ((hf1.out v).mono BW.out.size))
                  clear hfc
                  go_wp2
                  go_ret
                  exact ⟨ret_bool (by rw [storeB_vers (versB_no hlt (by rw [HVA.out, decide_eq_false_iff_not]; omega))]), B0.out.trans (Hv.out.mono B0.out.size)⟩
                · have hyx : y.i ≤ x.i := by omega
                  have HYX := Lib.hid hyx
                  have hxd : decide (x.i < y.i) = false := decide_eq_false hxy
                  clear hxy
                  go_wp2_with fail
                  refine wp_region_later (by kernel_rfl) (by kernel_rfl) ?_
                  intro f hf1 hf2 hfc
                  repeat (go_big_quiet_step ((first | (go_at_call 105; exact calls_later hf1 hf2 (rowS_val x.r _ _ hm.1 hm.2 HRO.out)) | (go_at_call 106; exact calls_later hf1 hf2 (inL_val _ _ _ _ _ HI1.out)) | (go_at_call 106; exact calls_later hf1 hf2 (inL_val _ _ _ _ _ HI2.out)))))
                  refine wpQuiet_nil ?_
                  rintro _ ⟨v, rfl⟩
                  have Hv := Lib.hid (BW.out.trans ((hf1.out v).mono BW.out.size))
                  clear hfc
                  go_wp2
                  go_roundw
                  case rel =>
                    exact ⟨k + 1, by omega, by go_num, fun j hj => by
                      by_cases e : j = k
                      · subst e; rw [HVA.out, decide_eq_true_iff]; exact HYX.out
                      · exact Hall.out j (by omega), Hv.out⟩
                  case measure => simp [intOf]; omega
    · obtain rfl : k = zs.length := by omega
      have BR := Lib.hid hbr
      clear hbr
      go_wp2_with fail
      refine (in_any now 0 30 _).mono ?_
      rintro e w1 ⟨rfl, rfl⟩
      rw [show inB now 0 30 = true from by unfold inB; rw [decide_eq_true_iff]; omega]
      by_cases hlen : zs.length ≤ 120
      · have HVS := Lib.hid (versB_yes (now := now) hlen (fun j hj => Hall.out j hj))
        have HST := Lib.hid (storeB_in ⟨hn0, hn1⟩ HVS.out)
        have hlenI : (zs.length : Int) ≤ 120 := by omega
        go_wp2
        clear g0 g1
        go_loopw [5] (fun i wi => ∃ q : Nat, (q : Int) ≤ now + 1 ∧ i = .int .i64 q ∧ (∀ j : Nat, j < q → relOk (liveS zs j) = true) ∧ Below W0.heap.size W0 wi) (fun i _ => 31 - (intOf i).toNat)
        case atStart => exact ⟨0, by omega, rfl, fun j hj => absurd hj (by omega), BR.out⟩
        case round =>
          obtain ⟨q, hq, rfl, hall, hbi⟩ := hrel
          have Hal2 := Lib.hid hall
          clear hall
          have g0 := cellBelow hbi ls S0.out
          have g1 := cellBelow hbi ls S1.out
          by_cases hlt2 : (q : Int) ≤ now
          · have hqz0 : (0 : Int) ≤ (q : Int) := by omega
            have hsl := liveS_len zs q
            have HSL := Lib.hid (liveS_short (s := q) HS.out)
            obtain ⟨l, hll⟩ : ∃ l, liveS zs q = l := ⟨_, rfl⟩
            have HL := Lib.hid hll
            rw [hll] at hsl HSL
            obtain ⟨ro, hro⟩ : ∃ ro, relOk l = ro := ⟨_, rfl⟩
            have HRO := Lib.hid hro
            have BI := Lib.hid hbi
            clear hbi hll hro
            go_wp2_with fail
            refine (l5Live_any A cap zs q _ (HZ.out.below BI.out) hl).mono ?_
            rw [HL.out]
            rintro e w2 ⟨A2, c2, rfl, ho2, hb2⟩
            have R2 := Lib.hid (show RowsA w2 A2 l from el_of_owns rowC_len ho2)
            have B2 := Lib.hid (BI.out.trans (hb2.mono BI.out.size))
            clear ho2 hb2 g0 g1 BI
            go_wp2_with fail
            refine (l2Ok_any A2 c2 l _ R2.out (by omega) HSL.out).mono ?_
            rw [HRO.out]
            rintro e w3 ⟨rfl, hb3⟩
            have B3 := Lib.hid (B2.out.trans (hb3.mono B2.out.size))
            clear hb3 B2 R2
            cases ro
            · have HN := Lib.hid (show storeB zs now = false from by rw [HST.out]; exact stampsB_no hlt2 (by rw [HL.out]; exact HRO.out))
              have BZ := Lib.hid (B0.out.trans (B3.out.mono B0.out.size))
              go_wp2
              go_ret
              exact ⟨ret_bool HN.out.symm, BZ.out⟩
            · go_wp2
              go_roundw
              case rel => exact ⟨q + 1, by omega, by go_num, fun j hj => by
                by_cases e : j = q
                · subst e; rw [HL.out]; exact HRO.out
                · exact Hal2.out j (by omega), B3.out⟩
              case measure => simp [intOf]; omega
          · have hk1 : now < (q : Int) := by omega
            have HY := Lib.hid (show storeB zs now = true from by rw [HST.out]; exact stampsB_yes (fun s hs => Hal2.out s (by omega)))
            have BZ := Lib.hid (B0.out.trans (hbi.mono B0.out.size))
            clear hbi
            go_wp2
            go_ret
            exact ⟨ret_bool HY.out.symm, BZ.out⟩
      · have HN := Lib.hid (storeB_vers (versB_long (vs := zs) (now := now) (by omega)))
        have hlenI : (120 : Int) < (zs.length : Int) := by omega
        have BZ := Lib.hid (B0.out.trans (BR.out.mono B0.out.size))
        go_wp2
        go_ret
        exact ⟨ret_bool HN.out.symm, BZ.out⟩

set_option maxRecDepth 100000 in
set_option maxHeartbeats 8000000 in
theorem l5Ok_out (A : Option Addr) (cap : Nat) (zs : List VerV) (now : Int) (w : World) (hz : VersA w A zs) (hl : zs.length ≤ 1048576) (hs : ShortV zs) (hn : ¬ (0 ≤ now ∧ now ≤ 30)) :
    Calls Try.prog 70 #[.agg #[.int .i64 now, .slice A zs.length cap]] w fun e w' => e = .returned (.bool (storeB zs now)) ∧ Below w.heap.size w w' := by
  have HS := Lib.hid hs
  clear hs
  have HN := Lib.hid (storeB_now (vs := zs) hn)
  have HNB := Lib.hid (show inB now 0 30 = false from by unfold inB; rw [decide_eq_false_iff_not]; exact hn)
  clear hn
  go_enter Try.func70, Try.ntmps70
  go_wp2
  generalize hW : w.alloc _ = W0
  have s0 : W0.cell? ⟨w.heap.size, 0, none⟩ = some (.int .i64 now) := by rw [← hW]; simp [go_sem]
  have s1 : W0.cell? ⟨w.heap.size, 1, none⟩ = some (.slice A zs.length cap) := by rw [← hW]; simp [go_sem]
  have ls : w.heap.size < W0.heap.size := by rw [← hW]; simp
  have B0 := Lib.hid (show Below w.heap.size w W0 from by rw [← hW]; exact (Below.refl _ _).alloc (Nat.le_refl _) _)
  have HZ := Lib.hid (hz.below B0.out)
  obtain ⟨G, hG⟩ : ∃ G, w.heap.size = G := ⟨_, rfl⟩
  rw [hG] at s0 s1 ls ⊢
  have S0 := Lib.hid s0
  have S1 := Lib.hid s1
  clear hW hG hz s0 s1
  go_loopw [3] (fun i wr => ∃ k : Nat, k ≤ zs.length ∧ i = .int .i64 k ∧ Below W0.heap.size W0 wr) (fun i _ => zs.length - (intOf i).toNat)
  case atStart => exact ⟨0, Nat.zero_le _, rfl, Below.refl _ _⟩
  case round =>
    obtain ⟨k, hk, rfl, hbr⟩ := hrel
    have g0 := cellBelow hbr ls S0.out
    have g1 := cellBelow hbr ls S1.out
    by_cases hlt : k < zs.length
    · obtain ⟨b, off, x, rfl, hb, hx, c0, c1, c2, c3, c4, c5⟩ := (HZ.out.below hbr).at_ hlt
      have hm := HS.out x (List.mem_of_getElem? hx)
      have HX := Lib.hid hx
      have hkz : (k : Int) < (zs.length : Int) := by omega
      have hkz0 : (0 : Int) ≤ (k : Int) := by omega
      clear hx
      go_wp2_with fail
      generalize hW1 : wr.alloc _ = W1
      have v0 : W1.cell? ⟨wr.heap.size, 0, none⟩ = some (.string x.r.k) := by rw [← hW1]; simp [go_sem]
      have v1 : W1.cell? ⟨wr.heap.size, 1, none⟩ = some (.string x.r.t) := by rw [← hW1]; simp [go_sem]
      have v2 : W1.cell? ⟨wr.heap.size, 2, none⟩ = some (.int .i64 x.r.f) := by rw [← hW1]; simp [go_sem]
      have v3 : W1.cell? ⟨wr.heap.size, 3, none⟩ = some (.int .i64 x.r.e) := by rw [← hW1]; simp [go_sem]
      have v4 : W1.cell? ⟨wr.heap.size, 4, none⟩ = some (.int .i64 x.i) := by rw [← hW1]; simp [go_sem]
      have v5 : W1.cell? ⟨wr.heap.size, 5, none⟩ = some (.int .i64 x.o) := by rw [← hW1]; simp [go_sem]
      have hBW : Below wr.heap.size wr W1 := by rw [← hW1]; exact (Below.refl _ _).alloc (Nat.le_refl _) _
      replace g0 := cellBelow hBW (Nat.lt_of_lt_of_le ls hbr.size) g0
      replace g1 := cellBelow hBW (Nat.lt_of_lt_of_le ls hbr.size) g1
      have lV : wr.heap.size < W1.heap.size := by rw [← hW1]; simp
      have lG : G < W1.heap.size := by have := hbr.size; omega
      have lb : b < W1.heap.size := by omega
      have BW := Lib.hid (hbr.trans (hBW.mono hbr.size))
      obtain ⟨V, hV⟩ : ∃ V, wr.heap.size = V := ⟨_, rfl⟩
      rw [hV] at v0 v1 v2 v3 v4 v5 lV ⊢
      clear hW1 hV hBW hbr c0 c1 c2 c3 c4 c5 hb
      obtain ⟨ro, hro⟩ : ∃ ro, rowOk x.r = ro := ⟨_, rfl⟩
      have HRO := Lib.hid hro
      clear hro
      cases ro
      · have HI1 := HRO
        have HI2 := HRO
        go_wp2_with fail
        refine wp_region_later (by kernel_rfl) (by kernel_rfl) ?_
        intro f hf1 hf2 hfc
        repeat (go_big_quiet_step ((first | (go_at_call 105; exact calls_later hf1 hf2 (rowS_val x.r _ _ hm.1 hm.2 HRO.out)) | (go_at_call 106; exact calls_later hf1 hf2 (inL_val _ _ _ _ _ HI1.out)) | (go_at_call 106; exact calls_later hf1 hf2 (inL_val _ _ _ _ _ HI2.out)))))
        refine wpQuiet_nil ?_
        rintro _ ⟨v, rfl⟩
        have Hv := Lib.hid (BW.out.trans ((hf1.out v).mono BW.out.size))
        clear hfc
        go_wp2
        go_ret
        exact ⟨ret_bool (by rw [HN.out]), B0.out.trans (Hv.out.mono B0.out.size)⟩
      · obtain ⟨i1, hi1⟩ : ∃ i1, inB x.i 1 now = i1 := ⟨_, rfl⟩
        have HI1 := Lib.hid hi1
        clear hi1
        cases i1
        · have HI2 := HRO
          go_wp2_with fail
          refine wp_region_later (by kernel_rfl) (by kernel_rfl) ?_
          intro f hf1 hf2 hfc
          repeat (go_big_quiet_step ((first | (go_at_call 105; exact calls_later hf1 hf2 (rowS_val x.r _ _ hm.1 hm.2 HRO.out)) | (go_at_call 106; exact calls_later hf1 hf2 (inL_val _ _ _ _ _ HI1.out)) | (go_at_call 106; exact calls_later hf1 hf2 (inL_val _ _ _ _ _ HI2.out)))))
          refine wpQuiet_nil ?_
          rintro _ ⟨v, rfl⟩
          have Hv := Lib.hid (BW.out.trans ((hf1.out v).mono BW.out.size))
          clear hfc
          go_wp2
          go_ret
          exact ⟨ret_bool (by rw [HN.out]), B0.out.trans (Hv.out.mono B0.out.size)⟩
        · have hr1 := inB_true HI1.out
          by_cases h9 : x.o = 999
          · have h9a : (x.o == 999) = true := by simpa using h9
            have h9b : (x.o != 999) = false := by simpa using h9
            have HI2 := HRO
            clear h9
            by_cases hk0 : k = 0
            · subst hk0
              go_wp2_with fail
              refine wp_region_later (by kernel_rfl) (by kernel_rfl) ?_
              intro f hf1 hf2 hfc
              repeat (go_big_quiet_step ((first | (go_at_call 105; exact calls_later hf1 hf2 (rowS_val x.r _ _ hm.1 hm.2 HRO.out)) | (go_at_call 106; exact calls_later hf1 hf2 (inL_val _ _ _ _ _ HI1.out)) | (go_at_call 106; exact calls_later hf1 hf2 (inL_val _ _ _ _ _ HI2.out)))))
              refine wpQuiet_nil ?_
              rintro _ ⟨v, rfl⟩
              have Hv := Lib.hid (BW.out.trans ((hf1.out v).mono BW.out.size))
              clear hfc
              go_wp2
              go_roundw
              case rel => exact ⟨0 + 1, by omega, by go_num, Hv.out⟩
              case measure => simp [intOf]; omega
            · obtain ⟨b1, off1, y, e1, _, hy, _, _, _, _, z4, _⟩ := (HZ.out.below BW.out).at_ (show k - 1 < zs.length by omega)
              injection e1 with e1
              injection e1 with e2 e3 _
              subst e2 e3
              have HVA := Lib.hid (verAt_of2 (now := now) HX.out hk0 hy)
              have hkp : (0 : Int) < (k : Int) := by omega
              have hkN : 0 < k := by omega
              have hkp1 : (0 : Int) ≤ (k : Int) - 1 := by omega
              have hkp2 : (k : Int) - 1 < (zs.length : Int) := by omega
              have hkn : ((k : Int) - 1).toNat = k - 1 := by omega
              clear hy
              by_cases hxy : x.i < y.i
              · skip
                go_wp2_with fail
                refine wp_region_later (by kernel_rfl) (by kernel_rfl) ?_
                intro f hf1 hf2 hfc
                repeat (go_big_quiet_step ((first | (go_at_call 105; exact calls_later hf1 hf2 (rowS_val x.r _ _ hm.1 hm.2 HRO.out)) | (go_at_call 106; exact calls_later hf1 hf2 (inL_val _ _ _ _ _ HI1.out)) | (go_at_call 106; exact calls_later hf1 hf2 (inL_val _ _ _ _ _ HI2.out)))))
                refine wpQuiet_nil ?_
                rintro _ ⟨v, rfl⟩
                have Hv := Lib.hid (BW.out.trans ((hf1.out v).mono BW.out.size))
                clear hfc
                go_wp2
                go_ret
                exact ⟨ret_bool (by rw [HN.out]), B0.out.trans (Hv.out.mono B0.out.size)⟩
              · have hyx : y.i ≤ x.i := by omega
                have HYX := Lib.hid hyx
                have hxd : decide (x.i < y.i) = false := decide_eq_false hxy
                clear hxy
                go_wp2_with fail
                refine wp_region_later (by kernel_rfl) (by kernel_rfl) ?_
                intro f hf1 hf2 hfc
                repeat (go_big_quiet_step ((first | (go_at_call 105; exact calls_later hf1 hf2 (rowS_val x.r _ _ hm.1 hm.2 HRO.out)) | (go_at_call 106; exact calls_later hf1 hf2 (inL_val _ _ _ _ _ HI1.out)) | (go_at_call 106; exact calls_later hf1 hf2 (inL_val _ _ _ _ _ HI2.out)))))
                refine wpQuiet_nil ?_
                rintro _ ⟨v, rfl⟩
                have Hv := Lib.hid (BW.out.trans ((hf1.out v).mono BW.out.size))
                clear hfc
                go_wp2
                go_roundw
                case rel => exact ⟨k + 1, by omega, by go_num, Hv.out⟩
                case measure => simp [intOf]; omega
          · have h9a : (x.o == 999) = false := by simpa using h9
            have h9b : (x.o != 999) = true := by simpa using h9
            obtain ⟨z, hz⟩ : ∃ z, IntKind.i64.wrap (x.i + 1) = z := ⟨_, rfl⟩
            obtain ⟨i2, hi2⟩ : ∃ i2, inB x.o z now = i2 := ⟨_, rfl⟩
            have HI2 := Lib.hid hi2
            clear hi2
            cases i2
            · skip
              clear h9
              go_wp2_with fail
              refine wp_region_later (by kernel_rfl) (by kernel_rfl) ?_
              intro f hf1 hf2 hfc
              repeat (go_big_quiet_step ((first | (go_at_call 105; exact calls_later hf1 hf2 (rowS_val x.r _ _ hm.1 hm.2 HRO.out)) | (go_at_call 106; exact calls_later hf1 hf2 (inL_val _ _ _ _ _ HI1.out)) | (go_at_call 106; exact calls_later hf1 hf2 (inL_val _ _ _ _ _ HI2.out)))))
              refine wpQuiet_nil ?_
              rintro _ ⟨v, rfl⟩
              have Hv := Lib.hid (BW.out.trans ((hf1.out v).mono BW.out.size))
              clear hfc
              go_wp2
              go_ret
              exact ⟨ret_bool (by rw [HN.out]), B0.out.trans (Hv.out.mono B0.out.size)⟩
            · skip
              clear h9
              by_cases hk0 : k = 0
              · subst hk0
                go_wp2_with fail
                refine wp_region_later (by kernel_rfl) (by kernel_rfl) ?_
                intro f hf1 hf2 hfc
                repeat (go_big_quiet_step ((first | (go_at_call 105; exact calls_later hf1 hf2 (rowS_val x.r _ _ hm.1 hm.2 HRO.out)) | (go_at_call 106; exact calls_later hf1 hf2 (inL_val _ _ _ _ _ HI1.out)) | (go_at_call 106; exact calls_later hf1 hf2 (inL_val _ _ _ _ _ HI2.out)))))
                refine wpQuiet_nil ?_
                rintro _ ⟨v, rfl⟩
                have Hv := Lib.hid (BW.out.trans ((hf1.out v).mono BW.out.size))
                clear hfc
                go_wp2
                go_roundw
                case rel => exact ⟨0 + 1, by omega, by go_num, Hv.out⟩
                case measure => simp [intOf]; omega
              · obtain ⟨b1, off1, y, e1, _, hy, _, _, _, _, z4, _⟩ := (HZ.out.below BW.out).at_ (show k - 1 < zs.length by omega)
                injection e1 with e1
                injection e1 with e2 e3 _
                subst e2 e3
                have HVA := Lib.hid (verAt_of2 (now := now) HX.out hk0 hy)
                have hkp : (0 : Int) < (k : Int) := by omega
                have hkN : 0 < k := by omega
                have hkp1 : (0 : Int) ≤ (k : Int) - 1 := by omega
                have hkp2 : (k : Int) - 1 < (zs.length : Int) := by omega
                have hkn : ((k : Int) - 1).toNat = k - 1 := by omega
                clear hy
                by_cases hxy : x.i < y.i
                · skip
                  go_wp2_with fail
                  refine wp_region_later (by kernel_rfl) (by kernel_rfl) ?_
                  intro f hf1 hf2 hfc
                  repeat (go_big_quiet_step ((first | (go_at_call 105; exact calls_later hf1 hf2 (rowS_val x.r _ _ hm.1 hm.2 HRO.out)) | (go_at_call 106; exact calls_later hf1 hf2 (inL_val _ _ _ _ _ HI1.out)) | (go_at_call 106; exact calls_later hf1 hf2 (inL_val _ _ _ _ _ HI2.out)))))
                  refine wpQuiet_nil ?_
                  rintro _ ⟨v, rfl⟩
                  have Hv := Lib.hid (BW.out.trans ((hf1.out v).mono BW.out.size))
                  clear hfc
                  go_wp2
                  go_ret
                  exact ⟨ret_bool (by rw [HN.out]), B0.out.trans (Hv.out.mono B0.out.size)⟩
                · have hyx : y.i ≤ x.i := by omega
                  have HYX := Lib.hid hyx
                  have hxd : decide (x.i < y.i) = false := decide_eq_false hxy
                  clear hxy
                  go_wp2_with fail
                  refine wp_region_later (by kernel_rfl) (by kernel_rfl) ?_
                  intro f hf1 hf2 hfc
                  repeat (go_big_quiet_step ((first | (go_at_call 105; exact calls_later hf1 hf2 (rowS_val x.r _ _ hm.1 hm.2 HRO.out)) | (go_at_call 106; exact calls_later hf1 hf2 (inL_val _ _ _ _ _ HI1.out)) | (go_at_call 106; exact calls_later hf1 hf2 (inL_val _ _ _ _ _ HI2.out)))))
                  refine wpQuiet_nil ?_
                  rintro _ ⟨v, rfl⟩
                  have Hv := Lib.hid (BW.out.trans ((hf1.out v).mono BW.out.size))
                  clear hfc
                  go_wp2
                  go_roundw
                  case rel => exact ⟨k + 1, by omega, by go_num, Hv.out⟩
                  case measure => simp [intOf]; omega
    · obtain rfl : k = zs.length := by omega
      have BZ := Lib.hid (B0.out.trans (hbr.mono B0.out.size))
      clear hbr
      go_wp2_with fail
      refine (in_any now 0 30 _).mono ?_
      rintro e w1 ⟨rfl, rfl⟩
      rw [HNB.out]
      go_wp2
      go_ret
      exact ⟨ret_bool HN.out.symm, BZ.out⟩

theorem l5Ok_any (A : Option Addr) (cap : Nat) (zs : List VerV) (now : Int) (w : World) (hz : VersA w A zs) (hl : zs.length ≤ 1048576) (hs : ShortV zs) :
    Calls Try.prog 70 #[.agg #[.int .i64 now, .slice A zs.length cap]] w fun e w' => e = .returned (.bool (storeB zs now)) ∧ Below w.heap.size w w' := by
  by_cases h : 0 ≤ now ∧ now ≤ 30
  · exact l5Ok_in A cap zs now w hz hl hs h.1 h.2
  · exact l5Ok_out A cap zs now w hz hl hs h

set_option maxHeartbeats 1000000 in
theorem sStoreOk_any (A : Option Addr) (cap : Nat) (zs : List VerV) (now : Int) (w : World) (hz : VersA w A zs) (hl : zs.length ≤ 1048576) (hs : ShortV zs) :
    Calls Try.prog 51 #[.agg #[.int .i64 now, .slice A zs.length cap]] w fun e w' => e = .returned (.bool (storeB zs now)) ∧ Below w.heap.size w w' := by
  have HZ := Lib.hid hz
  have HS := Lib.hid hs
  clear hz hs
  go_enter Try.func51, Try.ntmps51
  go_wp2_with fail
  refine (l5Ok_any A cap zs now _ (HZ.out.below ((Below.refl _ _).alloc (Nat.le_refl _) _)) hl HS.out).mono ?_
  rintro e w1 ⟨rfl, hb⟩
  have B1 := Lib.hid (((Below.refl _ _).alloc (Nat.le_refl _) _).trans (hb.mono (by simp)))
  clear hb
  go_wp2
  go_ret
  exact ⟨rfl, B1.out⟩
end Go.Proofs.Ytacddgipcafdlaa
