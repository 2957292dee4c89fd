/-
  Walks: when a store is ok, as the program finds it.
-/
import Derived.Test.YtacddgipcafdlaaStoreA
import Derived.Test.YtacddgipcafdlaaRelS
namespace Go.Proofs.Ytacddgipcafdlaa
open Go.Shelf Go.RowKit Go.Lib Go.Sort

theorem versOk_val (A : Option Addr) (cap : Nat) (zs : List VerV) (now : Int) (w : World) (v : Bool) (hz : VersA w A zs) (hl : zs.length ≤ 1048577) (hs : ShortV zs) (h : versB zs now = v) :
    Calls Try.prog 92 #[.agg #[.int .i64 now, .slice A zs.length cap]] w fun e w' => e = .returned (.bool v) ∧ Below w.heap.size w w' := by
  subst h; exact versOk_any A cap zs now w hz hl hs

set_option maxRecDepth 100000 in
set_option maxHeartbeats 4000000 in
theorem StoreOk_any (A : Option Addr) (cap : Nat) (zs : List VerV) (now : Int) (w : World) (hz : VersA w A zs) (hl : zs.length ≤ 1048577) (hs : ShortV zs) :
    Calls Try.prog 50 #[.agg #[.int .i64 now, .slice A zs.length cap]] w fun e w' => e = .returned (.bool (storeB zs now)) ∧ Below w.heap.size w w' := by
  have HS := Lib.hid hs
  clear hs
  by_cases hn0 : now < 0
  · have HN := Lib.hid (storeB_now (vs := zs) (now := now) (by omega))
    go_enter Try.func50, Try.ntmps50
    go_wp2
    go_ret
    exact ⟨ret_bool HN.out.symm, (Below.refl _ _).alloc (Nat.le_refl _) _⟩
  · by_cases hn1 : 30 < now
    · have HN := Lib.hid (storeB_now (vs := zs) (now := now) (by omega))
      go_enter Try.func50, Try.ntmps50
      go_wp2
      go_ret
      exact ⟨ret_bool HN.out.symm, (Below.refl _ _).alloc (Nat.le_refl _) _⟩
    · have hn0' : 0 ≤ now := by omega
      have hn1' : now ≤ 30 := by omega
      clear hn0 hn1
      obtain ⟨vb, hvb⟩ : ∃ vb, versB zs now = vb := ⟨_, rfl⟩
      have HVB := Lib.hid hvb
      clear hvb
      go_enter Try.func50, Try.ntmps50
      go_wp2_with fail
      generalize hW : w.alloc _ = W0
      have s0 : W0.cell? ⟨w.heap.size, 0, none⟩ = some (.int .i64 now) := by rw [← hW]; simp [go_sem]
      have s1 : W0.cell? ⟨w.heap.size, 1, none⟩ = some (.slice A zs.length cap) := by rw [← hW]; simp [go_sem]
      have ls : w.heap.size < W0.heap.size := by rw [← hW]; simp
      have B0 := Lib.hid (show Below w.heap.size w W0 from by rw [← hW]; exact (Below.refl _ _).alloc (Nat.le_refl _) _)
      have HZ := Lib.hid (hz.below B0.out)
      obtain ⟨G, hG⟩ : ∃ G, w.heap.size = G := ⟨_, rfl⟩
      rw [hG] at s0 s1 ls ⊢
      clear hW hG hz
      refine (versOk_val A cap zs now _ vb HZ.out hl HS.out HVB.out).mono ?_
      rintro e w1 ⟨rfl, hb⟩
      replace s0 := cellBelow hb ls s0
      replace s1 := cellBelow hb ls s1
      replace ls := Nat.lt_of_lt_of_le ls hb.size
      have Z1 := Lib.hid (HZ.out.below hb)
      have B1 := Lib.hid (B0.out.trans (hb.mono B0.out.size))
      clear hb HZ B0
      cases vb
      · have HN := Lib.hid (storeB_vers HVB.out)
        go_wp2
        go_ret
        exact ⟨ret_bool HN.out.symm, B1.out⟩
      · have HST := Lib.hid (storeB_in ⟨hn0', hn1'⟩ HVB.out)
        have hlen := versB_len HVB.out
        have S0 := Lib.hid s0
        have S1 := Lib.hid s1
        go_wp2
        clear s0 s1
        go_loopw [20] (fun i wr => ∃ k : Nat, (k : Int) ≤ now + 1 ∧ i = .int .i64 k ∧ (∀ j : Nat, j < k → relOk (liveS zs j) = true) ∧ Below w1.heap.size w1 wr) (fun i _ => 31 - (intOf i).toNat)
        case atStart => exact ⟨0, by omega, rfl, fun j hj => absurd hj (by omega), Below.refl _ _⟩
        case round =>
          obtain ⟨k, hk, rfl, hall, hbr⟩ := hrel
          have Hall := Lib.hid hall
          clear hall
          by_cases hlt : (k : Int) ≤ now
          · have hk1 : (k : Int) < now + 1 := by omega
            have hkz0 : (0 : Int) ≤ (k : Int) := by omega
            have s0 := cellBelow hbr ls S0.out
            have s1 := cellBelow hbr ls S1.out
            have HMIN := Lib.hid (show min (k : Int) now = k from Int.min_eq_left hlt)
            have BR := Lib.hid hbr
            clear hbr
            go_wp2_with fail
            refine (storeAt_any A cap zs now k _ (Z1.out.below BR.out) hl).mono ?_
            rw [HMIN.out]
            rintro e w2 ⟨l, A2, c2, rfl, hord, hperm, ho2, hb2⟩
            have HE := Lib.hid (rel_perm_eq hord (liveS_facts zs k).1 (hperm.trans (liveS_facts zs k).2.symm))
            have HSL := Lib.hid (show ∀ r ∈ l, r.k.size ≤ maxLen ∧ r.t.size ≤ maxLen from fun r hr => live_short HS.out r (hperm.subset hr))
            have hll : l.length ≤ 1048577 := by rw [hperm.length_eq]; have := live_len zs k; omega
            have R2 := Lib.hid (show RowsA w2 A2 l from el_of_owns rowC_len ho2)
            have B2 := Lib.hid (BR.out.trans (hb2.mono BR.out.size))
            obtain ⟨ro, hro⟩ : ∃ ro, relOk l = ro := ⟨_, rfl⟩
            have HRO := Lib.hid hro
            rw [hro] at HE
            clear hord hperm ho2 hb2 s0 s1 BR hro
            go_wp2_with fail
            refine (RelOk_any A2 c2 l _ R2.out hll HSL.out).mono ?_
            rw [HRO.out]
            rintro e w3 ⟨rfl, hb3⟩
            have B3 := Lib.hid (B2.out.trans (hb3.mono B2.out.size))
            clear hb3 B2 R2
            cases ro
            · have HN := Lib.hid (show storeB zs now = false from by rw [HST.out]; exact stampsB_no hlt HE.out.symm)
              have BZ := Lib.hid (B1.out.trans (B3.out.mono B1.out.size))
              go_wp2
              go_ret
              exact ⟨ret_bool HN.out.symm, BZ.out⟩
            · go_wp2
              go_roundw
              case rel => exact ⟨k + 1, by omega, by go_num, fun j hj => by
                by_cases e : j = k
                · subst e; exact HE.out.symm
                · exact Hall.out j (by omega), B3.out⟩
              case measure => simp [intOf]; omega
          · have hk1 : now + 1 ≤ (k : Int) := by omega
            have HY := Lib.hid (show storeB zs now = true from by rw [HST.out]; exact stampsB_yes (fun s hs => Hall.out s (by omega)))
            have BZ := Lib.hid (B1.out.trans (hbr.mono B1.out.size))
            clear hbr
            go_wp2
            go_ret
            exact ⟨ret_bool HY.out.symm, BZ.out⟩
end Go.Proofs.Ytacddgipcafdlaa
