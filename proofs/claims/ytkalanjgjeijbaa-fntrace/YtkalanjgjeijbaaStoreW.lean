/-
  Walks: when a version is ok, when it holds, when versions are.
-/
import Derived.Test.YtkalanjgjeijbaaRowW
import Derived.Test.YtkalanjgjeijbaaRowT
import Derived.Test.YtkalanjgjeijbaaVerT
import Derived.Test.YtkalanjgjeijbaaRowS
import Derived.Test.YtkalanjgjeijbaaStoreD
import Derived.Test.YtkalanjgjeijbaaRelS
namespace Go.Proofs.Ytkalanjgjeijbaa
open Go.RowKit

def inTab (t : Int) : Bool := decide (0 ≤ t ∧ t ≤ 1)
def delOk (r : RowV) : Bool := wordB r.k && decide (r.t.size = 0) && okSpan r.f r.e
def opOk (k t : Int) (r : RowV) : Bool := inTab t && (if k = 2 then delOk r else decide (k = 1 ∨ k = 3 ∨ k = 4) && rowOk r)
theorem opOk_no {k t : Int} {r : RowV} (h : inTab t = false) : opOk k t r = false := by simp [opOk, h]
theorem opOk_del {k t : Int} {r : RowV} (h : inTab t = true) (hk : k = 2) : opOk k t r = delOk r := by simp [opOk, h, hk]
theorem opOk_row {k t : Int} {r : RowV} (h : inTab t = true) (hk : k = 1 ∨ k = 3 ∨ k = 4) : opOk k t r = rowOk r := by
  have : ¬ k = 2 := by omega
  simp [opOk, h, hk, this]
theorem opOk_none {k t : Int} {r : RowV} (h1 : ¬ k = 1) (h2 : ¬ k = 2) (h3 : ¬ k = 3) (h4 : ¬ k = 4) : opOk k t r = false := by simp [opOk, h1, h2, h3, h4]

/-- What szRow tells of a row. -/
def szL (r : RowV) (left : Int) : Int := if left - r.k.size < 0 then -1 else if left - r.k.size - r.t.size < 0 then -1 else left - r.k.size - r.t.size
theorem szL_or (r : RowV) (left : Int) : szL r left = -1 ∨ (0 ≤ szL r left ∧ szL r left ≤ left) := by
  unfold szL
  split
  · exact .inl rfl
  · split
    · exact .inl rfl
    · exact .inr ⟨by omega, by omega⟩

theorem empty_text {s : ByteArray} (h : ¬ s.size = 0) : (s.toList == (⟨#[]⟩ : ByteArray).toList) = false ∧ s.toList.isEmpty = false := by
  have h1 : (s.toList == (⟨#[]⟩ : ByteArray).toList) = false := by
    cases he : (s.toList == (⟨#[]⟩ : ByteArray).toList) with
    | false => rfl
    | true =>
      rw [beq_iff_eq, ByteArray.toList_eq, ByteArray.toList_eq] at he
      have h4 : s = ⟨#[]⟩ := by rw [ByteArray.ext_iff]; exact Array.ext' he
      exact absurd (by rw [h4]; rfl) h
  refine ⟨h1, ?_⟩
  cases he : s.toList with
  | nil => rw [he] at h1; simp [go_sem] at h1
  | cons a l => rfl
theorem size_nil {s : ByteArray} (h : s.size = 0) : s = ⟨#[]⟩ := by
  cases s with
  | mk d => simp [ByteArray.size] at h; subst h; rfl

theorem in_val (t : Int) (w : World) (v : Bool) (h : inTab t = v) :
    Calls Try.prog 45 #[.int .i64 t, .int .i64 0, .int .i64 1] w fun e w' => e = .returned (.bool v) ∧ w = w' := by
  subst h; exact in_any t 0 1 w
theorem rowS_val (r : RowV) (w : World) (v : Bool) (hk : r.k.size ≤ maxLen) (ht : r.t.size ≤ maxLen) (h : rowOk r = v) :
    Calls Try.prog 44 #[.agg #[.string r.k, .string r.t, .int .i64 r.f, .int .i64 r.e]] w fun e w' => e = .returned (.bool v) ∧ Below w.heap.size w w' := by
  subst h; exact l2RowOk_any r w hk ht

end Go.Proofs.Ytkalanjgjeijbaa
namespace Go.Proofs.Ytkalanjgjeijbaa
open Go.RowKit

theorem Try.infoV62 : (Try.prog.info? 62).map (fun i => (i.zero, i.size, i.bytes)) = some (some (.agg #[.string ⟨#[]⟩, .string ⟨#[]⟩, .int .i64 0, .int .i64 0, .int .i64 0, .int .i64 0]), 6, 64) := by kernel_rfl

end Go.Proofs.Ytkalanjgjeijbaa
namespace Go.Proofs.Ytkalanjgjeijbaa
open Go.RowKit Go.Lib

set_option maxHeartbeats 1000000 in
theorem current_any (x : VerV) (w : World) : Calls Try.prog 69 #[.agg #[.string x.r.k, .string x.r.t, .int .i64 x.r.f, .int .i64 x.r.e, .int .i64 x.i, .int .i64 x.o]] w fun e w' => e = .returned (.bool (decide (x.o = 999))) ∧ Below w.heap.size w w' := by
  by_cases h : x.o = 999
  · go_enter Try.func69, Try.ntmps69
    go_wp2
    go_ret
    exact ⟨ret_bool (by simp [h]), (Below.refl _ _).alloc (Nat.le_refl _) _⟩
  · have hb : (x.o == 999) = false := by simpa using h
    go_enter Try.func69, Try.ntmps69
    go_wp2
    go_ret
    exact ⟨ret_bool (by simp [h]), (Below.refl _ _).alloc (Nat.le_refl _) _⟩
set_option maxHeartbeats 1000000 in
theorem verLive_any (x : VerV) (s : Int) (w : World) : Calls Try.prog 40 #[.agg #[.string x.r.k, .string x.r.t, .int .i64 x.r.f, .int .i64 x.r.e, .int .i64 x.i, .int .i64 x.o], .int .i64 s] w fun e w' => e = .returned (.bool (liveB s x)) ∧ Below w.heap.size w w' := by
  go_enter Try.func40, Try.ntmps40
  go_wp2
  all_goals go_ret
  all_goals refine ⟨ret_bool ?_, (Below.refl _ _).alloc (Nat.le_refl _) _⟩
  all_goals (unfold liveB; first | (rw [decide_eq_decide]; omega) | (rw [eq_comm, decide_eq_true_iff]; omega) | (rw [eq_comm, decide_eq_false_iff_not]; omega) | (rw [Bool.eq_iff_iff]; simp; omega))

def stampB (now : Int) (x : VerV) : Bool := decide (1 ≤ x.i ∧ x.i ≤ now ∧ x.i < x.o ∧ (x.o ≤ now ∨ x.o = 999))
theorem verB_eq (now : Int) (x : VerV) : verB now x = (rowOk x.r && stampB now x) := rfl

set_option maxRecDepth 100000 in
set_option maxHeartbeats 2000000 in
theorem verOk_any (x : VerV) (now : Int) (w : World) (hk : x.r.k.size ≤ maxLen) (ht : x.r.t.size ≤ maxLen) :
    Calls Try.prog 48 #[.agg #[.string x.r.k, .string x.r.t, .int .i64 x.r.f, .int .i64 x.r.e, .int .i64 x.i, .int .i64 x.o], .int .i64 now] w fun e w' => e = .returned (.bool (verB now x)) ∧ Below w.heap.size w w' := by
  have HVB := Lib.hid (verB_eq now x)
  obtain ⟨ro, hro⟩ : ∃ ro, rowOk x.r = ro := ⟨_, rfl⟩
  have HRO := Lib.hid hro
  obtain ⟨sb, hsb⟩ : ∃ sb, stampB now x = sb := ⟨_, rfl⟩
  have HSB := Lib.hid hsb
  obtain ⟨vb, hvb⟩ : ∃ vb, verB now x = vb := ⟨_, rfl⟩
  rw [hvb]
  rw [hvb, hro, hsb] at HVB
  clear hro hsb hvb
  go_enter Try.func48, Try.ntmps48
  go_wp2_with fail
  generalize hW : w.alloc _ = W0
  have a4 : W0.cell? ⟨w.heap.size, 4, none⟩ = some (.int .i64 x.i) := by rw [← hW]; simp [go_sem]
  have a5 : W0.cell? ⟨w.heap.size, 5, none⟩ = some (.int .i64 x.o) := by rw [← hW]; simp [go_sem]
  have a0 : W0.cell? ⟨w.heap.size, 0, none⟩ = some (.string x.r.k) := by rw [← hW]; simp [go_sem]
  have a1 : W0.cell? ⟨w.heap.size, 1, none⟩ = some (.string x.r.t) := by rw [← hW]; simp [go_sem]
  have a2 : W0.cell? ⟨w.heap.size, 2, none⟩ = some (.int .i64 x.r.f) := by rw [← hW]; simp [go_sem]
  have a3 : W0.cell? ⟨w.heap.size, 3, none⟩ = some (.int .i64 x.r.e) := by rw [← hW]; simp [go_sem]
  have hs : w.heap.size < W0.heap.size := by rw [← hW]; simp
  have B0 := Lib.hid (show Below w.heap.size w W0 from by rw [← hW]; exact (Below.refl _ _).alloc (Nat.le_refl _) _)
  obtain ⟨G, hG⟩ : ∃ G, w.heap.size = G := ⟨_, rfl⟩
  rw [hG] at a0 a1 a2 a3 a4 a5 hs ⊢
  clear hW hG
  refine (rowOkM_val x.r _ ro hk ht HRO.out).mono ?_
  rintro e w1 ⟨rfl, hb⟩
  replace a0 := cellBelow hb hs a0
  replace a1 := cellBelow hb hs a1
  replace a2 := cellBelow hb hs a2
  replace a3 := cellBelow hb hs a3
  replace a4 := cellBelow hb hs a4
  replace a5 := cellBelow hb hs a5
  have B1 := Lib.hid (B0.out.trans (hb.mono B0.out.size))
  clear hb B0 hs
  cases ro
  · obtain rfl : vb = false := by rw [HVB.out]; rfl
    go_wp2
    go_ret
    exact ⟨rfl, B1.out⟩
  · obtain rfl : vb = sb := by rw [HVB.out]; rfl
    go_wp2_with (go_at_call 69; refine (current_any x _).mono ?_; rintro e w2 ⟨rfl, hb2⟩)
    all_goals go_ret
    all_goals refine ⟨ret_bool ?_, ?_⟩
    all_goals first
      | exact B1.out
      | exact B1.out.trans (hb2.mono B1.out.size)
      | (rw [← HSB.out]; unfold stampB; first | (rw [decide_eq_decide]; omega) | (rw [eq_comm, decide_eq_true_iff]; omega) | (rw [eq_comm, decide_eq_false_iff_not]; omega) | (rw [Bool.eq_iff_iff]; simp; omega))

theorem verOk_val (x : VerV) (now : Int) (w : World) (v : Bool) (hk : x.r.k.size ≤ maxLen) (ht : x.r.t.size ≤ maxLen) (h : verB now x = v) :
    Calls Try.prog 48 #[.agg #[.string x.r.k, .string x.r.t, .int .i64 x.r.f, .int .i64 x.r.e, .int .i64 x.i, .int .i64 x.o], .int .i64 now] w fun e w' => e = .returned (.bool v) ∧ Below w.heap.size w w' := by
  subst h; exact verOk_any x now w hk ht

set_option maxRecDepth 100000 in
set_option maxHeartbeats 4000000 in
theorem versOk_any (A : Option Addr) (cap : Nat) (zs : List VerV) (now : Int) (w : World) (hz : VersA w A zs) (hl : zs.length ≤ 1048577) (hs : ShortV zs) :
    Calls Try.prog 28 #[.agg #[.int .i64 now, .slice A zs.length cap]] w fun e w' => e = .returned (.bool (versB zs now)) ∧ Below w.heap.size w w' := by
  have HS := Lib.hid hs
  clear hs
  by_cases hlen : zs.length ≤ 120
  · go_enter Try.func28, Try.ntmps28
    go_wp2
    generalize hW : w.alloc _ = W0
    have s0 : W0.cell? ⟨w.heap.size, 0, none⟩ = some (.int .i64 now) := by rw [← hW]; simp [go_sem]
    have s1 : W0.cell? ⟨w.heap.size, 1, none⟩ = some (.slice A zs.length cap) := by rw [← hW]; simp [go_sem]
    have ls : w.heap.size < W0.heap.size := by rw [← hW]; simp
    have B0 := Lib.hid (show Below w.heap.size w W0 from by rw [← hW]; exact (Below.refl _ _).alloc (Nat.le_refl _) _)
    have HZ := Lib.hid (hz.below B0.out)
    obtain ⟨G, hG⟩ : ∃ G, w.heap.size = G := ⟨_, rfl⟩
    rw [hG] at s0 s1 ls ⊢
    have HG := Lib.hid hG
    have S0 := Lib.hid s0
    have S1 := Lib.hid s1
    clear hW hG hz s0 s1
    go_loopw [12] (fun i wr => ∃ k : Nat, k ≤ zs.length ∧ i = .int .i64 k ∧ (∀ j, j < k → verAt zs now j = true) ∧ Below W0.heap.size W0 wr) (fun i _ => zs.length - (intOf i).toNat)
    case atStart => exact ⟨0, Nat.zero_le _, rfl, fun j hj => absurd hj (by omega), Below.refl _ _⟩
    case round =>
      obtain ⟨k, hk, rfl, hall, hbr⟩ := hrel
      have Hall := Lib.hid hall
      clear hall
      by_cases hlt : k < zs.length
      · obtain ⟨b, off, x, rfl, hb, hx, c0, c1, c2, c3, c4, c5⟩ := (HZ.out.below hbr).at_ hlt
        have hm := HS.out x (List.mem_of_getElem? hx)
        have HX := Lib.hid hx
        have hkz : (k : Int) < (zs.length : Int) := by omega
        have hkz0 : (0 : Int) ≤ (k : Int) := by omega
        clear hx
        obtain ⟨bo, hbo⟩ : ∃ bo, verB now x = bo := ⟨_, rfl⟩
        have HBO := Lib.hid hbo
        clear hbo
        go_wp2_with fail
        generalize hW1 : wr.alloc _ = W1
        have v0 : W1.cell? ⟨wr.heap.size, 0, none⟩ = some (.string x.r.k) := by rw [← hW1]; simp [go_sem]
        have v1 : W1.cell? ⟨wr.heap.size, 1, none⟩ = some (.string x.r.t) := by rw [← hW1]; simp [go_sem]
        have v2 : W1.cell? ⟨wr.heap.size, 2, none⟩ = some (.int .i64 x.r.f) := by rw [← hW1]; simp [go_sem]
        have v3 : W1.cell? ⟨wr.heap.size, 3, none⟩ = some (.int .i64 x.r.e) := by rw [← hW1]; simp [go_sem]
        have v4 : W1.cell? ⟨wr.heap.size, 4, none⟩ = some (.int .i64 x.i) := by rw [← hW1]; simp [go_sem]
        have v5 : W1.cell? ⟨wr.heap.size, 5, none⟩ = some (.int .i64 x.o) := by rw [← hW1]; simp [go_sem]
        have hBW : Below wr.heap.size wr W1 := by rw [← hW1]; exact (Below.refl _ _).alloc (Nat.le_refl _) _
        have g0 := cellBelow hBW (Nat.lt_of_lt_of_le ls hbr.size) (cellBelow hbr ls S0.out)
        have g1 := cellBelow hBW (Nat.lt_of_lt_of_le ls hbr.size) (cellBelow hbr ls S1.out)
        have lV : wr.heap.size < W1.heap.size := by rw [← hW1]; simp
        have lG : G < W1.heap.size := by have := hbr.size; omega
        have lb : b < W1.heap.size := by omega
        have BW := Lib.hid (hbr.trans (hBW.mono hbr.size))
        obtain ⟨V, hV⟩ : ∃ V, wr.heap.size = V := ⟨_, rfl⟩
        rw [hV] at v0 v1 v2 v3 v4 v5 lV ⊢
        clear hW1 hV hBW hbr c0 c1 c2 c3 c4 c5 hb
        by_cases hk0 : k = 0
        · have HVA := Lib.hid (verAt_of (now := now) HX.out hk0)
          rw [HBO.out] at HVA
          subst hk0
          cases bo
          · skip
            go_wp2_with fail
            refine wp_region_later (by kernel_rfl) (by kernel_rfl) ?_
            intro f hf1 hf2 hfc
            repeat (go_big_quiet_step ((go_at_call 48; exact calls_later hf1 hf2 (verOk_val x now _ _ hm.1 hm.2 HBO.out))))
            refine wpQuiet_nil ?_
            rintro _ ⟨v, rfl⟩
            have Hv := Lib.hid (BW.out.trans ((hf1.out v).mono BW.out.size))
            clear hfc
            go_wp2
            go_ret
            exact ⟨ret_bool (by rw [versB_no hlt HVA.out]), B0.out.trans (Hv.out.mono B0.out.size)⟩
          · skip
            go_wp2_with fail
            refine wp_region_later (by kernel_rfl) (by kernel_rfl) ?_
            intro f hf1 hf2 hfc
            repeat (go_big_quiet_step ((go_at_call 48; exact calls_later hf1 hf2 (verOk_val x now _ _ hm.1 hm.2 HBO.out))))
            refine wpQuiet_nil ?_
            rintro _ ⟨v, rfl⟩
            have Hv := Lib.hid (BW.out.trans ((hf1.out v).mono BW.out.size))
            clear hfc
            go_wp2
            go_roundw
            case rel => exact ⟨0 + 1, by omega, by go_num, fun j hj => by
              obtain rfl : j = 0 := by omega
              exact HVA.out, Hv.out⟩
            case measure => simp [intOf]; omega
        · obtain ⟨b1, off1, y, e1, _, hy, _, _, _, _, z4, _⟩ := (HZ.out.below BW.out).at_ (show k - 1 < zs.length by omega)
          injection e1 with e1
          injection e1 with e2 e3 _
          subst e2 e3
          have HVA := Lib.hid (verAt_of2 (now := now) HX.out hk0 hy)
          rw [HBO.out] at HVA
          have hkp : (0 : Int) < (k : Int) := by omega
          have hkN : 0 < k := by omega
          have hkp1 : (0 : Int) ≤ (k : Int) - 1 := by omega
          have hkp2 : (k : Int) - 1 < (zs.length : Int) := by omega
          have hkn : ((k : Int) - 1).toNat = k - 1 := by omega
          clear hy
          cases bo
          · skip
            go_wp2_with fail
            refine wp_region_later (by kernel_rfl) (by kernel_rfl) ?_
            intro f hf1 hf2 hfc
            repeat (go_big_quiet_step ((go_at_call 48; exact calls_later hf1 hf2 (verOk_val x now _ _ hm.1 hm.2 HBO.out))))
            refine wpQuiet_nil ?_
            rintro _ ⟨v, rfl⟩
            have Hv := Lib.hid (BW.out.trans ((hf1.out v).mono BW.out.size))
            clear hfc
            go_wp2
            go_ret
            exact ⟨ret_bool (by rw [versB_no hlt (by rw [HVA.out]; rfl)]), B0.out.trans (Hv.out.mono B0.out.size)⟩
          · by_cases hxy : x.i < y.i
            · skip
              go_wp2_with fail
              refine wp_region_later (by kernel_rfl) (by kernel_rfl) ?_
              intro f hf1 hf2 hfc
              repeat (go_big_quiet_step ((go_at_call 48; exact calls_later hf1 hf2 (verOk_val x now _ _ hm.1 hm.2 HBO.out))))
              refine wpQuiet_nil ?_
              rintro _ ⟨v, rfl⟩
              have Hv := Lib.hid (BW.out.trans ((hf1.out v).mono BW.out.size))
              clear hfc
              go_wp2
              go_ret
              exact ⟨ret_bool (by rw [versB_no hlt (by rw [HVA.out, Bool.true_and, decide_eq_false_iff_not]; omega)]), B0.out.trans (Hv.out.mono B0.out.size)⟩
            · have hyx : y.i ≤ x.i := by omega
              have HYX := Lib.hid hyx
              have hxd : decide (x.i < y.i) = false := decide_eq_false hxy
              clear hxy
              go_wp2_with fail
              refine wp_region_later (by kernel_rfl) (by kernel_rfl) ?_
              intro f hf1 hf2 hfc
              repeat (go_big_quiet_step ((go_at_call 48; exact calls_later hf1 hf2 (verOk_val x now _ _ hm.1 hm.2 HBO.out))))
              refine wpQuiet_nil ?_
              rintro _ ⟨v, rfl⟩
              have Hv := Lib.hid (BW.out.trans ((hf1.out v).mono BW.out.size))
              clear hfc
              go_wp2
              go_roundw
              case rel => exact ⟨k + 1, by omega, by go_num, fun j hj => by
                by_cases e : j = k
                · subst e; rw [HVA.out, Bool.true_and, decide_eq_true_iff]; exact HYX.out
                · exact Hall.out j (by omega), Hv.out⟩
              case measure => simp [intOf]; omega
      · obtain rfl : k = zs.length := by omega
        have HY := Lib.hid (versB_yes (now := now) hlen (fun j hj => Hall.out j hj))
        go_wp2
        go_ret
        exact ⟨ret_bool HY.out.symm, B0.out.trans (hbr.mono B0.out.size)⟩
  · have HN := Lib.hid (versB_long (vs := zs) (now := now) (by omega))
    have hlen' : (120 : Int) < (zs.length : Int) := by omega
    go_enter Try.func28, Try.ntmps28
    go_wp2
    go_ret
    exact ⟨ret_bool HN.out.symm, (Below.refl _ _).alloc (Nat.le_refl _) _⟩
end Go.Proofs.Ytkalanjgjeijbaa
