/-
  Walks: a store that is one table after the other: the model's side.
-/
import Derived.Test.YtacddgipcafdlaaStoreP
import Derived.Test.YtacddgipcafdlaaStoSe
namespace Go.Proofs.Ytacddgipcafdlaa
open Go.Shelf Go.RowKit Go.Lib Go.Sort

/-- What a store becomes with one table after the other. -/
def allFrom (now : Int) (zs : List VerV) : List (List RowV) → Int × List VerV × Bool
  | [] => (now, zs, true)
  | t :: ts => if goesB zs now t then allFrom (now + 1) (setL zs now t) ts else (0, [], false)
theorem none_ok : storeB [] 0 = true := by
  refine storeB_iff.2 ⟨by omega, versB_yes (by simp) (fun j hj => by simp at hj), stampsB_yes fun s hs => ?_⟩
  show relOk (liveS [] s) = true
  rfl
/-- The slice holds these tables. -/
def TabsA (w : World) (A : Option Addr) (tts : List (List RowV)) : Prop :=
  ∀ i t, tts[i]? = some t → ∃ b off At ct, A = some ⟨b, off, none⟩ ∧ b < w.heap.size ∧ w.cell? ⟨b, off + i, none⟩ = some (.slice At t.length ct) ∧ RowsA w At t
theorem TabsA.below {w w' : World} {A : Option Addr} {tts : List (List RowV)} (h : TabsA w A tts) (hb : Below w.heap.size w w') : TabsA w' A tts := fun i t ht => by
  obtain ⟨b, off, At, ct, e, hlt, hc, hr⟩ := h i t ht
  exact ⟨b, off, At, ct, e, Nat.lt_of_lt_of_le hlt hb.size, cellBelow hb hlt hc, hr.below hb⟩

set_option maxRecDepth 100000 in
set_option maxHeartbeats 8000000 in
theorem StoreAll_any (A : Option Addr) (cap : Nat) (tts : List (List RowV)) (w : World) (hz : TabsA w A tts) (hl : tts.length ≤ 1048577) (hs : ∀ t ∈ tts, t.length ≤ 1048577 ∧ ∀ r ∈ t, r.k.size ≤ maxLen ∧ r.t.size ≤ maxLen) :
    Calls Try.prog 18 #[.slice A tts.length cap] w (GetsSB w (allFrom 0 [] tts)) := by
  have HZ := Lib.hid hz
  have HS := Lib.hid hs
  clear hz hs
  obtain ⟨p, hp⟩ : ∃ p, allFrom 0 [] tts = p := ⟨_, rfl⟩
  have HP := Lib.hid hp
  rw [hp]
  clear hp
  go_enter Try.func18, Try.ntmps18
  go_wp2
  generalize hW : (w.alloc _).alloc _ = W0
  have r0 : W0.cell? ⟨w.heap.size, 0, none⟩ = some (.int .i64 0) := by rw [← hW]; simp [go_sem]
  have r1 : W0.cell? ⟨w.heap.size, 1, none⟩ = some (.slice none 0 0) := by rw [← hW]; simp [go_sem]
  have rf : ∀ q, W0.frozen? ⟨w.heap.size, q, none⟩ = false := fun q => by rw [← hW]; simp [go_sem]
  have s0 : W0.cell? ⟨w.heap.size + 1, 0, none⟩ = some (.int .i64 0) := by rw [← hW]; simp [go_sem]
  have s1 : W0.cell? ⟨w.heap.size + 1, 1, none⟩ = some (.slice none 0 0) := by rw [← hW]; simp [go_sem]
  have sf : ∀ q, W0.frozen? ⟨w.heap.size + 1, q, none⟩ = false := fun q => by rw [← hW]; simp [go_sem]
  have B0 := Lib.hid (show Below w.heap.size w W0 from by rw [← hW]; exact ((Below.refl _ _).alloc (Nat.le_refl _) _).alloc (by simp) _)
  have ls : w.heap.size + 1 < W0.heap.size := by rw [← hW]; simp
  obtain ⟨R, hR⟩ : ∃ R, w.heap.size = R := ⟨_, rfl⟩
  have HR := Lib.hid hR
  have hRle : w.heap.size ≤ R := Nat.le_of_eq hR
  rw [hR] at r0 r1 rf s0 s1 sf ls ⊢
  clear hW hR
  have R0 := Lib.hid r0
  have R1 := Lib.hid r1
  have RF := Lib.hid rf
  have H0 := Lib.hid (show ∃ (zs : List VerV) (now : Int) (A5 : Option Addr) (c5 : Nat), storeB zs now = true ∧ allFrom 0 [] tts = allFrom now zs (tts.drop 0) ∧ W0.cell? ⟨R + 1, 0, none⟩ = some (.int .i64 now) ∧ W0.cell? ⟨R + 1, 1, none⟩ = some (.slice A5 zs.length c5) ∧ (∀ q, W0.frozen? ⟨R + 1, q, none⟩ = false) ∧ W0.ownsRow (R + 2) 74 6 (.slice A5 zs.length c5) zs.length (flatOf verC zs) from
    ⟨[], 0, none, 0, none_ok, rfl, s0, s1, sf, World.ownsRow_nil _ _ _ _⟩)
  clear r0 r1 rf s0 s1 sf
  go_loopw [11] (fun i wr => ∃ k : Nat, k ≤ tts.length ∧ i = .int .i64 k ∧ (∃ (zs : List VerV) (now : Int) (A5 : Option Addr) (c5 : Nat), storeB zs now = true ∧ allFrom 0 [] tts = allFrom now zs (tts.drop k) ∧ wr.cell? ⟨R + 1, 0, none⟩ = some (.int .i64 now) ∧ wr.cell? ⟨R + 1, 1, none⟩ = some (.slice A5 zs.length c5) ∧ (∀ q, wr.frozen? ⟨R + 1, q, none⟩ = false) ∧ wr.ownsRow (R + 2) 74 6 (.slice A5 zs.length c5) zs.length (flatOf verC zs)) ∧ Below (R + 1) W0 wr) (fun i _ => tts.length - (intOf i).toNat)
  case atStart => exact ⟨0, Nat.zero_le _, rfl, H0.out, Below.refl _ _⟩
  case round =>
    obtain ⟨k, hk, rfl, ⟨zs, now, A5, c5, hsb, hal, n0, n1, nf, hown⟩, hbr⟩ := hrel
    have Hown := Lib.hid hown
    have HSB := Lib.hid hsb
    have HAL := Lib.hid hal
    clear hown hsb hal H0
    have hsz := hbr.size
    have BW := Lib.hid (show Below w.heap.size w wr from B0.out.trans (hbr.mono (by omega)))
    have t0 : wr.cell? ⟨R, 0, none⟩ = some (.int .i64 0) := (hbr.cell (p := ⟨R, 0, none⟩) (show R < R + 1 by omega)).trans R0.out
    have t1 : wr.cell? ⟨R, 1, none⟩ = some (.slice none 0 0) := (hbr.cell (p := ⟨R, 1, none⟩) (show R < R + 1 by omega)).trans R1.out
    have tf : ∀ q, wr.frozen? ⟨R, q, none⟩ = false := fun q => (hbr.frozen (p := ⟨R, q, none⟩) (show R < R + 1 by omega)).trans (RF.out q)
    by_cases hlt : k < tts.length
    · have ht := List.getElem?_eq_getElem hlt
      have hm := HS.out _ (List.getElem_mem hlt)
      have HD := Lib.hid (show tts.drop k = tts[k] :: tts.drop (k + 1) from List.drop_eq_getElem_cons hlt)
      obtain ⟨b, off, At, ct, e1, hb, hc, hr⟩ := (HZ.out.below BW.out) k _ ht
      generalize tts[k] = t at *
      have HRt := Lib.hid hr
      have HTS := Lib.hid hm.2
      have hlt2 := hm.1
      subst e1
      have hkz : (k : Int) < (tts.length : Int) := by omega
      have hkz0 : (0 : Int) ≤ (k : Int) := by omega
      have hzl : zs.length ≤ 120 := versB_len (storeB_iff.1 HSB.out).2.1
      clear ht hr hm
      go_wp2_with fail
      refine (next_any A5 At c5 ct zs now t _ (el_of_owns verC_len Hown.out) HRt.out (by omega) hlt2 HTS.out HSB.out).mono ?_
      by_cases hgo : goesB zs now t
      · rw [show nextL zs now t = (now + 1, setL zs now t, true) from by unfold nextL; exact if_pos hgo]
        have HOK := Lib.hid (set_ok HSB.out hgo)
        have HA2 := Lib.hid (show allFrom 0 [] tts = allFrom (now + 1) (setL zs now t) (tts.drop (k + 1)) from by rw [HAL.out, HD.out, allFrom, if_pos hgo])
        rintro e w2 ⟨A2, c2, rfl, ho, hb2⟩
        have O2 := Lib.hid (show w2.ownsRow wr.heap.size 74 6 (.slice A2 (setL zs now t).length c2) (setL zs now t).length (flatOf verC (setL zs now t)) from ho)
        clear ho
        obtain ⟨ys, hys⟩ : ∃ ys, setL zs now t = ys := ⟨_, rfl⟩
        rw [hys] at O2 HOK HA2
        have lS : R + 1 < wr.heap.size := World.block_lt_of_cell? _ _ n0
        go_upto_region 6 with fail
        try rw [hys]
        clear hys
        generalize hW : w2.alloc _ = W3
        have m0 : W3.cell? ⟨w2.heap.size, 0, none⟩ = some (.int .i64 (now + 1)) := by rw [← hW]; simp [go_sem]
        have m1 : W3.cell? ⟨w2.heap.size, 1, none⟩ = some (.slice A2 ys.length c2) := by rw [← hW]; simp [go_sem]
        have hb3 : Below w2.heap.size w2 W3 := by rw [← hW]; exact (Below.refl _ _).alloc (Nat.le_refl _) _
        have O3 := Lib.hid (ownsKeep O2.out hb3)
        have hbb : Below wr.heap.size wr W3 := hb2.trans (hb3.mono hb2.size)
        replace n0 := cellBelow hbb lS n0
        replace n1 := cellBelow hbb lS n1
        replace nf : ∀ q, W3.frozen? ⟨R + 1, q, none⟩ = false := fun q => ((bcell hbb).2 _ _ lS).trans (nf q)
        have B3 := Lib.hid (hbr.trans (hbb.mono (by omega)))
        have hN : R + 1 < w2.heap.size := Nat.lt_of_lt_of_le lS hb2.size
        obtain ⟨N, hNn⟩ : ∃ N, w2.heap.size = N := ⟨_, rfl⟩
        rw [hNn] at m0 m1 hN ⊢
        have hNS : N ≠ R + 1 := by omega
        have hSN : R + 1 ≠ N := by omega
        clear hW hb3 hbb hb2 hbr O2 Hown hNn t0 t1 tf BW
        go_wp2
        go_roundw
        case rel =>
          refine ⟨k + 1, by omega, by go_num, ⟨ys, now + 1, A2, c2, HOK.out, HA2.out, by simp [go_sem, n0], by simp [go_sem, n0, n1], fun q => by simp [go_sem, nf q], ?_⟩, ?_⟩
          · refine ownsBase (base := wr.heap.size) ?_ (by omega)
            repeat (first | exact O3.out | refine owns_set_farV ?_ lS)
          · exact (B3.out.setCell (show R + 1 ≤ (⟨R + 1, 0, none⟩ : Addr).block from Nat.le_refl _) _).setCell (show R + 1 ≤ (⟨R + 1, 1, none⟩ : Addr).block from Nat.le_refl _) _
        case measure => simp [intOf]; omega
      · rw [show nextL zs now t = (0, [], false) from by unfold nextL; exact if_neg hgo]
        have HF := Lib.hid (show p = (0, [], false) from by rw [← HP.out, HAL.out, HD.out, allFrom, if_neg hgo])
        rintro e w2 ⟨A2, c2, rfl, ho, hb2⟩
        have lR : R < wr.heap.size := World.block_lt_of_cell? _ _ t0
        go_upto_region 6 with fail
        generalize hW : w2.alloc _ = W3
        have hb3 : Below w2.heap.size w2 W3 := by rw [← hW]; exact (Below.refl _ _).alloc (Nat.le_refl _) _
        have hbb : Below wr.heap.size wr W3 := hb2.trans (hb3.mono hb2.size)
        replace t0 := cellBelow hbb lR t0
        replace t1 := cellBelow hbb lR t1
        replace tf : ∀ q, W3.frozen? ⟨R, q, none⟩ = false := fun q => ((bcell hbb).2 _ _ lR).trans (tf q)
        have B3 := Lib.hid (BW.out.trans (hbb.mono BW.out.size))
        clear hW hb3 hbb hb2 hbr ho
        go_wp2
        rw [HF.out]
        refine bodyPost_ret (v := .tuple #[.agg #[.int .i64 0, .slice none 0 0], .bool false]) (by simp [results, Try.results18, go_sem, t0, t1]) rfl ?_
        exact ⟨none, 0, rfl, World.ownsRow_nil _ _ _ _, by repeat (first | exact B3.out | refine Below.setCell ?_ hRle _)⟩
    · obtain rfl : k = tts.length := by omega
      have HF := Lib.hid (show p = (now, zs, true) from by rw [← HP.out, HAL.out, List.drop_length]; rfl)
      have hSR : R + 1 ≠ R := by omega
      have hRS : R ≠ R + 1 := by omega
      go_wp2
      rw [HF.out]
      refine bodyPost_ret (v := .tuple #[.agg #[.int .i64 now, .slice A5 zs.length c5], .bool true]) (by simp [results, Try.results18, go_sem, t0, t1]) rfl ?_
      refine ⟨A5, c5, rfl, ?_, ?_⟩
      · refine ownsBase (base := R + 2) ?_ (by omega)
        repeat (first | exact Hown.out | refine owns_set_farV ?_ (by omega))
      · repeat (first | exact BW.out | refine Below.setCell ?_ hRle _)
end Go.Proofs.Ytacddgipcafdlaa
namespace Go.Proofs.Ytacddgipcafdlaa
open Go.Shelf Go.RowKit Go.Lib Go.Sort

theorem store_short {zs : List VerV} {now : Int} (h : storeB zs now = true) : ShortV zs := fun x hx => by
  have h1 := rowOk_iff.1 (ver_out h hx).1
  have h2 := h1.1
  have h3 := h1.2.1
  simp only [wordB, Bool.and_eq_true, decide_eq_true_eq] at h2 h3
  unfold maxLen
  omega
/-- What lies in the slots behind the call: a box that holds the store, and whether it went. -/
def AtAll (W : World) (n : Int) (ys : List VerV) (ok : Bool) (s1 s2 : Value) (wx : World) : Prop :=
  ∃ N A c, s1 = .pointer (some ⟨N, 0, none⟩) ∧ s2 = .bool ok ∧ W.heap.size ≤ N ∧ wx.cell? ⟨N, 0, none⟩ = some (.int .i64 n) ∧ wx.cell? ⟨N, 1, none⟩ = some (.slice A ys.length c) ∧ wx.ownsRow W.heap.size 74 6 (.slice A ys.length c) ys.length (flatOf verC ys) ∧ Below W.heap.size W wx

set_option maxRecDepth 100000 in
set_option maxHeartbeats 8000000 in
theorem sStoreAll_any (A : Option Addr) (cap : Nat) (tts : List (List RowV)) (w : World) (hz : TabsA w A tts) (hl : tts.length ≤ 1048577) (hs : ∀ t ∈ tts, t.length ≤ 1048577 ∧ ∀ r ∈ t, r.k.size ≤ maxLen ∧ r.t.size ≤ maxLen) :
    Calls Try.prog 16 #[.slice A tts.length cap] w (GetsSB w (allFrom 0 [] tts)) := by
  have HZ := Lib.hid hz
  have HS := Lib.hid hs
  clear hz hs
  obtain ⟨p, hp⟩ : ∃ p, allFrom 0 [] tts = p := ⟨_, rfl⟩
  have HP := Lib.hid hp
  rw [hp]
  clear hp
  go_enter Try.func16, Try.ntmps16
  go_wp2
  generalize hW : (w.alloc _).alloc _ = W0
  have r0 : W0.cell? ⟨w.heap.size, 0, none⟩ = some (.int .i64 0) := by rw [← hW]; simp [go_sem]
  have r1 : W0.cell? ⟨w.heap.size, 1, none⟩ = some (.slice none 0 0) := by rw [← hW]; simp [go_sem]
  have rf : ∀ q, W0.frozen? ⟨w.heap.size, q, none⟩ = false := fun q => by rw [← hW]; simp [go_sem]
  have s0 : W0.cell? ⟨w.heap.size + 1, 0, none⟩ = some (.int .i64 0) := by rw [← hW]; simp [go_sem]
  have s1 : W0.cell? ⟨w.heap.size + 1, 1, none⟩ = some (.slice none 0 0) := by rw [← hW]; simp [go_sem]
  have sf : ∀ q, W0.frozen? ⟨w.heap.size + 1, q, none⟩ = false := fun q => by rw [← hW]; simp [go_sem]
  have B0 := Lib.hid (show Below w.heap.size w W0 from by rw [← hW]; exact ((Below.refl _ _).alloc (Nat.le_refl _) _).alloc (by simp) _)
  have ls : w.heap.size + 1 < W0.heap.size := by rw [← hW]; simp
  obtain ⟨R, hR⟩ : ∃ R, w.heap.size = R := ⟨_, rfl⟩
  have HR := Lib.hid hR
  have hRle : w.heap.size ≤ R := Nat.le_of_eq hR
  rw [hR] at r0 r1 rf s0 s1 sf ls ⊢
  clear hW hR
  have R0 := Lib.hid r0
  have R1 := Lib.hid r1
  have RF := Lib.hid rf
  have H0 := Lib.hid (show ∃ (zs : List VerV) (now : Int) (A5 : Option Addr) (c5 : Nat), storeB zs now = true ∧ allFrom 0 [] tts = allFrom now zs (tts.drop 0) ∧ W0.cell? ⟨R + 1, 0, none⟩ = some (.int .i64 now) ∧ W0.cell? ⟨R + 1, 1, none⟩ = some (.slice A5 zs.length c5) ∧ (∀ q, W0.frozen? ⟨R + 1, q, none⟩ = false) ∧ W0.ownsRow (R + 2) 74 6 (.slice A5 zs.length c5) zs.length (flatOf verC zs) from
    ⟨[], 0, none, 0, none_ok, rfl, s0, s1, sf, World.ownsRow_nil _ _ _ _⟩)
  clear r0 r1 rf s0 s1 sf
  go_loopw [5] (fun i wr => ∃ k : Nat, k ≤ tts.length ∧ i = .int .i64 k ∧ (∃ (zs : List VerV) (now : Int) (A5 : Option Addr) (c5 : Nat), storeB zs now = true ∧ allFrom 0 [] tts = allFrom now zs (tts.drop k) ∧ wr.cell? ⟨R + 1, 0, none⟩ = some (.int .i64 now) ∧ wr.cell? ⟨R + 1, 1, none⟩ = some (.slice A5 zs.length c5) ∧ (∀ q, wr.frozen? ⟨R + 1, q, none⟩ = false) ∧ wr.ownsRow (R + 2) 74 6 (.slice A5 zs.length c5) zs.length (flatOf verC zs)) ∧ Below (R + 1) W0 wr) (fun i _ => tts.length - (intOf i).toNat)
  case atStart => exact ⟨0, Nat.zero_le _, rfl, H0.out, Below.refl _ _⟩
  case round =>
    obtain ⟨k, hk, rfl, ⟨zs, now, A5, c5, hsb, hal, n0, n1, nf, hown⟩, hbr⟩ := hrel
    have Hown := Lib.hid hown
    have HSB := Lib.hid hsb
    have HAL := Lib.hid hal
    clear hown hsb hal H0
    have hsz := hbr.size
    have BW := Lib.hid (show Below w.heap.size w wr from B0.out.trans (hbr.mono (by omega)))
    have t0 : wr.cell? ⟨R, 0, none⟩ = some (.int .i64 0) := (hbr.cell (p := ⟨R, 0, none⟩) (show R < R + 1 by omega)).trans R0.out
    have t1 : wr.cell? ⟨R, 1, none⟩ = some (.slice none 0 0) := (hbr.cell (p := ⟨R, 1, none⟩) (show R < R + 1 by omega)).trans R1.out
    have tf : ∀ q, wr.frozen? ⟨R, q, none⟩ = false := fun q => (hbr.frozen (p := ⟨R, q, none⟩) (show R < R + 1 by omega)).trans (RF.out q)
    by_cases hlt : k < tts.length
    · have ht := List.getElem?_eq_getElem hlt
      have hm := HS.out _ (List.getElem_mem hlt)
      have HD := Lib.hid (show tts.drop k = tts[k] :: tts.drop (k + 1) from List.drop_eq_getElem_cons hlt)
      obtain ⟨b, off, At, ct, e1, hb, hc, hr⟩ := (HZ.out.below BW.out) k _ ht
      generalize tts[k] = t at *
      have HRt := Lib.hid hr
      have HTS := Lib.hid hm.2
      have hlt2 := hm.1
      subst e1
      have hkz : (k : Int) < (tts.length : Int) := by omega
      have hkz0 : (0 : Int) ≤ (k : Int) := by omega
      have hzl : zs.length ≤ 120 := versB_len (storeB_iff.1 HSB.out).2.1
      clear ht hr hm
      have HSH := Lib.hid (store_short HSB.out)
      have HSP := Lib.hid (show setP zs now t = if goesB zs now t then (now + 1, setL zs now t, true) else (now, zs, false) from by rw [setP, if_pos HSB.out])
      obtain ⟨n', ys, ok, hpq⟩ : ∃ n' ys ok, setP zs now t = (n', ys, ok) := ⟨_, _, _, rfl⟩
      have HPQ := Lib.hid hpq
      clear hpq
      have VZ := Lib.hid (show VersA wr A5 zs from el_of_owns verC_len Hown.out)
      have HAd := Lib.hid (owns_addrV Hown.out)
      have HNc := Lib.hid (owns_nilcap Hown.out)
      have hq0 : Below wr.heap.size wr wr := Below.refl _ _
      have lS : R + 1 < wr.heap.size := World.block_lt_of_cell? _ _ n0
      go_upto_region 5 with fail
      go_cut [6, 7] (fun s1 s2 wx => AtAll wr n' ys ok s1 s2 wx)
      case first =>
        go_region_held3 (fun w' => w'.cell? ⟨R + 1, 0, none⟩ = some (.int .i64 now) ∧ w'.cell? ⟨R + 1, 1, none⟩ = some (.slice A5 zs.length c5) ∧ w'.cell? ⟨b, off + k, none⟩ = some (.slice At t.length ct) ∧ wr.heap.size ≤ w'.heap.size ∧ Below wr.heap.size wr w')
          (((try go_split_ands); refine ⟨?cc90, ?cc91, ?cc92, ?sz9, ?bl9⟩; (case cc90 => (repeat (first | with_reducible assumption | with_reducible refine cell_below hb (by first | omega | (simp; done) | (simp; omega)) ?_ | with_reducible refine cell_set_far (by first | omega | (simp; done) | (simp; omega)) ?_ | with_reducible exact cell_alloc_swap (by with_reducible assumption) (by first | omega | (simp; done) | (simp; omega)) | with_reducible refine cell_alloc_far ?_ | with_reducible refine cell_drew ?_))); (case cc91 => (repeat (first | with_reducible assumption | with_reducible refine cell_below hb (by first | omega | (simp; done) | (simp; omega)) ?_ | with_reducible refine cell_set_far (by first | omega | (simp; done) | (simp; omega)) ?_ | with_reducible exact cell_alloc_swap (by with_reducible assumption) (by first | omega | (simp; done) | (simp; omega)) | with_reducible refine cell_alloc_far ?_ | with_reducible refine cell_drew ?_))); (case cc92 => (repeat (first | with_reducible assumption | with_reducible refine cell_below hb (by first | omega | (simp; done) | (simp; omega)) ?_ | with_reducible refine cell_set_far (by first | omega | (simp; done) | (simp; omega)) ?_ | with_reducible exact cell_alloc_swap (by with_reducible assumption) (by first | omega | (simp; done) | (simp; omega)) | with_reducible refine cell_alloc_far ?_ | with_reducible refine cell_drew ?_))); (case sz9 => (first | with_reducible assumption | (have := hb.size; omega) | omega | (simp; done) | (simp; omega) | (have := hb.size; simp at this ⊢; omega))); (case bl9 => (repeat (first | with_reducible assumption | with_reducible exact hq0 | with_reducible refine Below.drew ?_ | with_reducible refine Below.trans ?_ (hb.mono (by first | omega | (simp; done) | (simp; omega))) | with_reducible refine Below.setCell ?_ (by first | omega | (simp; done) | (simp; omega)) _ | with_reducible exact below_alloc_swap (by with_reducible assumption) (by first | omega | (simp; done) | (simp; omega)) | with_reducible refine Below.alloc ?_ (by first | omega | (simp; done) | (simp; omega)) _)))))
          ((go_at_call 48; (try go_split_ands); refine (sStoreSet_any A5 At c5 ct zs now t _ (VZ.out.below (by (repeat (first | with_reducible assumption | with_reducible exact hq0 | with_reducible refine Below.drew ?_ | with_reducible refine Below.trans ?_ (hb.mono (by first | omega | (simp; done) | (simp; omega))) | with_reducible refine Below.setCell ?_ (by first | omega | (simp; done) | (simp; omega)) _ | with_reducible exact below_alloc_swap (by with_reducible assumption) (by first | omega | (simp; done) | (simp; omega)) | with_reducible refine Below.alloc ?_ (by first | omega | (simp; done) | (simp; omega)) _)))) HAd.out HNc.out (HRt.out.below (by (repeat (first | with_reducible assumption | with_reducible exact hq0 | with_reducible refine Below.drew ?_ | with_reducible refine Below.trans ?_ (hb.mono (by first | omega | (simp; done) | (simp; omega))) | with_reducible refine Below.setCell ?_ (by first | omega | (simp; done) | (simp; omega)) _ | with_reducible exact below_alloc_swap (by with_reducible assumption) (by first | omega | (simp; done) | (simp; omega)) | with_reducible refine Below.alloc ?_ (by first | omega | (simp; done) | (simp; omega)) _)))) (by omega) hlt2 HSH.out HTS.out).mono ?_; rw [HPQ.out]; rintro e w2 ⟨A2, c2, rfl, ho, hb⟩; have O2 := Lib.hid (ownsBase (base' := wr.heap.size) (show w2.ownsRow _ 74 6 (.slice A2 ys.length c2) ys.length (flatOf verC ys) from ho) (by first | omega | (simp; done) | (simp; omega))); have O2o := Lib.hid (show w2.ownsRow _ 74 6 (.slice A2 ys.length c2) ys.length (flatOf verC ys) from ho); clear ho; have hsz2 : wr.heap.size ≤ w2.heap.size := (by have := hb.size; first | omega | (simp at this; omega)); obtain ⟨hc', hf', hlb'⟩ := bcell3 hb))
        all_goals (go_wp2_with fail; go_meet; unfold AtAll; rename_i hH)
        · exact ⟨w2.heap.size, A2, c2, rfl, rfl, hsz2, by simp [go_sem], by simp [go_sem], O2.out.alloc _, hH.2.2.2.2⟩
        · have e0 : w2.cell? ⟨wr.heap.size, 0, none⟩ = some (.int .i64 0) := (hc' _ _ (by simp)).trans (by simp [go_sem])
          have e1 : w2.cell? ⟨wr.heap.size, 1, none⟩ = some (.slice none 0 0) := (hc' _ _ (by simp)).trans (by simp [go_sem])
          exact ⟨wr.heap.size, A2, c2, rfl, rfl, Nat.le_refl _, by simp [go_sem, e0], by simp [go_sem, e0, e1], ownsBase (base' := wr.heap.size) (owns_set_farV (owns_set_farV O2o.out (by simp)) (by simp)) (by simp), hH.2.2.2.2⟩
      case rest =>
        obtain ⟨N, A2, c2, rfl, rfl, hN, m0, m1, ho, hbb⟩ := hcut
        have O3 := Lib.hid ho
        replace n0 := cellBelow hbb lS n0
        replace n1 := cellBelow hbb lS n1
        have nf3 : ∀ q, wc.frozen? ⟨R + 1, q, none⟩ = false := fun q => ((bcell hbb).2 _ _ lS).trans (nf q)
        have B3 := Lib.hid (hbr.trans (hbb.mono (by omega)))
        have lR : R < wr.heap.size := by omega
        replace t0 := cellBelow hbb lR t0
        replace t1 := cellBelow hbb lR t1
        have tf3 : ∀ q, wc.frozen? ⟨R, q, none⟩ = false := fun q => ((bcell hbb).2 _ _ lR).trans (tf q)
        have BW3 := Lib.hid (BW.out.trans (hbb.mono BW.out.size))
        have hNS : N ≠ R + 1 := by omega
        have hSN : R + 1 ≠ N := by omega
        clear ho hbb hq0 nf tf VZ
        rw [HSP.out] at HPQ
        by_cases hgo : goesB zs now t
        · rw [if_pos hgo] at HPQ
          obtain ⟨rfl, h2, rfl⟩ : now + 1 = n' ∧ setL zs now t = ys ∧ true = ok := by
            have := HPQ.out
            injection this with a1 a2
            injection a2 with a2 a3
            exact ⟨a1, a2, a3⟩
          have HOK := Lib.hid (show storeB ys (now + 1) = true from by rw [← h2]; exact set_ok HSB.out hgo)
          have HA2 := Lib.hid (show allFrom 0 [] tts = allFrom (now + 1) ys (tts.drop (k + 1)) from by rw [HAL.out, HD.out, allFrom, if_pos hgo, h2])
          clear h2 HPQ HSP
          go_wp2
          go_roundw
          case rel =>
            refine ⟨k + 1, by omega, by go_num, ⟨ys, now + 1, A2, c2, HOK.out, HA2.out, by simp [go_sem, n0], by simp [go_sem, n0, n1], fun q => by simp [go_sem, nf3 q], ?_⟩, ?_⟩
            · refine ownsBase (base := wr.heap.size) ?_ (by omega)
              repeat (first | exact O3.out | refine owns_set_farV ?_ lS)
            · exact (B3.out.setCell (show R + 1 ≤ (⟨R + 1, 0, none⟩ : Addr).block from Nat.le_refl _) _).setCell (show R + 1 ≤ (⟨R + 1, 1, none⟩ : Addr).block from Nat.le_refl _) _
          case measure => simp [intOf]; omega
        · rw [if_neg hgo] at HPQ
          obtain rfl : false = ok := by
            have := HPQ.out
            injection this with a1 a2
            injection a2 with a2 a3
          have HF := Lib.hid (show p = (0, [], false) from by rw [← HP.out, HAL.out, HD.out, allFrom, if_neg hgo])
          clear HPQ HSP
          go_wp2
          rw [HF.out]
          refine bodyPost_ret (v := .tuple #[.agg #[.int .i64 0, .slice none 0 0], .bool false]) (by simp [results, Try.results16, go_sem, t0, t1]) rfl ?_
          exact ⟨none, 0, rfl, World.ownsRow_nil _ _ _ _, by repeat (first | exact BW3.out | refine Below.setCell ?_ hRle _)⟩
    · obtain rfl : k = tts.length := by omega
      have HF := Lib.hid (show p = (now, zs, true) from by rw [← HP.out, HAL.out, List.drop_length]; rfl)
      have hSR : R + 1 ≠ R := by omega
      have hRS : R ≠ R + 1 := by omega
      go_wp2
      rw [HF.out]
      refine bodyPost_ret (v := .tuple #[.agg #[.int .i64 now, .slice A5 zs.length c5], .bool true]) (by simp [results, Try.results16, go_sem, t0, t1]) rfl ?_
      refine ⟨A5, c5, rfl, ?_, ?_⟩
      · refine ownsBase (base := R + 2) ?_ (by omega)
        repeat (first | exact Hown.out | refine owns_set_farV ?_ (by omega))
      · repeat (first | exact BW.out | refine Below.setCell ?_ hRle _)
end Go.Proofs.Ytacddgipcafdlaa
