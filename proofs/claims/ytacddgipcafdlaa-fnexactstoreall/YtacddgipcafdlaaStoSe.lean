/-
  Walks: a store with another table at the next stamp, both ways.
-/
import Derived.Test.YtacddgipcafdlaaStoNx
namespace Go.Proofs.Ytacddgipcafdlaa
open Go.Shelf Go.RowKit Go.Lib Go.Sort

def goesB (zs : List VerV) (now : Int) (t : List RowV) : Prop := relOk t = true ∧ ¬ now = 30 ∧ (setL zs now t).length ≤ 120
instance (zs : List VerV) (now : Int) (t : List RowV) : Decidable (goesB zs now t) := inferInstanceAs (Decidable (_ ∧ _ ∧ _))
def setP (zs : List VerV) (now : Int) (t : List RowV) : Int × List VerV × Bool := if storeB zs now = true then (if goesB zs now t then (now + 1, setL zs now t, true) else (now, zs, false)) else (0, [], false)
theorem setP_len (zs : List VerV) (now : Int) (t : List RowV) : (setP zs now t).2.1.length ≤ zs.length + t.length := by
  unfold setP
  split
  · split
    · exact setL_len zs now t
    · show zs.length ≤ _; omega
  · exact Nat.zero_le _

set_option maxRecDepth 100000 in
set_option maxHeartbeats 8000000 in
theorem StoreSet_any (A T : Option Addr) (cap capt : Nat) (zs : List VerV) (now : Int) (t : List RowV) (w : World) (hz : VersA w A zs) (hA : A = none ∨ ∃ b off, A = some ⟨b, off, none⟩) (hN : A = none → cap = 0) (ht : RowsA w T t) (hl : zs.length ≤ 1048576) (hlt : t.length ≤ 1048577) (hs : ShortV zs) (hts : ∀ r ∈ t, r.k.size ≤ maxLen ∧ r.t.size ≤ maxLen) :
    Calls Try.prog 47 #[.agg #[.int .i64 now, .slice A zs.length cap], .slice T t.length capt] w (GetsSB w (setP zs now t)) := by
  have HS := Lib.hid hs
  have HTS := Lib.hid hts
  have HZ := Lib.hid hz
  have HT := Lib.hid ht
  have HA := Lib.hid hA
  have HNc := Lib.hid hN
  clear hs hts hz ht hA hN
  obtain ⟨sb, hsb⟩ : ∃ sb, storeB zs now = sb := ⟨_, rfl⟩
  have HSB := Lib.hid hsb
  clear hsb
  go_enter Try.func47, Try.ntmps47
  go_wp2_with fail
  generalize hW : (w.alloc _).alloc _ = W0
  have s0 : W0.cell? ⟨w.heap.size, 0, none⟩ = some (.int .i64 now) := by rw [← hW]; simp [go_sem]
  have s1 : W0.cell? ⟨w.heap.size, 1, none⟩ = some (.slice A zs.length cap) := by rw [← hW]; simp [go_sem]
  have r0 : W0.cell? ⟨w.heap.size + 1, 0, none⟩ = some (.int .i64 0) := by rw [← hW]; simp [go_sem]
  have r1 : W0.cell? ⟨w.heap.size + 1, 1, none⟩ = some (.slice none 0 0) := by rw [← hW]; simp [go_sem]
  have rf : ∀ q, W0.frozen? ⟨w.heap.size + 1, q, none⟩ = false := fun q => by rw [← hW]; simp [go_sem]
  have ls : w.heap.size + 1 < W0.heap.size := by rw [← hW]; simp
  have B0 := Lib.hid (show Below w.heap.size w W0 from by rw [← hW]; exact ((Below.refl _ _).alloc (Nat.le_refl _) _).alloc (by simp) _)
  have Z0 := Lib.hid (HZ.out.below B0.out)
  have T0 := Lib.hid (HT.out.below B0.out)
  obtain ⟨G, hG⟩ : ∃ G, w.heap.size = G := ⟨_, rfl⟩
  have HG := Lib.hid hG
  rw [hG] at s0 s1 r0 r1 rf ls ⊢
  clear hW hG HZ HT
  have hG1 : w.heap.size ≤ G + 1 := by have := HG.out; omega
  refine (StoreOk_any A cap zs now _ Z0.out (by omega) HS.out).mono ?_
  rw [HSB.out]
  rintro e w1 ⟨rfl, hb⟩
  replace s0 := cellBelow hb (by omega) s0
  replace s1 := cellBelow hb (by omega) s1
  replace r0 := cellBelow hb ls r0
  replace r1 := cellBelow hb ls r1
  replace rf : ∀ q, w1.frozen? ⟨G + 1, q, none⟩ = false := fun q => ((bcell hb).2 _ _ ls).trans (rf q)
  replace ls := Nat.lt_of_lt_of_le ls hb.size
  have B1 := Lib.hid (B0.out.trans (hb.mono B0.out.size))
  have Z1 := Lib.hid (Z0.out.below hb)
  have T1 := Lib.hid (T0.out.below hb)
  clear hb B0 Z0 T0
  cases sb
  · skip
    have HF := Lib.hid (show setP zs now t = (0, [], false) from by rw [setP, if_neg (by rw [HSB.out]; simp)])
    go_wp2
    rw [HF.out]
    refine bodyPost_ret (v := .tuple #[.agg #[.int .i64 0, .slice none 0 0], .bool false]) (by simp [results, Try.results47, go_sem, r0, r1]) rfl ?_
    exact ⟨none, 0, rfl, World.ownsRow_nil _ _ _ _, by repeat (first | exact B1.out | refine Below.setCell ?_ hG1 _)⟩
  · by_cases hgo : goesB zs now t
    · have HNX := Lib.hid (show nextL zs now t = (now + 1, setL zs now t, true) from by unfold nextL; exact if_pos hgo)
      have HF := Lib.hid (show setP zs now t = (now + 1, setL zs now t, true) from by rw [setP, if_pos HSB.out, if_pos hgo])
      go_wp2_with fail
      refine (next_any A T cap capt zs now t _ Z1.out T1.out hl hlt HTS.out HSB.out).mono ?_
      rw [HNX.out]
      rintro e w2 ⟨A2, c2, rfl, ho, hb⟩
      have hz2 := B1.out.size
      have l2 : G + 1 < w1.heap.size := ls
      have O2 := Lib.hid (show w2.ownsRow w1.heap.size 74 6 (.slice A2 (setL zs now t).length c2) (setL zs now t).length (flatOf verC (setL zs now t)) from ho)
      clear ho HNX
      replace s0 := cellBelow hb (by omega) s0
      replace s1 := cellBelow hb (by omega) s1
      replace r0 := cellBelow hb ls r0
      replace r1 := cellBelow hb ls r1
      replace rf : ∀ q, w2.frozen? ⟨G + 1, q, none⟩ = false := fun q => ((bcell hb).2 _ _ ls).trans (rf q)
      replace ls := Nat.lt_of_lt_of_le ls hb.size
      have B2 := Lib.hid (B1.out.trans (hb.mono B1.out.size))
      have Z2 := Lib.hid (Z1.out.below hb)
      have T2 := Lib.hid (T1.out.below hb)
      clear hb B1 Z1 T1
      obtain ⟨ys, hys⟩ : ∃ ys, setL zs now t = ys := ⟨_, rfl⟩
      rw [hys] at O2 HF
      go_upto_region 4 with fail
      try rw [hys]
      clear hys
      generalize hW : w2.alloc _ = W3
      have m0 : W3.cell? ⟨w2.heap.size, 0, none⟩ = some (.int .i64 (now + 1)) := by rw [← hW]; simp [go_sem]
      have m1 : W3.cell? ⟨w2.heap.size, 1, none⟩ = some (.slice A2 ys.length c2) := by rw [← hW]; simp [go_sem]
      have lm : w2.heap.size < W3.heap.size := by rw [← hW]; simp
      have hb : Below w2.heap.size w2 W3 := by rw [← hW]; exact (Below.refl _ _).alloc (Nat.le_refl _) _
      clear hW
      have O3 := Lib.hid (ownsKeep O2.out hb)
      clear O2
      obtain ⟨N, hNn⟩ : ∃ N, w2.heap.size = N := ⟨_, rfl⟩
      have lGN : G + 1 < N := by rw [← hNn]; exact ls
      replace s0 := cellBelow hb (by omega) s0
      replace s1 := cellBelow hb (by omega) s1
      replace r0 := cellBelow hb ls r0
      replace r1 := cellBelow hb ls r1
      replace rf : ∀ q, W3.frozen? ⟨G + 1, q, none⟩ = false := fun q => ((bcell hb).2 _ _ ls).trans (rf q)
      replace ls := Nat.lt_of_lt_of_le ls hb.size
      have B3 := Lib.hid (B2.out.trans (hb.mono B2.out.size))
      have Z3 := Lib.hid (Z2.out.below hb)
      have T3 := Lib.hid (T2.out.below hb)
      clear hb B2 Z2 T2
      rw [hNn] at m0 m1 lm ⊢
      clear hNn
      have hGN : G + 1 ≠ N := by omega
      have hNG : N ≠ G + 1 := by omega
      go_wp2
      rw [HF.out]
      refine bodyPost_ret (v := .tuple #[.agg #[.int .i64 (now + 1), .slice A2 ys.length c2], .bool true]) (by simp [results, Try.results47, go_sem, r0, r1]) rfl ?_
      refine ⟨A2, c2, rfl, ?_, ?_⟩
      · refine ownsBase (base := w1.heap.size) ?_ hz2
        repeat (first | exact O3.out | refine owns_set_farV ?_ (by omega))
      · repeat (first | exact B3.out | refine Below.setCell ?_ hG1 _)
    · have HNX := Lib.hid (show nextL zs now t = (0, [], false) from by unfold nextL; exact if_neg hgo)
      go_wp2_with fail
      refine (next_any A T cap capt zs now t _ Z1.out T1.out hl hlt HTS.out HSB.out).mono ?_
      rw [HNX.out]
      rintro e w2 ⟨A2, c2, rfl, ho, hb⟩
      clear ho HNX
      replace s0 := cellBelow hb (by omega) s0
      replace s1 := cellBelow hb (by omega) s1
      replace r0 := cellBelow hb ls r0
      replace r1 := cellBelow hb ls r1
      replace rf : ∀ q, w2.frozen? ⟨G + 1, q, none⟩ = false := fun q => ((bcell hb).2 _ _ ls).trans (rf q)
      replace ls := Nat.lt_of_lt_of_le ls hb.size
      have B2 := Lib.hid (B1.out.trans (hb.mono B1.out.size))
      have Z2 := Lib.hid (Z1.out.below hb)
      have T2 := Lib.hid (T1.out.below hb)
      clear hb B1 Z1 T1
      go_upto_region 4 with fail
      generalize hW : w2.alloc _ = W3
      have m0 : W3.cell? ⟨w2.heap.size, 0, none⟩ = some (.int .i64 (0)) := by rw [← hW]; simp [go_sem]
      have m1 : W3.cell? ⟨w2.heap.size, 1, none⟩ = some (.slice A2 0 c2) := by rw [← hW]; simp [go_sem]
      have lm : w2.heap.size < W3.heap.size := by rw [← hW]; simp
      have hb : Below w2.heap.size w2 W3 := by rw [← hW]; exact (Below.refl _ _).alloc (Nat.le_refl _) _
      clear hW
      obtain ⟨N, hNn⟩ : ∃ N, w2.heap.size = N := ⟨_, rfl⟩
      have lGN : G + 1 < N := by rw [← hNn]; exact ls
      replace s0 := cellBelow hb (by omega) s0
      replace s1 := cellBelow hb (by omega) s1
      replace r0 := cellBelow hb ls r0
      replace r1 := cellBelow hb ls r1
      replace rf : ∀ q, W3.frozen? ⟨G + 1, q, none⟩ = false := fun q => ((bcell hb).2 _ _ ls).trans (rf q)
      replace ls := Nat.lt_of_lt_of_le ls hb.size
      have B3 := Lib.hid (B2.out.trans (hb.mono B2.out.size))
      have Z3 := Lib.hid (Z2.out.below hb)
      have T3 := Lib.hid (T2.out.below hb)
      clear hb B2 Z2 T2
      rw [hNn] at m0 m1 lm ⊢
      clear hNn
      have hGN : G + 1 ≠ N := by omega
      have hNG : N ≠ G + 1 := by omega
      have HF := Lib.hid (show setP zs now t = (now, zs, false) from by rw [setP, if_pos HSB.out, if_neg (hgo)])
      go_wp2_with fail
      refine (copied_any A cap zs now _ Z3.out HA.out (by omega)).mono ?_
      rintro e w9 ⟨A9, c9, rfl, ho, hb⟩
      have O9 := Lib.hid ho
      have hz9 := Nat.le_trans B3.out.size (Nat.le_refl _)
      have l9 : G + 1 < W3.heap.size := ls
      clear ho
      replace s0 := cellBelow hb (by omega) s0
      replace s1 := cellBelow hb (by omega) s1
      replace r0 := cellBelow hb ls r0
      replace r1 := cellBelow hb ls r1
      replace rf : ∀ q, w9.frozen? ⟨G + 1, q, none⟩ = false := fun q => ((bcell hb).2 _ _ ls).trans (rf q)
      replace ls := Nat.lt_of_lt_of_le ls hb.size
      have B13 := Lib.hid (B3.out.trans (hb.mono B3.out.size))
      have Z13 := Lib.hid (Z3.out.below hb)
      have T13 := Lib.hid (T3.out.below hb)
      clear hb B3 Z3 T3
      go_wp2
      rw [HF.out]
      refine bodyPost_ret (v := .tuple #[.agg #[.int .i64 now, .slice A9 zs.length c9], .bool false]) (by simp [results, Try.results47, go_sem, r0, r1]) rfl ?_
      refine ⟨A9, c9, rfl, ?_, ?_⟩
      · refine ownsBase (base := W3.heap.size) ?_ hz9
        repeat (first | exact O9.out | refine owns_set_farV ?_ (by omega))
      · repeat (first | exact B13.out | refine Below.setCell ?_ hG1 _)

set_option maxRecDepth 100000 in
set_option maxHeartbeats 8000000 in
theorem sStoreSet_any (A T : Option Addr) (cap capt : Nat) (zs : List VerV) (now : Int) (t : List RowV) (w : World) (hz : VersA w A zs) (hA : A = none ∨ ∃ b off, A = some ⟨b, off, none⟩) (hN : A = none → cap = 0) (ht : RowsA w T t) (hl : zs.length ≤ 1048576) (hlt : t.length ≤ 1048577) (hs : ShortV zs) (hts : ∀ r ∈ t, r.k.size ≤ maxLen ∧ r.t.size ≤ maxLen) :
    Calls Try.prog 48 #[.agg #[.int .i64 now, .slice A zs.length cap], .slice T t.length capt] w (GetsSB w (setP zs now t)) := by
  have HS := Lib.hid hs
  have HTS := Lib.hid hts
  have HZ := Lib.hid hz
  have HT := Lib.hid ht
  have HA := Lib.hid hA
  have HNc := Lib.hid hN
  clear hs hts hz ht hA hN
  obtain ⟨sb, hsb⟩ : ∃ sb, storeB zs now = sb := ⟨_, rfl⟩
  have HSB := Lib.hid hsb
  clear hsb
  go_enter Try.func48, Try.ntmps48
  go_wp2_with fail
  generalize hW : (w.alloc _).alloc _ = W0
  have s0 : W0.cell? ⟨w.heap.size, 0, none⟩ = some (.int .i64 now) := by rw [← hW]; simp [go_sem]
  have s1 : W0.cell? ⟨w.heap.size, 1, none⟩ = some (.slice A zs.length cap) := by rw [← hW]; simp [go_sem]
  have r0 : W0.cell? ⟨w.heap.size + 1, 0, none⟩ = some (.int .i64 0) := by rw [← hW]; simp [go_sem]
  have r1 : W0.cell? ⟨w.heap.size + 1, 1, none⟩ = some (.slice none 0 0) := by rw [← hW]; simp [go_sem]
  have rf : ∀ q, W0.frozen? ⟨w.heap.size + 1, q, none⟩ = false := fun q => by rw [← hW]; simp [go_sem]
  have ls : w.heap.size + 1 < W0.heap.size := by rw [← hW]; simp
  have B0 := Lib.hid (show Below w.heap.size w W0 from by rw [← hW]; exact ((Below.refl _ _).alloc (Nat.le_refl _) _).alloc (by simp) _)
  have Z0 := Lib.hid (HZ.out.below B0.out)
  have T0 := Lib.hid (HT.out.below B0.out)
  obtain ⟨G, hG⟩ : ∃ G, w.heap.size = G := ⟨_, rfl⟩
  have HG := Lib.hid hG
  rw [hG] at s0 s1 r0 r1 rf ls ⊢
  clear hW hG HZ HT
  have hG1 : w.heap.size ≤ G + 1 := by have := HG.out; omega
  refine (l5Ok_any A cap zs now _ Z0.out (by omega) HS.out).mono ?_
  rw [HSB.out]
  rintro e w1 ⟨rfl, hb⟩
  replace s0 := cellBelow hb (by omega) s0
  replace s1 := cellBelow hb (by omega) s1
  replace r0 := cellBelow hb ls r0
  replace r1 := cellBelow hb ls r1
  replace rf : ∀ q, w1.frozen? ⟨G + 1, q, none⟩ = false := fun q => ((bcell hb).2 _ _ ls).trans (rf q)
  replace ls := Nat.lt_of_lt_of_le ls hb.size
  have B1 := Lib.hid (B0.out.trans (hb.mono B0.out.size))
  have Z1 := Lib.hid (Z0.out.below hb)
  have T1 := Lib.hid (T0.out.below hb)
  clear hb B0 Z0 T0
  cases sb
  · skip
    have HF := Lib.hid (show setP zs now t = (0, [], false) from by rw [setP, if_neg (by rw [HSB.out]; simp)])
    go_wp2
    rw [HF.out]
    refine bodyPost_ret (v := .tuple #[.agg #[.int .i64 0, .slice none 0 0], .bool false]) (by simp [results, Try.results48, go_sem, r0, r1]) rfl ?_
    exact ⟨none, 0, rfl, World.ownsRow_nil _ _ _ _, by repeat (first | exact B1.out | refine Below.setCell ?_ hG1 _)⟩
  · have hnow := (storeB_iff.1 HSB.out).1
    obtain ⟨rk, hrk⟩ : ∃ rk, relOk t = rk := ⟨_, rfl⟩
    have HRK := Lib.hid hrk
    clear hrk
    go_wp2_with fail
    refine (l2Ok_any T capt t _ T1.out hlt HTS.out).mono ?_
    rw [HRK.out]
    rintro e w2 ⟨rfl, hb⟩
    replace s0 := cellBelow hb (by omega) s0
    replace s1 := cellBelow hb (by omega) s1
    replace r0 := cellBelow hb ls r0
    replace r1 := cellBelow hb ls r1
    replace rf : ∀ q, w2.frozen? ⟨G + 1, q, none⟩ = false := fun q => ((bcell hb).2 _ _ ls).trans (rf q)
    replace ls := Nat.lt_of_lt_of_le ls hb.size
    have B2 := Lib.hid (B1.out.trans (hb.mono B1.out.size))
    have Z2 := Lib.hid (Z1.out.below hb)
    have T2 := Lib.hid (T1.out.below hb)
    clear hb B1 Z1 T1
    cases rk
    · skip
      have HF := Lib.hid (show setP zs now t = (now, zs, false) from by rw [setP, if_pos HSB.out, if_neg (fun h => by have := h.1; rw [HRK.out] at this; cases this)])
      go_wp2_with fail
      refine (l5Copy_any A cap zs now _ Z2.out HNc.out (by omega)).mono ?_
      rintro e w9 ⟨A9, c9, rfl, ho, hb⟩
      have O9 := Lib.hid ho
      have hz9 := Nat.le_trans B2.out.size (Nat.le_refl _)
      have l9 : G + 1 < w2.heap.size := ls
      clear ho
      replace s0 := cellBelow hb (by omega) s0
      replace s1 := cellBelow hb (by omega) s1
      replace r0 := cellBelow hb ls r0
      replace r1 := cellBelow hb ls r1
      replace rf : ∀ q, w9.frozen? ⟨G + 1, q, none⟩ = false := fun q => ((bcell hb).2 _ _ ls).trans (rf q)
      replace ls := Nat.lt_of_lt_of_le ls hb.size
      have B12 := Lib.hid (B2.out.trans (hb.mono B2.out.size))
      have Z12 := Lib.hid (Z2.out.below hb)
      have T12 := Lib.hid (T2.out.below hb)
      clear hb B2 Z2 T2
      go_wp2
      rw [HF.out]
      refine bodyPost_ret (v := .tuple #[.agg #[.int .i64 now, .slice A9 zs.length c9], .bool false]) (by simp [results, Try.results48, go_sem, r0, r1]) rfl ?_
      refine ⟨A9, c9, rfl, ?_, ?_⟩
      · refine ownsBase (base := w2.heap.size) ?_ hz9
        repeat (first | exact O9.out | refine owns_set_farV ?_ (by omega))
      · repeat (first | exact B12.out | refine Below.setCell ?_ hG1 _)
    · by_cases h30 : now = 30
      · have h30a : (30 : Int) ≤ now := by omega
        have HH30 := Lib.hid h30
        clear h30 hnow
        have HF := Lib.hid (show setP zs now t = (now, zs, false) from by rw [setP, if_pos HSB.out, if_neg (fun h => h.2.1 HH30.out)])
        go_wp2_with fail
        refine (l5Copy_any A cap zs now _ Z2.out HNc.out (by omega)).mono ?_
        rintro e w9 ⟨A9, c9, rfl, ho, hb⟩
        have O9 := Lib.hid ho
        have hz9 := Nat.le_trans B2.out.size (Nat.le_refl _)
        have l9 : G + 1 < w2.heap.size := ls
        clear ho
        replace s0 := cellBelow hb (by omega) s0
        replace s1 := cellBelow hb (by omega) s1
        replace r0 := cellBelow hb ls r0
        replace r1 := cellBelow hb ls r1
        replace rf : ∀ q, w9.frozen? ⟨G + 1, q, none⟩ = false := fun q => ((bcell hb).2 _ _ ls).trans (rf q)
        replace ls := Nat.lt_of_lt_of_le ls hb.size
        have B12 := Lib.hid (B2.out.trans (hb.mono B2.out.size))
        have Z12 := Lib.hid (Z2.out.below hb)
        have T12 := Lib.hid (T2.out.below hb)
        clear hb B2 Z2 T2
        go_wp2
        rw [HF.out]
        refine bodyPost_ret (v := .tuple #[.agg #[.int .i64 now, .slice A9 zs.length c9], .bool false]) (by simp [results, Try.results48, go_sem, r0, r1]) rfl ?_
        refine ⟨A9, c9, rfl, ?_, ?_⟩
        · refine ownsBase (base := w2.heap.size) ?_ hz9
          repeat (first | exact O9.out | refine owns_set_farV ?_ (by omega))
        · repeat (first | exact B12.out | refine Below.setCell ?_ hG1 _)
      · have h30a : now < 30 := by omega
        go_wp2_with fail
        refine (l5Set_any A T cap capt zs now t _ Z2.out T2.out hl hlt hnow.1 hnow.2).mono ?_
        have hsl := setL_len zs now t
        rintro e w3 ⟨A2, c2, rfl, ho, hb⟩
        have hz2 := B2.out.size
        have l2 : G + 1 < w2.heap.size := ls
        have O2 := Lib.hid ho
        clear ho
        replace s0 := cellBelow hb (by omega) s0
        replace s1 := cellBelow hb (by omega) s1
        replace r0 := cellBelow hb ls r0
        replace r1 := cellBelow hb ls r1
        replace rf : ∀ q, w3.frozen? ⟨G + 1, q, none⟩ = false := fun q => ((bcell hb).2 _ _ ls).trans (rf q)
        replace ls := Nat.lt_of_lt_of_le ls hb.size
        have B3 := Lib.hid (B2.out.trans (hb.mono B2.out.size))
        have Z3 := Lib.hid (Z2.out.below hb)
        have T3 := Lib.hid (T2.out.below hb)
        clear hb B2 Z2 T2
        obtain ⟨ys, hys⟩ : ∃ ys, setL zs now t = ys := ⟨_, rfl⟩
        have HYS := Lib.hid hys
        rw [hys] at O2 hsl
        go_upto_region 6 with fail
        try rw [hys]
        clear hys
        generalize hW : w3.alloc _ = W4
        have m0 : W4.cell? ⟨w3.heap.size, 0, none⟩ = some (.int .i64 (now + 1)) := by rw [← hW]; simp [go_sem]
        have m1 : W4.cell? ⟨w3.heap.size, 1, none⟩ = some (.slice A2 ys.length c2) := by rw [← hW]; simp [go_sem]
        have lm : w3.heap.size < W4.heap.size := by rw [← hW]; simp
        have hb : Below w3.heap.size w3 W4 := by rw [← hW]; exact (Below.refl _ _).alloc (Nat.le_refl _) _
        clear hW
        have O3 := Lib.hid (ownsKeep O2.out hb)
        clear O2
        obtain ⟨N, hNn⟩ : ∃ N, w3.heap.size = N := ⟨_, rfl⟩
        have lGN : G + 1 < N := by rw [← hNn]; exact ls
        replace s0 := cellBelow hb (by omega) s0
        replace s1 := cellBelow hb (by omega) s1
        replace r0 := cellBelow hb ls r0
        replace r1 := cellBelow hb ls r1
        replace rf : ∀ q, W4.frozen? ⟨G + 1, q, none⟩ = false := fun q => ((bcell hb).2 _ _ ls).trans (rf q)
        replace ls := Nat.lt_of_lt_of_le ls hb.size
        have B4 := Lib.hid (B3.out.trans (hb.mono B3.out.size))
        have Z4 := Lib.hid (Z3.out.below hb)
        have T4 := Lib.hid (T3.out.below hb)
        clear hb B3 Z3 T3
        rw [hNn] at m0 m1 lm ⊢
        clear hNn
        have hGN : G + 1 ≠ N := by omega
        have hNG : N ≠ G + 1 := by omega
        by_cases hlong : ys.length ≤ 120
        · have hli : (ys.length : Int) ≤ 120 := by omega
          have HF := Lib.hid (show setP zs now t = (now + 1, ys, true) from by rw [setP, if_pos HSB.out, if_pos ⟨HRK.out, h30, by rw [HYS.out]; exact hlong⟩, HYS.out])
          go_wp2
          rw [HF.out]
          refine bodyPost_ret (v := .tuple #[.agg #[.int .i64 (now + 1), .slice A2 ys.length c2], .bool true]) (by simp [results, Try.results48, go_sem, r0, r1]) rfl ?_
          refine ⟨A2, c2, rfl, ?_, ?_⟩
          · refine ownsBase (base := w2.heap.size) ?_ hz2
            repeat (first | exact O3.out | refine owns_set_farV ?_ (by omega))
          · repeat (first | exact B4.out | refine Below.setCell ?_ hG1 _)
        · have hli : (120 : Int) < (ys.length : Int) := by omega
          have HF := Lib.hid (show setP zs now t = (now, zs, false) from by rw [setP, if_pos HSB.out, if_neg (fun h => hlong (by have := h.2.2; rwa [HYS.out] at this))])
          go_wp2_with fail
          refine (l5Copy_any A cap zs now _ Z4.out HNc.out (by omega)).mono ?_
          rintro e w9 ⟨A9, c9, rfl, ho, hb⟩
          have O9 := Lib.hid ho
          have hz9 := Nat.le_trans B4.out.size (Nat.le_refl _)
          have l9 : G + 1 < W4.heap.size := ls
          clear ho
          replace s0 := cellBelow hb (by omega) s0
          replace s1 := cellBelow hb (by omega) s1
          replace r0 := cellBelow hb ls r0
          replace r1 := cellBelow hb ls r1
          replace rf : ∀ q, w9.frozen? ⟨G + 1, q, none⟩ = false := fun q => ((bcell hb).2 _ _ ls).trans (rf q)
          replace ls := Nat.lt_of_lt_of_le ls hb.size
          have B14 := Lib.hid (B4.out.trans (hb.mono B4.out.size))
          have Z14 := Lib.hid (Z4.out.below hb)
          have T14 := Lib.hid (T4.out.below hb)
          clear hb B4 Z4 T4
          go_wp2
          rw [HF.out]
          refine bodyPost_ret (v := .tuple #[.agg #[.int .i64 now, .slice A9 zs.length c9], .bool false]) (by simp [results, Try.results48, go_sem, r0, r1]) rfl ?_
          refine ⟨A9, c9, rfl, ?_, ?_⟩
          · refine ownsBase (base := W4.heap.size) ?_ hz9
            repeat (first | exact O9.out | refine owns_set_farV ?_ (by omega))
          · repeat (first | exact B14.out | refine Below.setCell ?_ hG1 _)
end Go.Proofs.Ytacddgipcafdlaa
