/-
  The walk of the law of a store at a stamp (P29).
-/
import Derived.Test.YtacddgipcafdlaaDrawSd
import Derived.Test.YtacddgipcafdlaaVaR
namespace Go.Proofs.Ytacddgipcafdlaa
open Go.Shelf Go.RowKit Go.Lib Go.Sort

theorem verAt_bd {zs : List VerV} {now : Int} (h : storeB zs now = true) {x : VerV} (hx : x ∈ zs) : x.i ≤ now ∧ x.i < x.o ∧ (x.o ≤ now ∨ x.o = 999) := by
  obtain ⟨h0, h1, _⟩ := storeB_iff.1 h
  obtain ⟨k, hk, rfl⟩ := List.mem_iff_getElem.1 hx
  simp only [versB, Bool.and_eq_true] at h1
  have h2 := List.all_eq_true.1 h1.2 k (by simpa using hk)
  rw [verAt, getV_of (List.getElem?_eq_getElem hk), Bool.and_eq_true] at h2
  have h3 := h2.1
  simp only [verB, Bool.and_eq_true, decide_eq_true_eq] at h3
  omega
theorem at_ok {zs : List VerV} {now st : Int} (h : storeB zs now = true) : relOk (storeAtL zs now st) = true := by
  obtain ⟨hn0, _, hs⟩ := storeB_iff.1 h
  rw [storeAtL, if_pos h]
  by_cases h1 : min st now < 1
  · have e := live_none h h1
    have : liveS zs (min st now) = [] := by unfold liveS; rw [e]; rfl
    rw [this]; rfl
  · obtain ⟨q, hq⟩ : ∃ q : Nat, min st now = q := ⟨(min st now).toNat, by omega⟩
    rw [hq]
    unfold stampsB at hs
    exact List.all_eq_true.1 hs q (by rw [List.mem_range]; omega)
theorem at_zero {zs : List VerV} {now : Int} (h : storeB zs now = true) : storeAtL zs now 0 = [] := by
  have h0 := (storeB_iff.1 h).1
  rw [storeAtL, if_pos h, show min 0 now = 0 from by omega]
  unfold liveS
  rw [live_none h (by omega)]; rfl
theorem at_len {zs : List VerV} {now st : Int} (h : storeB zs now = true) (hs : st ≤ now) : (storeAtL zs now st).length = (zs.filter (liveB st)).length := by
  rw [storeAtL, if_pos h, show min st now = st from by omega, (liveS_facts zs st).2.length_eq]
  unfold liveL
  rw [List.length_map]
theorem rel_shortR {l : List RowV} (h : relOk l = true) : ∀ r ∈ l, r.k.size ≤ maxLen ∧ r.t.size ≤ maxLen := fun r hr => by
  have h1 := rowOk_iff.1 ((rel_apart h).1 r hr)
  have h2 := h1.1
  have h3 := h1.2.1
  simp only [wordB, Bool.and_eq_true, decide_eq_true_eq] at h2 h3
  unfold maxLen
  omega
theorem cnt_take {zs : List VerV} {k : Nat} {x : VerV} (st : Int) (hx : zs[k]? = some x) : ((zs.take (k + 1)).filter (liveB st)).length = ((zs.take k).filter (liveB st)).length + if liveB st x = true then 1 else 0 := by
  obtain ⟨hk, hx⟩ := List.getElem?_eq_some_iff.1 hx
  rw [List.take_succ_eq_append_getElem hk, List.filter_append, hx, List.length_append]
  congr 1
  by_cases h : liveB st x = true <;> simp [h]

set_option maxRecDepth 100000 in
set_option maxHeartbeats 8000000 in
theorem FnStoreAt_any (A : Option Addr) (n cap : Nat) (bs : List Int) (w : World) (hz : Bytes w w.heap.size A bs ∧ bs.length = n ∧ n ≤ cap ∧ cap ≤ maxLen) :
    Calls Try.prog 10 #[.slice A n cap] w fun e w' => e = .returned (.bool true) ∧ Below w.heap.size w w' := by
  obtain ⟨hz, rfl, hc, hm⟩ := hz
  have hm' := hm
  unfold maxLen at hm'
  by_cases hl : (1048576 : Int) < bs.length
  · go_enter Try.func10, Try.ntmps10
    go_wp2
    go_ret
    exact ⟨rfl, Below.refl _ _⟩
  go_enter Try.func10, Try.ntmps10
  go_wp2_with fail
  refine (DrawStoreAt_any A cap bs w hz hc hm).mono ?_
  rintro e w1 ⟨zs, now, A2, c2, st, rfl, hst, hzl, hsh, hnow, ho, hb1⟩
  have HS := Lib.hid hsh
  have O1 := Lib.hid ho
  clear hz hm hm' hc hsh ho
  obtain ⟨sb, hsb⟩ : ∃ sb, storeB zs now = sb := ⟨_, rfl⟩
  have HSB := Lib.hid hsb
  clear hsb
  have hal := storeAtL_len zs now st
  obtain ⟨al, hall⟩ : ∃ al, storeAtL zs now st = al := ⟨_, rfl⟩
  have HAL := Lib.hid hall
  rw [hall] at hal
  clear hall
  go_wp2_with fail
  generalize hW : w1.alloc _ = W0
  have s0 : W0.cell? ⟨w1.heap.size, 0, none⟩ = some (.int .i64 now) := by rw [← hW]; simp [go_sem]
  have s1 : W0.cell? ⟨w1.heap.size, 1, none⟩ = some (.slice A2 zs.length c2) := by rw [← hW]; simp [go_sem]
  have ls : w1.heap.size < W0.heap.size := by rw [← hW]; simp
  have b0 : Below w1.heap.size w1 W0 := by rw [← hW]; exact (Below.refl _ _).alloc (Nat.le_refl _) _
  have B0 := Lib.hid (hb1.trans (b0.mono hb1.size))
  have Z0 := Lib.hid (show VersA W0 A2 zs from ElAt.below (el_of_owns verC_len O1.out) b0)
  generalize w1.heap.size = G at *
  clear hW O1 hb1 b0
  refine (StoreAt_any A2 c2 zs now st _ Z0.out (by omega) HS.out).mono ?_
  rw [HAL.out]
  rintro e w2 ⟨A3, c3, rfl, ho, hb⟩
  have N2 := Lib.hid (rowsA_own ho rfl)
  clear ho
  replace s0 := cellBelow hb ls s0
  replace s1 := cellBelow hb ls s1
  replace ls := Nat.lt_of_lt_of_le ls hb.size
  have Z2 := Lib.hid (Z0.out.below hb)
  have B2 := Lib.hid (B0.out.trans (hb.mono B0.out.size))
  clear hb Z0 B0
  go_wp2_with fail
  refine (sStoreAt_any A2 c2 zs now st _ Z2.out (by omega) HS.out).mono ?_
  rw [HAL.out]
  rintro e w3 ⟨A4, c4, rfl, ho, hb⟩
  have M3 := Lib.hid (rowsA_own ho rfl)
  have N3 := Lib.hid (N2.out.below hb)
  clear ho N2
  replace s0 := cellBelow hb ls s0
  replace s1 := cellBelow hb ls s1
  replace ls := Nat.lt_of_lt_of_le ls hb.size
  have Z3 := Lib.hid (Z2.out.below hb)
  have B3 := Lib.hid (B2.out.trans (hb.mono B2.out.size))
  clear hb Z2 B2
  go_wp2_with fail
  refine (vaRows_same A3 A4 c3 c4 al _ N3.out M3.out (by unfold maxLen; omega)).mono ?_
  rintro e w4 ⟨rfl, hb⟩
  have N4 := Lib.hid (N3.out.below hb)
  clear N3 M3
  replace s0 := cellBelow hb ls s0
  replace s1 := cellBelow hb ls s1
  replace ls := Nat.lt_of_lt_of_le ls hb.size
  have Z4 := Lib.hid (Z3.out.below hb)
  have B4 := Lib.hid (B3.out.trans (hb.mono B3.out.size))
  clear hb Z3 B3
  go_wp2_with fail
  refine (StoreOk_any A2 c2 zs now _ Z4.out (by omega) HS.out).mono ?_
  rw [HSB.out]
  rintro e w5 ⟨rfl, hb⟩
  have N5 := Lib.hid (N4.out.below hb)
  clear N4
  replace s0 := cellBelow hb ls s0
  replace s1 := cellBelow hb ls s1
  replace ls := Nat.lt_of_lt_of_le ls hb.size
  have Z5 := Lib.hid (Z4.out.below hb)
  have B5 := Lib.hid (B4.out.trans (hb.mono B4.out.size))
  clear hb Z4 B4
  cases sb
  · go_wp2_with fail
    refine (sStoreAt_any A2 c2 zs now st _ Z5.out (by omega) HS.out).mono ?_
    rw [HAL.out]
    rintro e w6 ⟨A6, c6, rfl, ho, hb⟩
    have M6 := Lib.hid (rowsA_own ho rfl)
    have N6 := Lib.hid (N5.out.below hb)
    have B6 := Lib.hid (B5.out.trans (hb.mono B5.out.size))
    clear ho hb
    go_wp2_with fail
    refine (vaRows_same A3 A6 c3 c6 al _ N6.out M6.out (by unfold maxLen; omega)).mono ?_
    rintro e w7 ⟨rfl, hb⟩
    have B7 := Lib.hid (B6.out.trans (hb.mono B6.out.size))
    clear hb
    go_wp2
    go_ret
    exact ⟨rfl, B7.out⟩
  have hn30 := (storeB_iff.1 HSB.out).1
  have HOK := Lib.hid (show relOk al = true from by rw [← HAL.out]; exact at_ok HSB.out)
  have HZR := Lib.hid (at_zero HSB.out)
  go_wp2
  have S0 := Lib.hid s0
  have S1 := Lib.hid s1
  clear s0 s1
  go_loopw [6, 7] (fun v i wr => ∃ k : Nat, k ≤ zs.length ∧ i = .int .i64 k ∧ v = .int .i64 (((zs.take k).filter (liveB st)).length : Int) ∧ Below w5.heap.size w5 wr) (fun _ i _ => zs.length - (intOf i).toNat)
  case atStart => exact ⟨0, Nat.zero_le _, rfl, by simp, Below.refl _ _⟩
  case round =>
    obtain ⟨k, hk, rfl, rfl, hbr⟩ := hrel
    have t0 := cellBelow hbr ls S0.out
    have t1 := cellBelow hbr ls S1.out
    have hsz := hbr.size
    have BW := Lib.hid (B5.out.trans (hbr.mono B5.out.size))
    have ZW := Lib.hid (Z5.out.below hbr)
    have NW := Lib.hid (N5.out.below hbr)
    have hcl : ((zs.take k).filter (liveB st)).length ≤ k := by have := List.length_filter_le (liveB st) (zs.take k); rw [List.length_take] at this; omega
    by_cases hlt : k < zs.length
    · obtain ⟨b, off, x, rfl, hb, hx, c0, c1, c2', c3', c4', c5'⟩ := ZW.out.at_ hlt
      have HT := Lib.hid (cnt_take st hx)
      have hbd := verAt_bd HSB.out (List.mem_of_getElem? hx)
      obtain ⟨m, hm⟩ : ∃ m, ((zs.take k).filter (liveB st)).length = m := ⟨_, rfl⟩
      rw [hm] at HT hcl
      rw [hm]
      have hkz : (k : Int) < (zs.length : Int) := by omega
      have hkz0 : (0 : Int) ≤ (k : Int) := by omega
      clear hx hm
      by_cases h1 : x.i ≤ st
      · by_cases h2 : st < x.o
        · rw [if_pos (by simp [liveB, h1, h2])] at HT
          clear hbd
          go_wp2
          go_roundw
          case rel => exact ⟨k + 1, by omega, by go_num, by rw [HT.out]; go_num, hbr⟩
          case measure => simp [intOf]; omega
        · rw [if_neg (by simp [liveB, h1, h2])] at HT
          have h3 : ¬ x.o = 999 := by omega
          have h3b : decide (x.o = 999) = false := decide_eq_false h3
          have h3c : (x.o == 999) = false := by simpa using h3
          have h2' : x.o ≤ st := by omega
          clear hbd h2
          go_wp2
          go_roundw
          case rel => exact ⟨k + 1, by omega, by go_num, by rw [HT.out]; rfl, hbr⟩
          case measure => simp [intOf]; omega
      · rw [if_neg (by simp [liveB, h1])] at HT
        have h1' : st < x.i := by omega
        clear hbd
        go_wp2
        go_roundw
        case rel => exact ⟨k + 1, by omega, by go_num, by rw [HT.out]; rfl, hbr⟩
        case measure => simp [intOf]; omega
    · obtain rfl : k = zs.length := by omega
      have HCN := Lib.hid (show st ≤ now → (((zs.take zs.length).filter (liveB st)).length : Int) = (al.length : Int) from fun h => by rw [List.take_length, ← HAL.out, at_len HSB.out h])
      obtain ⟨m, hm⟩ : ∃ m, ((zs.take zs.length).filter (liveB st)).length = m := ⟨_, rfl⟩
      rw [hm] at HCN hcl
      rw [hm]
      clear hm
      go_wp2_with fail
      refine (RelOk_any A3 c3 al _ NW.out (by omega) (rel_shortR HOK.out)).mono ?_
      rw [HOK.out]
      rintro e w6 ⟨rfl, hb⟩
      replace t0 := cellBelow hb (by omega) t0
      replace t1 := cellBelow hb (by omega) t1
      have Z6 := Lib.hid (ZW.out.below hb)
      have B6 := Lib.hid (BW.out.trans (hb.mono BW.out.size))
      have l6 : G < w6.heap.size := by have := hb.size; omega
      clear hb
      go_wp2_with fail
      refine (StoreAt_any A2 c2 zs now 0 _ Z6.out (by omega) HS.out).mono ?_
      rw [HZR.out]
      rintro e w7 ⟨A7, c7, rfl, ho, hb⟩
      replace t0 := cellBelow hb l6 t0
      have B7 := Lib.hid (B6.out.trans (hb.mono B6.out.size))
      clear ho hb
      by_cases h : now < st
      · go_wp2
        go_ret
        exact ⟨rfl, B7.out⟩
      · have h' : st ≤ now := by omega
        have HC := HCN.out h'
        go_wp2
        go_ret
        exact ⟨by first | rfl | simp [HC], B7.out⟩
end Go.Proofs.Ytacddgipcafdlaa
