/-
  The walk of the law of how many rows a store knows (P61).
-/
import Derived.Test.YtacddgipcafdlaaDrawSd
import Derived.Test.YtacddgipcafdlaaStoMn
namespace Go.Proofs.Ytacddgipcafdlaa
open Go.Shelf Go.RowKit Go.Lib Go.Sort

set_option maxRecDepth 100000 in
set_option maxHeartbeats 1000000 in
theorem vaInts_same (A B : Option Addr) (cap cap' : Nat) (zs : List Int) (w : World) (hz : IntsA w A zs) (hz' : IntsA w B zs) (hl : zs.length ≤ maxLen) :
    Calls Try.prog 59 #[.slice A zs.length cap, .slice B zs.length cap'] w fun e w' => e = .returned (.bool true) ∧ Below w.heap.size w w' := by
  unfold maxLen at hl
  have HZ := Lib.hid hz
  have HZ' := Lib.hid hz'
  clear hz hz'
  go_enter Try.func59, Try.ntmps59
  go_wp2
  go_loopw [5] (fun i wr => ∃ k : Nat, k ≤ zs.length ∧ i = .int .i64 k ∧ Below w.heap.size w wr) (fun i _ => zs.length - (intOf i).toNat)
  case atStart => exact ⟨0, Nat.zero_le _, rfl, Below.refl _ _⟩
  case round =>
    obtain ⟨k, hk, rfl, hbr⟩ := hrel
    by_cases hlt : k < zs.length
    · obtain ⟨b, off, x, rfl, hb, hx, c0⟩ := (HZ.out.below hbr).at_ hlt
      obtain ⟨b', off', x', rfl, hb', hx', d0⟩ := (HZ'.out.below hbr).at_ hlt
      obtain rfl : x' = x := by rw [hx] at hx'; injection hx' with h; exact h.symm
      clear hx hx'
      go_wp2_with fail
      refine wp_region_later (by kernel_rfl) (by kernel_rfl) ?_
      intro f hf1 hf2 hfc
      repeat (go_big_quiet_step ((fail)))
      refine wpQuiet_nil ?_
      rintro _ ⟨v, rfl⟩
      have Hv := Lib.hid (hbr.trans ((hf1.out v).mono hbr.size))
      clear hfc
      go_wp2
      go_roundw
      case rel => exact ⟨k + 1, by omega, by go_num, Hv.out⟩
      case measure => simp [intOf]; omega
    · go_wp2
      go_ret
      exact ⟨rfl, hbr⟩

theorem many_at {zs : List VerV} {now : Int} {k : Nat} {x : Int} (h : storeB zs now = true) (hx : (storeManyL zs now)[k]? = some x) : ((storeAtL zs now ((k : Int) + 1)).length : Int) = x := by
  unfold storeManyL at hx
  rw [if_pos h, List.getElem?_map] at hx
  have hk : k < now.toNat := by
    by_cases hk : k < now.toNat
    · exact hk
    · rw [List.getElem?_eq_none (by rw [List.length_range]; omega)] at hx
      cases hx
  rw [List.getElem?_range hk] at hx
  injection hx with hx
  rw [← hx, storeAtL, if_pos h, show min ((k : Int) + 1) now = (k : Int) + 1 from by omega, (liveS_facts zs ((k : Int) + 1)).2.length_eq]
  rfl

set_option maxRecDepth 100000 in
set_option maxHeartbeats 8000000 in
theorem FnStoreMany_any (A : Option Addr) (n cap : Nat) (bs : List Int) (w : World) (hz : Bytes w w.heap.size A bs ∧ bs.length = n ∧ n ≤ cap ∧ cap ≤ maxLen) :
    Calls Try.prog 13 #[.slice A n cap] w fun e w' => e = .returned (.bool true) ∧ Below w.heap.size w w' := by
  obtain ⟨hz, rfl, hc, hm⟩ := hz
  have hm' := hm
  unfold maxLen at hm'
  by_cases hl : (1048576 : Int) < bs.length
  · go_enter Try.func13, Try.ntmps13
    go_wp2
    go_ret
    exact ⟨rfl, Below.refl _ _⟩
  go_enter Try.func13, Try.ntmps13
  go_wp2_with fail
  refine (DrawStoreMany_any A cap bs w hz hc hm).mono ?_
  rintro e w1 ⟨zs, now, A2, c2, rfl, hzl, hsh, hnow, ho, hb1⟩
  have HS := Lib.hid hsh
  have O1 := Lib.hid ho
  clear hz hm hm' hc hsh ho
  obtain ⟨sb, hsb⟩ : ∃ sb, storeB zs now = sb := ⟨_, rfl⟩
  have HSB := Lib.hid hsb
  clear hsb
  have hml := storeManyL_len zs now
  have HAT := Lib.hid (fun (h : sb = true) k x hx => many_at (k := k) (x := x) (HSB.out.trans h) hx)
  have HLN := Lib.hid (show sb = true → ((storeManyL zs now).length : Int) = now from fun h => by
    have h0 := HSB.out.trans h
    have := (storeB_iff.1 h0).1
    unfold storeManyL
    rw [if_pos h0, List.length_map, List.length_range]
    omega)
  obtain ⟨ms, hms⟩ : ∃ ms, storeManyL zs now = ms := ⟨_, rfl⟩
  have HMS := Lib.hid hms
  rw [hms] at hml HAT HLN
  clear hms
  go_wp2_with fail
  generalize hW : w1.alloc _ = W0
  have s0 : W0.cell? ⟨w1.heap.size, 0, none⟩ = some (.int .i64 now) := by rw [← hW]; simp [go_sem]
  have s1 : W0.cell? ⟨w1.heap.size, 1, none⟩ = some (.slice A2 zs.length c2) := by rw [← hW]; simp [go_sem]
  have ls : w1.heap.size < W0.heap.size := by rw [← hW]; simp
  have b0 : Below w1.heap.size w1 W0 := by rw [← hW]; exact (Below.refl _ _).alloc (Nat.le_refl _) _
  have B0 := Lib.hid (hb1.trans (b0.mono hb1.size))
  have Z0 := Lib.hid (show VersA W0 A2 zs from ElAt.below (el_of_owns verC_len O1.out) b0)
  generalize w1.heap.size = G at *
  clear hW O1 hb1 b0
  refine (StoreMany_any A2 c2 zs now _ Z0.out (by omega) HS.out).mono ?_
  rw [HMS.out]
  rintro e w2 ⟨A3, c3, rfl, ho, hb⟩
  have I2 := Lib.hid (show IntsA w2 A3 ms from el_of_owns intC_len ho)
  replace s0 := cellBelow hb ls s0
  replace s1 := cellBelow hb ls s1
  replace ls := Nat.lt_of_lt_of_le ls hb.size
  have Z2 := Lib.hid (Z0.out.below hb)
  have B2 := Lib.hid (B0.out.trans (hb.mono B0.out.size))
  clear ho hb Z0 B0
  go_wp2_with fail
  refine (sStoreMany_any A2 c2 zs now _ Z2.out (by omega) HS.out).mono ?_
  rw [HMS.out]
  rintro e w3 ⟨A4, c4, rfl, ho, hb⟩
  have J3 := Lib.hid (show IntsA w3 A4 ms from el_of_owns intC_len ho)
  have I3 := Lib.hid (I2.out.below hb)
  replace s0 := cellBelow hb ls s0
  replace s1 := cellBelow hb ls s1
  replace ls := Nat.lt_of_lt_of_le ls hb.size
  have Z3 := Lib.hid (Z2.out.below hb)
  have B3 := Lib.hid (B2.out.trans (hb.mono B2.out.size))
  clear ho hb Z2 B2 I2
  go_wp2_with fail
  refine (vaInts_same A3 A4 c3 c4 ms _ I3.out J3.out (by unfold maxLen; omega)).mono ?_
  rintro e w4 ⟨rfl, hb⟩
  have I4 := Lib.hid (I3.out.below hb)
  replace s0 := cellBelow hb ls s0
  replace s1 := cellBelow hb ls s1
  replace ls := Nat.lt_of_lt_of_le ls hb.size
  have Z4 := Lib.hid (Z3.out.below hb)
  have B4 := Lib.hid (B3.out.trans (hb.mono B3.out.size))
  clear hb Z3 B3 I3 J3
  go_wp2_with fail
  refine (StoreOk_any A2 c2 zs now _ Z4.out (by omega) HS.out).mono ?_
  rw [HSB.out]
  rintro e w5 ⟨rfl, hb⟩
  have I5 := Lib.hid (I4.out.below hb)
  replace s0 := cellBelow hb ls s0
  replace s1 := cellBelow hb ls s1
  replace ls := Nat.lt_of_lt_of_le ls hb.size
  have Z5 := Lib.hid (Z4.out.below hb)
  have B5 := Lib.hid (B4.out.trans (hb.mono B4.out.size))
  clear hb Z4 B4 I4
  cases sb
  · go_wp2_with fail
    refine (sStoreMany_any A2 c2 zs now _ Z5.out (by omega) HS.out).mono ?_
    rw [HMS.out]
    rintro e w6 ⟨A6, c6, rfl, ho, hb⟩
    have J6 := Lib.hid (show IntsA w6 A6 ms from el_of_owns intC_len ho)
    have I6 := Lib.hid (I5.out.below hb)
    have B6 := Lib.hid (B5.out.trans (hb.mono B5.out.size))
    clear ho hb
    go_wp2_with fail
    refine (vaInts_same A3 A6 c3 c6 ms _ I6.out J6.out (by unfold maxLen; omega)).mono ?_
    rintro e w7 ⟨rfl, hb⟩
    have B7 := Lib.hid (B6.out.trans (hb.mono B6.out.size))
    clear hb
    go_wp2
    go_ret
    exact ⟨rfl, B7.out⟩
  go_wp2
  have S0 := Lib.hid s0
  have S1 := Lib.hid s1
  clear s0 s1
  go_loopw [5] (fun i wr => ∃ k : Nat, k ≤ ms.length ∧ i = .int .i64 k ∧ Below w5.heap.size w5 wr) (fun i _ => ms.length - (intOf i).toNat)
  case atStart => exact ⟨0, Nat.zero_le _, rfl, Below.refl _ _⟩
  case round =>
    obtain ⟨k, hk, rfl, hbr⟩ := hrel
    have t0 := cellBelow hbr ls S0.out
    have t1 := cellBelow hbr ls S1.out
    have hsz := hbr.size
    have BW := Lib.hid (B5.out.trans (hbr.mono B5.out.size))
    have ZW := Lib.hid (Z5.out.below hbr)
    by_cases hlt : k < ms.length
    · obtain ⟨g3, off3, x, rfl, hg3, hx, q0⟩ := (I5.out.below hbr).at_ hlt
      have HX := Lib.hid (HAT.out (by first | exact rfl | trivial) k x hx)
      have hkz : (k : Int) < (ms.length : Int) := by omega
      have hkz0 : (0 : Int) ≤ (k : Int) := by omega
      have hq0 : Below wr.heap.size wr wr := Below.refl _ _
      have hwr : IntKind.i64.wrap ((k : Int) + 1) = (k : Int) + 1 := by rw [IntKind.wrap_i64]; omega
      have hGwr : G < wr.heap.size := by omega
      have hal := storeAtL_len zs now ((k : Int) + 1)
      obtain ⟨al, hall⟩ : ∃ al, storeAtL zs now ((k : Int) + 1) = al := ⟨_, rfl⟩
      have HAL := Lib.hid hall
      rw [hall] at HX hal
      clear hx hall
      go_upto_region 10 with fail
      go_region_held3 (fun w' => w'.cell? ⟨g3, off3 + k, none⟩ = some (.int .i64 x) ∧ w'.cell? ⟨G, 0, none⟩ = some (.int .i64 now) ∧ w'.cell? ⟨G, 1, none⟩ = some (.slice A2 zs.length c2) ∧ wr.heap.size ≤ w'.heap.size ∧ Below wr.heap.size wr w')
        (((try go_split_ands); refine ⟨?cc90, ?cc91, ?cc92, ?sz9, ?bl9⟩; (case cc90 => (repeat (first | with_reducible assumption | with_reducible refine cell_below hb (by first | omega | (simp; done) | (simp; omega)) ?_ | with_reducible refine cell_set_far (by first | omega | (simp; done) | (simp; omega)) ?_ | with_reducible exact cell_alloc_swap (by with_reducible assumption) (by first | omega | (simp; done) | (simp; omega)) | with_reducible refine cell_alloc_far ?_ | with_reducible refine cell_drew ?_))); (case cc91 => (repeat (first | with_reducible assumption | with_reducible refine cell_below hb (by first | omega | (simp; done) | (simp; omega)) ?_ | with_reducible refine cell_set_far (by first | omega | (simp; done) | (simp; omega)) ?_ | with_reducible exact cell_alloc_swap (by with_reducible assumption) (by first | omega | (simp; done) | (simp; omega)) | with_reducible refine cell_alloc_far ?_ | with_reducible refine cell_drew ?_))); (case cc92 => (repeat (first | with_reducible assumption | with_reducible refine cell_below hb (by first | omega | (simp; done) | (simp; omega)) ?_ | with_reducible refine cell_set_far (by first | omega | (simp; done) | (simp; omega)) ?_ | with_reducible exact cell_alloc_swap (by with_reducible assumption) (by first | omega | (simp; done) | (simp; omega)) | with_reducible refine cell_alloc_far ?_ | with_reducible refine cell_drew ?_))); (case sz9 => (first | with_reducible assumption | (have := hb.size; omega) | omega | (simp; done) | (simp; omega) | (have := hb.size; simp at this ⊢; omega))); (case bl9 => (repeat (first | with_reducible assumption | with_reducible exact hq0 | with_reducible refine Below.drew ?_ | with_reducible refine Below.trans ?_ (hb.mono (by first | omega | (simp; done) | (simp; omega))) | with_reducible refine Below.setCell ?_ (by first | omega | (simp; done) | (simp; omega)) _ | with_reducible exact below_alloc_swap (by with_reducible assumption) (by first | omega | (simp; done) | (simp; omega)) | with_reducible refine Below.alloc ?_ (by first | omega | (simp; done) | (simp; omega)) _)))))
        (first
          | (go_at_call 43; (try go_split_ands); (with_reducible refine (StoreAt_any A2 c2 zs now ((k : Int) + 1) _ (ZW.out.below (by (repeat (first | with_reducible assumption | with_reducible exact hq0 | with_reducible refine Below.drew ?_ | with_reducible refine Below.trans ?_ (hb.mono (by first | omega | (simp; done) | (simp; omega))) | with_reducible refine Below.setCell ?_ (by first | omega | (simp; done) | (simp; omega)) _ | with_reducible exact below_alloc_swap (by with_reducible assumption) (by first | omega | (simp; done) | (simp; omega)) | with_reducible refine Below.alloc ?_ (by first | omega | (simp; done) | (simp; omega)) _)))) (by omega) HS.out).mono ?_); rw [HAL.out]; rintro e wA ⟨AA, cA, rfl, ho, hb⟩; have HX1 := HX.out; clear ho; have hsz : wr.heap.size ≤ wA.heap.size := (by have := hb.size; first | omega | (simp at this; omega)); obtain ⟨hc, hf, hlb⟩ := bcell3 hb))
      all_goals (rename_i hH; have BV := Lib.hid (hbr.trans (hH.2.2.2.2.mono hbr.size)); clear hH)
      all_goals go_wp2
      all_goals go_roundw
      case rel => exact ⟨k + 1, by omega, by go_num, BV.out⟩
      case measure => simp [intOf]; omega
    · obtain rfl : k = ms.length := by omega
      have HN := HLN.out (by first | exact rfl | trivial)
      go_wp2
      go_ret
      exact ⟨by first | rfl | simp [HN], BW.out⟩
end Go.Proofs.Ytacddgipcafdlaa
