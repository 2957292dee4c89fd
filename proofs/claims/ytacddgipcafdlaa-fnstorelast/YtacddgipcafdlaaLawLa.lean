/-
  The walk of the law of the last stamp of a key (P32).
-/
import Derived.Test.YtacddgipcafdlaaDrawSd
import Derived.Test.YtacddgipcafdlaaVaR
namespace Go.Proofs.Ytacddgipcafdlaa
open Go.Shelf Go.RowKit Go.Lib Go.Sort

theorem step_ge (key : ByteArray) : ∀ (l : List VerV) (a : Int), a ≤ l.foldl (stepL key) a ∧ ∀ x ∈ l, keyB key x.r = true → chgL x ≤ l.foldl (stepL key) a
  | [], a => ⟨Int.le_refl _, fun x hx => by cases hx⟩
  | y :: l, a => by
    obtain ⟨h1, h2⟩ := step_ge key l (stepL key a y)
    have h0 : a ≤ stepL key a y := by unfold stepL; split <;> omega
    refine ⟨Int.le_trans h0 h1, fun x hx hk => ?_⟩
    rcases List.mem_cons.1 hx with rfl | hx
    · have : chgL x ≤ stepL key a x := by unfold stepL; rw [if_pos (show (x.r.k.toList == key.toList) = true from hk)]; omega
      exact Int.le_trans this h1
    · exact h2 x hx hk
theorem step_le (key : ByteArray) (now : Int) : ∀ (l : List VerV) (a : Int), a ≤ now → (∀ x ∈ l, chgL x ≤ now) → l.foldl (stepL key) a ≤ now
  | [], a, h, _ => h
  | y :: l, a, h, hx => step_le key now l (stepL key a y) (by have := hx y (List.mem_cons_self ..); unfold stepL; split <;> omega) (fun x h' => hx x (List.mem_cons_of_mem _ h'))
theorem ver_bd {zs : List VerV} {now : Int} (h : storeB zs now = true) {x : VerV} (hx : x ∈ zs) : x.i ≤ now ∧ x.i < x.o ∧ (x.o ≤ now ∨ x.o = 999) := by
  obtain ⟨h0, h1, _⟩ := storeB_iff.1 h
  obtain ⟨k, hk, rfl⟩ := List.mem_iff_getElem.1 hx
  simp only [versB, Bool.and_eq_true] at h1
  have h2 := List.all_eq_true.1 h1.2 k (by simpa using hk)
  rw [verAt, getV_of (List.getElem?_eq_getElem hk), Bool.and_eq_true] at h2
  have h3 := h2.1
  simp only [verB, Bool.and_eq_true, decide_eq_true_eq] at h3
  omega
theorem chg_le {zs : List VerV} {now : Int} (h : storeB zs now = true) {x : VerV} (hx : x ∈ zs) : chgL x ≤ now := by
  have := ver_bd h hx
  unfold chgL
  split <;> omega
theorem live_key {zs : List VerV} {now st : Int} {key : ByteArray} (h : storeB zs now = true) (h1 : lastTo zs key zs.length ≤ st) (h2 : st ≤ now) : (liveL zs st).filter (keyB key) = (liveL zs now).filter (keyB key) := by
  have hn := (storeB_iff.1 h).1
  unfold liveL
  rw [List.filter_map, List.filter_map, List.filter_filter, List.filter_filter]
  congr 1
  refine List.filter_congr fun x hx => ?_
  cases hk : keyB key x.r with
  | false => simp [hk]
  | true =>
    have hb := ver_bd h hx
    have hg := (step_ge key (zs.take zs.length) 0).2 x (by rw [List.take_length]; exact hx) hk
    have hg' : chgL x ≤ st := Int.le_trans hg h1
    have : liveB st x = liveB now x := by
      unfold chgL at hg'
      unfold liveB
      rw [decide_eq_decide]
      split at hg' <;> omega
    simp [hk, this]
theorem liveS_key {zs : List VerV} {now st : Int} {key : ByteArray} (h : storeB zs now = true) (h1 : lastTo zs key zs.length ≤ st) (h2 : st ≤ now) : (liveS zs st).filter (keyB key) = (liveS zs now).filter (keyB key) := by
  obtain ⟨hn0, _, hst⟩ := storeB_iff.1 h
  have hok : relOk (liveS zs now) = true := by
    obtain ⟨q, rfl⟩ : ∃ q : Nat, now = q := ⟨now.toNat, by omega⟩
    unfold stampsB at hst
    exact List.all_eq_true.1 hst q (by rw [List.mem_range]; omega)
  obtain ⟨hr1, hr2⟩ := rel_apart hok
  have f1 := liveS_facts zs st
  have f2 := liveS_facts zs now
  refine apart_unique _ _ (f1.1.sublist List.filter_sublist) (hr2.sublist List.filter_sublist) (fun x hx => (rowOk_iff.1 (hr1 x (List.mem_filter.1 hx).1)).2.2.2.1) ?_
  exact ((f1.2.filter (keyB key)).trans (by rw [live_key h h1 h2])).trans (f2.2.filter (keyB key)).symm

set_option maxRecDepth 100000 in
set_option maxHeartbeats 8000000 in
theorem FnStoreLast_any (A : Option Addr) (n cap : Nat) (bs : List Int) (w : World) (hz : Bytes w w.heap.size A bs ∧ bs.length = n ∧ n ≤ cap ∧ cap ≤ maxLen) :
    Calls Try.prog 8 #[.slice A n cap] w fun e w' => e = .returned (.bool true) ∧ Below w.heap.size w w' := by
  obtain ⟨hz, rfl, hc, hm⟩ := hz
  have hm' := hm
  unfold maxLen at hm'
  by_cases hl : (1048576 : Int) < bs.length
  · go_enter Try.func8, Try.ntmps8
    go_wp2
    go_ret
    exact ⟨rfl, Below.refl _ _⟩
  go_enter Try.func8, Try.ntmps8
  go_wp2_with fail
  refine (DrawStoreLast_any A cap bs w hz hc hm).mono ?_
  rintro e w1 ⟨zs, now, A2, c2, key, rfl, hkey, hzl, hsh, hnow, ho, hb1⟩
  have HS := Lib.hid hsh
  have O1 := Lib.hid ho
  clear hz hm hm' hc hsh ho
  obtain ⟨sb, hsb⟩ : ∃ sb, storeB zs now = sb := ⟨_, rfl⟩
  have HSB := Lib.hid hsb
  clear hsb
  obtain ⟨la, hla⟩ : ∃ la, storeLastL zs now key = la := ⟨_, rfl⟩
  have HLA := Lib.hid hla
  clear hla
  go_wp2_with fail
  generalize hW : w1.alloc _ = W0
  have s0 : W0.cell? ⟨w1.heap.size, 0, none⟩ = some (.int .i64 now) := by rw [← hW]; simp [go_sem]
  have s1 : W0.cell? ⟨w1.heap.size, 1, none⟩ = some (.slice A2 zs.length c2) := by rw [← hW]; simp [go_sem]
  have ls : w1.heap.size < W0.heap.size := by rw [← hW]; simp
  have b0 : Below w1.heap.size w1 W0 := by rw [← hW]; exact (Below.refl _ _).alloc (Nat.le_refl _) _
  have B0 := Lib.hid (hb1.trans (b0.mono hb1.size))
  have Z0 := Lib.hid (show VersA W0 A2 zs from ElAt.below (el_of_owns verC_len O1.out) b0)
  generalize w1.heap.size = G at *
  clear hW O1 hb1 b0
  refine (StoreLast_any A2 c2 zs now key _ Z0.out (by omega) HS.out).mono ?_
  rw [HLA.out]
  rintro e w2 ⟨rfl, hb⟩
  replace s0 := cellBelow hb ls s0
  replace s1 := cellBelow hb ls s1
  replace ls := Nat.lt_of_lt_of_le ls hb.size
  have Z2 := Lib.hid (Z0.out.below hb)
  have B2 := Lib.hid (B0.out.trans (hb.mono B0.out.size))
  clear hb Z0 B0
  go_wp2_with fail
  refine (sStoreLast_any A2 c2 zs now key _ Z2.out (by omega) HS.out).mono ?_
  rw [HLA.out]
  rintro e w3 ⟨rfl, hb⟩
  replace s0 := cellBelow hb ls s0
  replace s1 := cellBelow hb ls s1
  replace ls := Nat.lt_of_lt_of_le ls hb.size
  have Z3 := Lib.hid (Z2.out.below hb)
  have B3 := Lib.hid (B2.out.trans (hb.mono B2.out.size))
  clear hb Z2 B2
  cases sb
  · obtain rfl : la = -1 := by rw [← HLA.out, storeLastL, if_neg (by rw [HSB.out]; simp)]
    go_wp2_with fail
    refine (sStoreLast_any A2 c2 zs now key _ Z3.out (by omega) HS.out).mono ?_
    rw [HLA.out]
    rintro e w4 ⟨rfl, hb⟩
    have B4 := Lib.hid (B3.out.trans (hb.mono B3.out.size))
    clear hb
    go_wp2
    go_ret
    exact ⟨rfl, B4.out⟩
  have HLT := Lib.hid (show lastTo zs key zs.length = la from by rw [← HLA.out, storeLastL, if_pos HSB.out])
  have hla0 : 0 ≤ la := by rw [← HLT.out]; exact (last_bd key HSB.out zs.length).1
  have hlan : la ≤ now := by
    rw [← HLT.out]
    exact step_le key now _ 0 (storeB_iff.1 HSB.out).1.1 (fun x hx => chg_le HSB.out (List.mem_of_mem_take hx))
  have hn30 := (storeB_iff.1 HSB.out).1
  have hd : decide (la < 0) = false := decide_eq_false (by omega)
  obtain ⟨al, hal⟩ : ∃ al, storeAtL zs now now = al := ⟨_, rfl⟩
  have HAL := Lib.hid hal
  have hall : al.length ≤ 120 := by have := storeAtL_len zs now now; rw [hal] at this; omega
  clear hal
  go_wp2_with fail
  refine (StoreAt_any A2 c2 zs now now _ Z3.out (by omega) HS.out).mono ?_
  rw [HAL.out]
  rintro e w4 ⟨A4, c4, rfl, ho, hb⟩
  have N4 := Lib.hid (rowsA_own ho rfl)
  clear ho
  replace s0 := cellBelow hb ls s0
  replace s1 := cellBelow hb ls s1
  replace ls := Nat.lt_of_lt_of_le ls hb.size
  have Z4 := Lib.hid (Z3.out.below hb)
  have B4 := Lib.hid (B3.out.trans (hb.mono B3.out.size))
  clear hb Z3 B3
  go_wp2
  have S0 := Lib.hid s0
  have S1 := Lib.hid s1
  clear s0 s1
  go_loopw [7] (fun i wr => ∃ st : Int, la ≤ st ∧ st ≤ now + 1 ∧ i = .int .i64 st ∧ Below w4.heap.size w4 wr) (fun i _ => (now + 1 - intOf i).toNat)
  case atStart => exact ⟨la, Int.le_refl _, by omega, rfl, Below.refl _ _⟩
  case round =>
    obtain ⟨st, hst0, hst1, rfl, hbr⟩ := hrel
    have t0 := cellBelow hbr ls S0.out
    have t1 := cellBelow hbr ls S1.out
    have hsz := hbr.size
    have BW := Lib.hid (B4.out.trans (hbr.mono B4.out.size))
    have ZW := Lib.hid (Z4.out.below hbr)
    have NW := Lib.hid (N4.out.below hbr)
    by_cases hlt : st ≤ now
    · have HE := Lib.hid (show (storeAtL zs now st).filter (keyB key) = al.filter (keyB key) from by
        rw [← HAL.out, storeAtL, storeAtL, if_pos HSB.out, if_pos HSB.out, show min st now = st from by omega, show min now now = now from by omega]
        exact liveS_key HSB.out (by rw [HLT.out]; exact hst0) hlt)
      have hbl := storeAtL_len zs now st
      obtain ⟨bl, hbl'⟩ : ∃ bl, storeAtL zs now st = bl := ⟨_, rfl⟩
      have HBL := Lib.hid hbl'
      rw [hbl'] at HE hbl
      clear hbl'
      go_wp2_with fail
      refine (StoreAt_any A2 c2 zs now st _ ZW.out (by omega) HS.out).mono ?_
      rw [HBL.out]
      rintro e w5 ⟨A5, c5, rfl, ho, hb⟩
      have R5 := Lib.hid (rowsA_own ho rfl)
      have N5 := Lib.hid (NW.out.below hb)
      have B5 := Lib.hid (hbr.trans (hb.mono hsz))
      clear ho hb
      go_wp2_with fail
      refine (vaOf_any A5 c5 bl key _ R5.out (by omega)).mono ?_
      rw [HE.out]
      have hfl := List.length_filter_le (keyB key) al
      obtain ⟨fl, hfl'⟩ : ∃ fl, al.filter (keyB key) = fl := ⟨_, rfl⟩
      have HFL := Lib.hid hfl'
      rw [hfl'] at hfl
      rw [hfl']
      clear hfl'
      rintro e w6 ⟨A6, c6, rfl, ho, hb⟩
      have F6 := Lib.hid (rowsA_own ho rfl)
      have N6 := Lib.hid (N5.out.below hb)
      have B6 := Lib.hid (B5.out.trans (hb.mono B5.out.size))
      clear ho hb N5 B5 R5
      go_wp2_with fail
      refine (vaOf_any A4 c4 al key _ N6.out (by omega)).mono ?_
      rw [HFL.out]
      rintro e w7 ⟨A7, c7, rfl, ho, hb⟩
      have F7 := Lib.hid (rowsA_own ho rfl)
      have E7 := Lib.hid (F6.out.below hb)
      have B7 := Lib.hid (B6.out.trans (hb.mono B6.out.size))
      clear ho hb N6 B6 F6
      go_wp2_with fail
      refine (vaRows_same A6 A7 c6 c7 fl _ E7.out F7.out (by unfold maxLen; omega)).mono ?_
      rintro e w8 ⟨rfl, hb⟩
      have B8 := Lib.hid (B7.out.trans (hb.mono B7.out.size))
      clear hb B7 E7 F7
      go_wp2
      go_roundw
      case rel => exact ⟨st + 1, by omega, by omega, by go_num, B8.out⟩
      case measure => simp [intOf]; omega
    · have hdn : decide (st ≤ now) = false := decide_eq_false hlt
      go_wp2
      go_ret
      exact ⟨rfl, BW.out⟩
end Go.Proofs.Ytacddgipcafdlaa
