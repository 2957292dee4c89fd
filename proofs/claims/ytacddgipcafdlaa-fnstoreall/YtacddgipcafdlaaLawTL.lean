/-
  The walk of the law of a store that is one table after the other (P30).
-/
import Derived.Test.YtacddgipcafdlaaDrawSe
import Derived.Test.YtacddgipcafdlaaVaR
import Derived.Test.YtacddgipcafdlaaVaS
import Derived.Test.YtacddgipcafdlaaStoAs
namespace Go.Proofs.Ytacddgipcafdlaa
open Go.Shelf Go.RowKit Go.Lib Go.Sort

theorem all_from : ∀ (tts : List (List RowV)) (now : Int) (zs : List VerV) (n' : Int) (ys : List VerV), storeB zs now = true → allFrom now zs tts = (n', ys, true) →
    n' = now + tts.length ∧ storeB ys n' = true ∧ (∀ s, s ≤ now → liveS ys s = liveS zs s) ∧ ∀ (i : Nat) t, tts[i]? = some t → liveS ys (now + i + 1) = t
  | [], now, zs, n', ys, h, e => by
    unfold allFrom at e
    injection e with e1 e2
    injection e2 with e2 _
    subst e1 e2
    exact ⟨by simp, h, fun s _ => rfl, fun i t ht => by simp at ht⟩
  | t :: ts, now, zs, n', ys, h, e => by
    unfold allFrom at e
    by_cases hg : goesB zs now t
    · rw [if_pos hg] at e
      obtain ⟨h1, h2, h3, h4⟩ := all_from ts (now + 1) (setL zs now t) n' ys (set_ok h hg) e
      have hn := (storeB_iff.1 h).1
      refine ⟨by rw [h1, List.length_cons]; omega, h2, fun s hs => (h3 s (by omega)).trans (liveS_old hs hn.2), fun i u hu => ?_⟩
      cases i with
      | zero =>
        simp at hu
        subst hu
        have := h3 (now + 1) (Int.le_refl _)
        rw [show now + (0 : Nat) + 1 = now + 1 from by omega, this]
        exact liveS_new h (by have := hg.2.1; omega) hg.1
      | succ i =>
        have := h4 i u (by simpa using hu)
        rw [show now + ((i + 1 : Nat) : Int) + 1 = now + 1 + i + 1 from by omega]
        exact this
    · rw [if_neg hg] at e
      injection e with _ e
      injection e with _ e
      cases e
theorem all_at {tts : List (List RowV)} {now : Int} {ys : List VerV} (e : allFrom 0 [] tts = (now, ys, true)) : now = tts.length ∧ storeB ys now = true ∧ ∀ (i : Nat) t, tts[i]? = some t → storeAtL ys now ((i : Int) + 1) = t := by
  obtain ⟨h1, h2, _, h4⟩ := all_from tts 0 [] now ys none_ok e
  refine ⟨by omega, h2, fun i t ht => ?_⟩
  have hi := (List.getElem?_eq_some_iff.1 ht).1
  rw [storeAtL, if_pos h2, show min ((i : Int) + 1) now = 0 + i + 1 from by omega]
  exact h4 i t ht

set_option maxRecDepth 100000 in
set_option maxHeartbeats 8000000 in
theorem FnStoreAll_any (A : Option Addr) (n cap : Nat) (bs : List Int) (w : World) (hz : Bytes w w.heap.size A bs ∧ bs.length = n ∧ n ≤ cap ∧ cap ≤ maxLen) :
    Calls Try.prog 11 #[.slice A n cap] w fun e w' => e = .returned (.bool true) ∧ Below w.heap.size w w' := by
  obtain ⟨hz, rfl, hc, hm⟩ := hz
  have hm' := hm
  unfold maxLen at hm'
  by_cases hl : (1048576 : Int) < bs.length
  · go_enter Try.func11, Try.ntmps11
    go_wp2
    go_ret
    exact ⟨rfl, Below.refl _ _⟩
  go_enter Try.func11, Try.ntmps11
  go_wp2_with fail
  refine (DrawStoreAll_any A cap bs w hz hc hm).mono ?_
  rintro e w1 ⟨tts, A1, c1, rfl, htl, hall, hT, hb1⟩
  have T1 := Lib.hid hT
  have HAll := Lib.hid hall
  have B1 := Lib.hid hb1
  have HSH := Lib.hid (show ∀ t ∈ tts, t.length ≤ 1048577 ∧ ∀ r ∈ t, r.k.size ≤ maxLen ∧ r.t.size ≤ maxLen from fun t ht => ⟨by have := (hall t ht).1; omega, (hall t ht).2⟩)
  clear hz hm hm' hc hall hT hb1
  have HAF := Lib.hid (all_ok tts 0 [] none_ok)
  obtain ⟨p, hp⟩ : ∃ p, allFrom 0 [] tts = p := ⟨_, rfl⟩
  obtain ⟨now, ys, ok⟩ := p
  have HP := Lib.hid hp
  rw [hp] at HAF
  clear hp
  have HSB := Lib.hid (show storeB ys now = true from HAF.out)
  have hyl : ys.length ≤ 120 := versB_len (storeB_iff.1 HSB.out).2.1
  have HYS := Lib.hid (store_short HSB.out)
  go_wp2_with fail
  refine (StoreAll_any A1 c1 tts w1 T1.out (by omega) HSH.out).mono ?_
  rw [HP.out]
  rintro e w2 ⟨A3, c3, rfl, ho, hb⟩
  have V2 := Lib.hid (show VersA w2 A3 ys from el_of_owns verC_len (show w2.ownsRow w1.heap.size 74 6 (.slice A3 ys.length c3) ys.length (flatOf verC ys) from ho))
  have T2 := Lib.hid (T1.out.below hb)
  have B2 := Lib.hid (B1.out.trans (hb.mono B1.out.size))
  clear ho hb T1 B1
  go_wp2_with fail
  generalize hW : w2.alloc _ = W0
  have s0 : W0.cell? ⟨w2.heap.size, 0, none⟩ = some (.int .i64 now) := by rw [← hW]; simp [go_sem]
  have s1 : W0.cell? ⟨w2.heap.size, 1, none⟩ = some (.slice A3 ys.length c3) := by rw [← hW]; simp [go_sem]
  have ls : w2.heap.size < W0.heap.size := by rw [← hW]; simp
  have b0 : Below w2.heap.size w2 W0 := by rw [← hW]; exact (Below.refl _ _).alloc (Nat.le_refl _) _
  have T0 := Lib.hid (T2.out.below b0)
  have V0 := Lib.hid (V2.out.below b0)
  have B0 := Lib.hid (B2.out.trans (b0.mono B2.out.size))
  generalize w2.heap.size = G at *
  clear hW b0 T2 V2 B2
  refine (sStoreAll_any A1 c1 tts W0 T0.out (by omega) HSH.out).mono ?_
  rw [HP.out]
  rintro e w3 ⟨A4, c4, rfl, ho, hb⟩
  have X3 := Lib.hid (show VersA w3 A4 ys from el_of_owns verC_len (show w3.ownsRow W0.heap.size 74 6 (.slice A4 ys.length c4) ys.length (flatOf verC ys) from ho))
  have T3 := Lib.hid (T0.out.below hb)
  have V3 := Lib.hid (V0.out.below hb)
  replace s0 := cellBelow hb ls s0
  replace s1 := cellBelow hb ls s1
  replace ls := Nat.lt_of_lt_of_le ls hb.size
  have B3 := Lib.hid (B0.out.trans (hb.mono B0.out.size))
  clear ho hb T0 V0 B0
  cases ok
  · go_wp2_with fail
    generalize hW : w3.alloc _ = W5
    have b5 : Below w3.heap.size w3 W5 := by rw [← hW]; exact (Below.refl _ _).alloc (Nat.le_refl _) _
    have u0 : W5.cell? ⟨w3.heap.size, 0, none⟩ = some (.int .i64 now) := by rw [← hW]; simp [go_sem]
    have u1 : W5.cell? ⟨w3.heap.size, 1, none⟩ = some (.slice A4 ys.length c4) := by rw [← hW]; simp [go_sem]
    have lu : w3.heap.size < W5.heap.size := by rw [← hW]; simp
    replace s0 := cellBelow b5 ls s0
    replace s1 := cellBelow b5 ls s1
    have X5 := Lib.hid (X3.out.below b5)
    have V5 := Lib.hid (V3.out.below b5)
    have B5 := Lib.hid (B3.out.trans (b5.mono B3.out.size))
    have hls : G < W5.heap.size := Nat.lt_of_lt_of_le ls b5.size
    clear hW b5 B3 V3 X3
    generalize w3.heap.size = H at *
    refine (vaStore_same A3 A4 c3 c4 now ys W5 V5.out X5.out (by unfold maxLen; omega)).mono ?_
    rintro e w6 ⟨rfl, hb⟩
    replace s0 := cellBelow hb hls s0
    replace s1 := cellBelow hb hls s1
    replace u0 := cellBelow hb lu u0
    replace u1 := cellBelow hb lu u1
    have X6 := Lib.hid (X5.out.below hb)
    have V6 := Lib.hid (V5.out.below hb)
    have B6 := Lib.hid (B5.out.trans (hb.mono B5.out.size))
    clear hb
    go_wp2_with fail
    refine (vaStore_same A3 A4 c3 c4 now ys _ V6.out X6.out (by unfold maxLen; omega)).mono ?_
    rintro e w7 ⟨rfl, hb⟩
    have B7 := Lib.hid (B6.out.trans (hb.mono B6.out.size))
    clear hb
    go_wp2
    go_ret
    exact ⟨rfl, B7.out⟩
  have HAT := Lib.hid (all_at HP.out)
  go_wp2_with fail
  generalize hW : w3.alloc _ = W5
  have b5 : Below w3.heap.size w3 W5 := by rw [← hW]; exact (Below.refl _ _).alloc (Nat.le_refl _) _
  have u0 : W5.cell? ⟨w3.heap.size, 0, none⟩ = some (.int .i64 now) := by rw [← hW]; simp [go_sem]
  have u1 : W5.cell? ⟨w3.heap.size, 1, none⟩ = some (.slice A4 ys.length c4) := by rw [← hW]; simp [go_sem]
  replace s0 := cellBelow b5 ls s0
  replace s1 := cellBelow b5 ls s1
  have X5 := Lib.hid (X3.out.below b5)
  have V5 := Lib.hid (V3.out.below b5)
  have T5 := Lib.hid (T3.out.below b5)
  have B5 := Lib.hid (B3.out.trans (b5.mono B3.out.size))
  have hls : G < W5.heap.size := Nat.lt_of_lt_of_le ls b5.size
  clear hW b5 B3 V3 X3 T3 ls
  refine (vaStore_same A3 A4 c3 c4 now ys W5 V5.out X5.out (by unfold maxLen; omega)).mono ?_
  rintro e w6 ⟨rfl, hb⟩
  replace s0 := cellBelow hb hls s0
  replace s1 := cellBelow hb hls s1
  have V6 := Lib.hid (V5.out.below hb)
  have T6 := Lib.hid (T5.out.below hb)
  have B6 := Lib.hid (B5.out.trans (hb.mono B5.out.size))
  replace hls := Nat.lt_of_lt_of_le hls hb.size
  clear hb V5 X5 B5 T5 u0 u1
  go_wp2
  have S0 := Lib.hid s0
  have S1 := Lib.hid s1
  clear s0 s1
  go_loopw [8] (fun i wr => ∃ k : Nat, k ≤ tts.length ∧ i = .int .i64 k ∧ Below w6.heap.size w6 wr) (fun i _ => tts.length - (intOf i).toNat)
  case atStart => exact ⟨0, Nat.zero_le _, rfl, Below.refl _ _⟩
  case round =>
    obtain ⟨k, hk, rfl, hbr⟩ := hrel
    have t0 := cellBelow hbr hls S0.out
    have t1 := cellBelow hbr hls S1.out
    have hsz := hbr.size
    have BW := Lib.hid (B6.out.trans (hbr.mono B6.out.size))
    have VW := Lib.hid (V6.out.below hbr)
    have TW := Lib.hid (T6.out.below hbr)
    by_cases hlt : k < tts.length
    · have hx := List.getElem?_eq_getElem hlt
      have hm := HAll.out _ (List.getElem_mem hlt)
      have HE := Lib.hid (HAT.out.2.2 k _ hx)
      obtain ⟨b, off, At, ct, e1, hb, q0, hr⟩ := TW.out k _ hx
      generalize tts[k] = t at *
      subst e1
      have HRt := Lib.hid hr
      have htl25 := hm.1
      have hkz : (k : Int) < (tts.length : Int) := by omega
      have hkz0 : (0 : Int) ≤ (k : Int) := by omega
      have hq0 : Below wr.heap.size wr wr := Below.refl _ _
      have hwr : IntKind.i64.wrap ((k : Int) + 1) = (k : Int) + 1 := by rw [IntKind.wrap_i64]; omega
      have hGwr : G < wr.heap.size := by omega
      clear hx hm hr
      go_upto_region 11 with fail
      go_region_held3 (fun w' => w'.cell? ⟨G, 0, none⟩ = some (.int .i64 now) ∧ w'.cell? ⟨G, 1, none⟩ = some (.slice A3 ys.length c3) ∧ w'.cell? ⟨b, off + k, none⟩ = some (.slice At t.length ct) ∧ wr.heap.size ≤ w'.heap.size ∧ Below wr.heap.size wr w')
        (((try go_split_ands); refine ⟨?cc90, ?cc91, ?cc92, ?sz9, ?bl9⟩; (case cc90 => (repeat (first | with_reducible assumption | with_reducible refine cell_below hb (by first | omega | (simp; done) | (simp; omega)) ?_ | with_reducible refine cell_set_far (by first | omega | (simp; done) | (simp; omega)) ?_ | with_reducible exact cell_alloc_swap (by with_reducible assumption) (by first | omega | (simp; done) | (simp; omega)) | with_reducible refine cell_alloc_far ?_ | with_reducible refine cell_drew ?_))); (case cc91 => (repeat (first | with_reducible assumption | with_reducible refine cell_below hb (by first | omega | (simp; done) | (simp; omega)) ?_ | with_reducible refine cell_set_far (by first | omega | (simp; done) | (simp; omega)) ?_ | with_reducible exact cell_alloc_swap (by with_reducible assumption) (by first | omega | (simp; done) | (simp; omega)) | with_reducible refine cell_alloc_far ?_ | with_reducible refine cell_drew ?_))); (case cc92 => (repeat (first | with_reducible assumption | with_reducible refine cell_below hb (by first | omega | (simp; done) | (simp; omega)) ?_ | with_reducible refine cell_set_far (by first | omega | (simp; done) | (simp; omega)) ?_ | with_reducible exact cell_alloc_swap (by with_reducible assumption) (by first | omega | (simp; done) | (simp; omega)) | with_reducible refine cell_alloc_far ?_ | with_reducible refine cell_drew ?_))); (case sz9 => (first | with_reducible assumption | (have := hb.size; omega) | omega | (simp; done) | (simp; omega) | (have := hb.size; simp at this ⊢; omega))); (case bl9 => (repeat (first | with_reducible assumption | with_reducible exact hq0 | with_reducible refine Below.drew ?_ | with_reducible refine Below.trans ?_ (hb.mono (by first | omega | (simp; done) | (simp; omega))) | with_reducible refine Below.setCell ?_ (by first | omega | (simp; done) | (simp; omega)) _ | with_reducible exact below_alloc_swap (by with_reducible assumption) (by first | omega | (simp; done) | (simp; omega)) | with_reducible refine Below.alloc ?_ (by first | omega | (simp; done) | (simp; omega)) _)))))
        (first
          | (go_at_call 43; (try go_split_ands); (with_reducible refine (StoreAt_any A3 c3 ys now ((k : Int) + 1) _ (VW.out.below (by (repeat (first | with_reducible assumption | with_reducible exact hq0 | with_reducible refine Below.drew ?_ | with_reducible refine Below.trans ?_ (hb.mono (by first | omega | (simp; done) | (simp; omega))) | with_reducible refine Below.setCell ?_ (by first | omega | (simp; done) | (simp; omega)) _ | with_reducible exact below_alloc_swap (by with_reducible assumption) (by first | omega | (simp; done) | (simp; omega)) | with_reducible refine Below.alloc ?_ (by first | omega | (simp; done) | (simp; omega)) _)))) (by omega) HYS.out).mono ?_); rw [HE.out]; rintro e wA ⟨AA, cA, rfl, ho, hb⟩; have RA := Lib.hid (rowsA_own ho rfl); clear ho; have hsz1 : wr.heap.size ≤ wA.heap.size := (by have := hb.size; first | omega | (simp at this; omega)); obtain ⟨hc, hf, hlb⟩ := bcell3 hb)
          | (go_at_call 44; (try go_split_ands); (with_reducible refine (vaRows_same AA At cA ct t _ RA.out (HRt.out.below (by (repeat (first | with_reducible assumption | with_reducible exact hq0 | with_reducible refine Below.drew ?_ | with_reducible refine Below.trans ?_ (hb.mono (by first | omega | (simp; done) | (simp; omega))) | with_reducible refine Below.setCell ?_ (by first | omega | (simp; done) | (simp; omega)) _ | with_reducible exact below_alloc_swap (by with_reducible assumption) (by first | omega | (simp; done) | (simp; omega)) | with_reducible refine Below.alloc ?_ (by first | omega | (simp; done) | (simp; omega)) _)))) (by unfold maxLen; omega)).mono ?_); rintro e wB ⟨rfl, hb⟩; have hsz2 : wr.heap.size ≤ wB.heap.size := (by have := hb.size; first | omega | (simp at this; omega)); obtain ⟨hc, hf, hlb⟩ := bcell3 hb))
      all_goals (rename_i hH; have BV := Lib.hid (hbr.trans (hH.2.2.2.2.mono hbr.size)); clear hH)
      all_goals go_wp2
      all_goals go_roundw
      case rel => exact ⟨k + 1, by omega, by go_num, BV.out⟩
      case measure => simp [intOf]; omega
    · obtain rfl : k = tts.length := by omega
      have HN := Lib.hid HAT.out.1
      go_wp2_with fail
      refine (StoreOk_any A3 c3 ys now _ VW.out (by omega) HYS.out).mono ?_
      rw [HSB.out]
      rintro e w7 ⟨rfl, hb⟩
      replace t0 := cellBelow hb (by omega) t0
      have B7 := Lib.hid (BW.out.trans (hb.mono BW.out.size))
      clear hb
      go_wp2
      go_ret
      exact ⟨by first | rfl | simp [HN.out], B7.out⟩
end Go.Proofs.Ytacddgipcafdlaa
