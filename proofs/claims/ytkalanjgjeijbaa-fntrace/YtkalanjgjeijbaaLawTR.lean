/-
  The walk of the law of what was known of a point (P57).
-/
import Derived.Test.YtkalanjgjeijbaaDrawSh
import Derived.Test.YtkalanjgjeijbaaTrcF
import Derived.Test.YtkalanjgjeijbaaTrcP
import Derived.Test.YtkalanjgjeijbaaStoAt
import Derived.Test.YtkalanjgjeijbaaRelGet
namespace Go.Proofs.Ytkalanjgjeijbaa
open Go.Shelf Go.RowKit Go.Lib Go.Sort

theorem told_get {zs : List VerV} {now : Int} {key : ByteArray} {c : Int} {m : Nat} (h : storeB zs now = true) (hm : (m : Int) ≤ now) : relGetL (storeAtL zs now m) key c = lastF (fun n => getT n key c zs) m := by
  have hn := (storeB_iff.1 h).1
  have h1 := (storeB_iff.1 h).2.2
  unfold stampsB at h1
  have h2 := List.all_eq_true.1 h1 m (by rw [List.mem_range]; omega)
  rw [storeAtL, if_pos h, show min (m : Int) now = m from by omega, relGetL_ok h2]
  cases m with
  | zero =>
    have e : liveL zs ((0 : Nat) : Int) = [] := live_none h (by omega)
    unfold liveS
    rw [e]; rfl
  | succ k => exact getT_store h hm

theorem at_shortT {zs : List VerV} {now st : Int} (hs : ShortV zs) : ∀ r ∈ storeAtL zs now st, r.k.size ≤ maxLen ∧ r.t.size ≤ maxLen := fun r hr => by
  unfold storeAtL at hr
  split at hr
  · have h1 := (liveS_facts zs (min st now)).2.subset hr
    unfold liveL at h1
    obtain ⟨x, hx, rfl⟩ := List.mem_map.1 h1
    exact hs x (List.mem_filter.1 hx).1
  · cases hr

set_option maxRecDepth 100000 in
set_option maxHeartbeats 8000000 in
theorem FnTrace_any (A : Option Addr) (n cap : Nat) (bs : List Int) (w : World) (hz : Bytes w w.heap.size A bs ∧ bs.length = n ∧ n ≤ cap ∧ cap ≤ maxLen) :
    Calls Try.prog 4 #[.slice A n cap] w fun e w' => e = .returned (.bool true) ∧ Below w.heap.size w w' := by
  obtain ⟨hz, rfl, hc, hm⟩ := hz
  have hm' := hm
  unfold maxLen at hm'
  by_cases hl : (1048576 : Int) < bs.length
  · go_enter Try.func4, Try.ntmps4
    go_wp2
    go_ret
    exact ⟨rfl, Below.refl _ _⟩
  go_enter Try.func4, Try.ntmps4
  go_wp2_with fail
  refine (DrawTraceOf_any A cap bs w hz hc hm).mono ?_
  rintro e w1 ⟨zs, now, A2, c2, key, v, rfl, hkey, hzl, hsh, hnow, ho, hb1⟩
  have HS := Lib.hid hsh
  have Z1 := Lib.hid (show VersA w1 A2 zs from el_of_owns verC_len ho)
  have B1 := Lib.hid hb1
  clear hz hm hm' hc hsh ho hb1
  have htl := trace_len (zs := zs) (now := now) key v
  obtain ⟨sb, hsb⟩ : ∃ sb, storeB zs now = sb := ⟨_, rfl⟩
  have HSB := Lib.hid hsb
  obtain ⟨l, hl'⟩ : ∃ l, traceL zs now key v = l := ⟨_, rfl⟩
  have HLL := Lib.hid hl'
  rw [hl'] at htl

  clear hsb hl'
  go_wp2_with fail
  generalize hW : w1.alloc _ = W2
  have s0 : W2.cell? ⟨w1.heap.size, 0, none⟩ = some (.int .i64 now) := by rw [← hW]; simp [go_sem]
  have s1 : W2.cell? ⟨w1.heap.size, 1, none⟩ = some (.slice A2 zs.length c2) := by rw [← hW]; simp [go_sem]
  have ls : w1.heap.size < W2.heap.size := by rw [← hW]; simp
  have hb : Below w1.heap.size w1 W2 := by rw [← hW]; exact (Below.refl _ _).alloc (Nat.le_refl _) _
  have Z2 := Lib.hid (Z1.out.below hb)
  have B2 := Lib.hid (B1.out.trans (hb.mono B1.out.size))
  generalize w1.heap.size = G at *
  clear hW hb Z1 B1
  refine (TraceOf_any A2 c2 zs now key v W2 Z2.out (by omega) HS.out).mono ?_
  rw [HLL.out]
  rintro e w3 ⟨A3, c3, rfl, ho, hb⟩
  replace s0 := cellBelow hb ls s0
  replace s1 := cellBelow hb ls s1
  replace ls := Nat.lt_of_lt_of_le ls hb.size
  have Z3 := Lib.hid (Z2.out.below hb)
  have B3 := Lib.hid (B2.out.trans (hb.mono B2.out.size))
  have T3 := Lib.hid (show TrasA w3 A3 l from el_of_owns traC_len ho)
  clear ho hb Z2 B2
  go_wp2_with fail
  refine (sTraceOf_any A2 c2 zs now key v w3 Z3.out (by omega) HS.out).mono ?_
  rw [HLL.out]
  rintro e w4 ⟨A4, c4, rfl, ho, hb⟩
  replace s0 := cellBelow hb ls s0
  replace s1 := cellBelow hb ls s1
  replace ls := Nat.lt_of_lt_of_le ls hb.size
  have Z4 := Lib.hid (Z3.out.below hb)
  have B4 := Lib.hid (B3.out.trans (hb.mono B3.out.size))
  have T4 := Lib.hid (T3.out.below hb)
  have U4 := Lib.hid (show TrasA w4 A4 l from el_of_owns traC_len ho)
  clear ho hb Z3 B3 T3
  go_wp2_with fail
  refine (StoreOk_any A2 c2 zs now w4 Z4.out (by omega) HS.out).mono ?_
  rw [HSB.out]
  rintro e w5 ⟨rfl, hb⟩
  replace s0 := cellBelow hb ls s0
  replace s1 := cellBelow hb ls s1
  replace ls := Nat.lt_of_lt_of_le ls hb.size
  have Z5 := Lib.hid (Z4.out.below hb)
  have B5 := Lib.hid (B4.out.trans (hb.mono B4.out.size))
  have T5 := Lib.hid (T4.out.below hb)
  have U5 := Lib.hid (U4.out.below hb)
  clear hb Z4 B4 T4 U4
  cases sb
  · go_wp2
    go_ret
    exact ⟨rfl, B5.out⟩
  have hn30 := (storeB_iff.1 HSB.out).1
  have hle : l = trUp (fun n => getT n key v zs) now.toNat := by rw [← HLL.out, traceL, if_pos HSB.out]
  have HTOLD := Lib.hid (show ∀ m : Nat, (m : Int) ≤ now → relGetL (storeAtL zs now m) key v = traAt l m from fun m h => by
    rw [told_get HSB.out h, hle, trUp_told _ _ _ (by omega)])
  have HDIF := Lib.hid (show ∀ (k : Nat) (x y : TraV), l[k]? = some x → l[k + 1]? = some y → x.k < y.k ∧ x.t ≠ y.t from fun k x y hx hy => by
    rw [hle] at hx hy
    exact ⟨trUp_rises hx hy, trUp_differ _ _ k x y hx hy⟩)
  have S0 := Lib.hid s0
  have S1 := Lib.hid s1
  clear hle
  go_wp2
  clear s0 s1
  go_loopw [8] (fun i wr => ∃ k : Nat, k ≤ l.length ∧ i = .int .i64 k ∧ Below w5.heap.size w5 wr) (fun i _ => l.length - (intOf i).toNat)
  case atStart => exact ⟨0, Nat.zero_le _, rfl, Below.refl _ _⟩
  case round =>
    obtain ⟨k, hk, rfl, hbr⟩ := hrel
    by_cases hlt : k < l.length
    · obtain ⟨b, off, x, rfl, hb, hx, c0, c1⟩ := (T5.out.below hbr).at_ hlt
      obtain ⟨b', off', x', rfl, hb', hx', d0, d1⟩ := (U5.out.below hbr).at_ hlt
      obtain rfl : x = x' := by rw [hx] at hx'; injection hx'
      have hkz : (k : Int) < (l.length : Int) := by omega
      have hkz0 : (0 : Int) ≤ (k : Int) := by omega
      by_cases hk0 : k = 0
      · have BR := Lib.hid hbr
        have hd0 : decide ((0 : Int) < (k : Int)) = false := decide_eq_false (by omega)
        have hd1 : decide (0 < k) = false := decide_eq_false (by omega)
        clear hbr hx hx' hk0
        go_upto_region 11 with fail
        refine wp_region_later (by kernel_rfl) (by kernel_rfl) ?_
        intro f hf1 hf2 hfc
        repeat (go_big_quiet_step (fail))
        refine wpQuiet_nil ?_
        rintro _ ⟨vv, rfl⟩
        have B6 := Lib.hid (BR.out.trans ((hf1.out vv).mono BR.out.size))
        clear hfc hf1 hf2 c0 c1 d0 d1
        go_wp2
        go_roundw
        case rel => exact ⟨k + 1, by omega, by go_num, B6.out⟩
        case measure => simp [intOf]; omega
      · obtain ⟨q, hq⟩ : ∃ q, k = q + 1 := ⟨k - 1, by omega⟩
        obtain ⟨b2, off2, y, e2, hb2, hy, p0, p1⟩ := (T5.out.below hbr).at_ (i := q) (by omega)
        injection e2 with e2
        injection e2 with e2 e3
        subst e2 e3
        have hdf := HDIF.out q y x hy (by rw [← hq]; exact hx)
        have hd1 : decide ((0 : Int) < (k : Int)) = true := decide_eq_true (by omega)
        have hd1n : decide (0 < k) = true := decide_eq_true (by omega)
        have hd2 : decide (x.k ≤ y.k) = false := decide_eq_false (by omega)
        have hd3 : (x.t.toList == y.t.toList) = false := by
          rw [← Bool.not_eq_true]; exact fun e => hdf.2 (same_key.1 e).symm
        have hw : IntKind.i64.wrap ((k : Int) - 1) = (q : Int) := by rw [IntKind.wrap_i64]; omega
        have hqz : (q : Int) < (l.length : Int) := by omega
        have hqz0 : (0 : Int) ≤ (q : Int) := by omega
        have BR := Lib.hid hbr
        have HQ := Lib.hid hq
        clear hbr hx hx' hy hdf hq hk0
        go_upto_region 11 with fail
        refine wp_region_later (by kernel_rfl) (by kernel_rfl) ?_
        intro f hf1 hf2 hfc
        repeat (go_big_quiet_step (fail))
        refine wpQuiet_nil ?_
        rintro _ ⟨vv, rfl⟩
        have B6 := Lib.hid (BR.out.trans ((hf1.out vv).mono BR.out.size))
        clear hfc hf1 hf2 c0 c1 d0 d1 p0 p1
        go_wp2
        go_roundw
        case rel => exact ⟨k + 1, by omega, by go_num, B6.out⟩
        case measure => simp [intOf]; omega
    · obtain rfl : k = l.length := by omega
      have Z6 := Lib.hid (Z5.out.below hbr)
      have B6 := Lib.hid (B5.out.trans (hbr.mono B5.out.size))
      have T6 := Lib.hid (T5.out.below hbr)
      have R0 := Lib.hid (cellBelow hbr ls S0.out)
      have R1 := Lib.hid (cellBelow hbr ls S1.out)
      replace ls := Nat.lt_of_lt_of_le ls hbr.size
      clear hbr
      go_wp2
      generalize hwo : wr = wo at *
      clear hwo
      go_loopw [9] (fun i wi => ∃ m : Nat, (m : Int) ≤ now + 1 ∧ i = .int .i64 m ∧ Below wo.heap.size wo wi) (fun i _ => (now + 1 - intOf i).toNat)
      case atStart => exact ⟨0, by omega, rfl, Below.refl _ _⟩
      case round =>
        obtain ⟨m, hm0, rfl, hbr⟩ := hrel
        have t0 := cellBelow hbr ls R0.out
        have t1 := cellBelow hbr ls R1.out
        have hsz := hbr.size
        have hG : G < wr.heap.size := by omega
        have BW := Lib.hid (B6.out.trans (hbr.mono B6.out.size))
        by_cases hle : (m : Int) ≤ now
        · have ZW := Lib.hid (Z6.out.below hbr)
          have TW := Lib.hid (T6.out.below hbr)
          have hal := storeAtL_len zs now m
          have hget := HTOLD.out m hle
          have hsr : ∀ r ∈ storeAtL zs now m, r.k.size ≤ maxLen ∧ r.t.size ≤ maxLen := at_shortT HS.out
          obtain ⟨al, hall⟩ : ∃ al, storeAtL zs now m = al := ⟨_, rfl⟩
          have HAL := Lib.hid hall
          rw [hall] at hal hget hsr
          obtain ⟨sm, hsm⟩ : ∃ sm, traAt l m = sm := ⟨_, rfl⟩
          have HSM := Lib.hid hsm
          rw [hsm] at hget
          have HGET := Lib.hid hget
          have HSR := Lib.hid hsr
          have hq0 : Below wr.heap.size wr wr := Below.refl _ _
          clear hall hsm hget hsr
          go_upto_region 16 with fail
          go_region_held3 (fun w' => w'.cell? ⟨G, 0, none⟩ = some (.int .i64 now) ∧ w'.cell? ⟨G, 1, none⟩ = some (.slice A2 zs.length c2) ∧ wr.heap.size ≤ w'.heap.size ∧ Below wr.heap.size wr w')
            (((try go_split_ands); refine ⟨?cc90, ?cc91, ?sz9, ?bl9⟩; (case cc90 => (repeat (first | with_reducible assumption | with_reducible refine cell_below hb (by first | omega | (simp; done) | (simp; omega)) ?_ | with_reducible refine cell_set_far (by first | omega | (simp; done) | (simp; omega)) ?_ | with_reducible exact cell_alloc_swap (by with_reducible assumption) (by first | omega | (simp; done) | (simp; omega)) | with_reducible refine cell_alloc_far ?_ | with_reducible refine cell_drew ?_))); (case cc91 => (repeat (first | with_reducible assumption | with_reducible refine cell_below hb (by first | omega | (simp; done) | (simp; omega)) ?_ | with_reducible refine cell_set_far (by first | omega | (simp; done) | (simp; omega)) ?_ | with_reducible exact cell_alloc_swap (by with_reducible assumption) (by first | omega | (simp; done) | (simp; omega)) | with_reducible refine cell_alloc_far ?_ | with_reducible refine cell_drew ?_))); (case sz9 => (first | with_reducible assumption | (have := hb.size; omega) | omega | (simp; done) | (simp; omega) | (have := hb.size; simp at this ⊢; omega))); (case bl9 => (repeat (first | with_reducible assumption | with_reducible exact hq0 | with_reducible refine Below.drew ?_ | with_reducible refine Below.trans ?_ (hb.mono (by first | omega | (simp; done) | (simp; omega))) | with_reducible refine Below.setCell ?_ (by first | omega | (simp; done) | (simp; omega)) _ | with_reducible exact below_alloc_swap (by with_reducible assumption) (by first | omega | (simp; done) | (simp; omega)) | with_reducible refine Below.alloc ?_ (by first | omega | (simp; done) | (simp; omega)) _)))))
            (first
              | (go_at_call 15; (try go_split_ands); (with_reducible refine (TraceAt_any A3 c3 l m _ (TW.out.below (by (repeat (first | with_reducible assumption | with_reducible exact hq0 | with_reducible refine Below.drew ?_ | with_reducible refine Below.trans ?_ (hb.mono (by first | omega | (simp; done) | (simp; omega))) | with_reducible refine Below.setCell ?_ (by first | omega | (simp; done) | (simp; omega)) _ | with_reducible exact below_alloc_swap (by with_reducible assumption) (by first | omega | (simp; done) | (simp; omega)) | with_reducible refine Below.alloc ?_ (by first | omega | (simp; done) | (simp; omega)) _)))) (by omega)).mono ?_); rw [HSM.out]; rintro e wK ⟨rfl, hb⟩; have hszK : wr.heap.size ≤ wK.heap.size := (by have := hb.size; first | omega | (simp at this; omega)); obtain ⟨hcK, hfK, hlK⟩ := bcell3 hb)
              | (go_at_call 11; (try go_split_ands); (with_reducible refine (StoreAt_any A2 c2 zs now m _ (ZW.out.below (by (repeat (first | with_reducible assumption | with_reducible exact hq0 | with_reducible refine Below.drew ?_ | with_reducible refine Below.trans ?_ (hb.mono (by first | omega | (simp; done) | (simp; omega))) | with_reducible refine Below.setCell ?_ (by first | omega | (simp; done) | (simp; omega)) _ | with_reducible exact below_alloc_swap (by with_reducible assumption) (by first | omega | (simp; done) | (simp; omega)) | with_reducible refine Below.alloc ?_ (by first | omega | (simp; done) | (simp; omega)) _)))) (by omega) HS.out).mono ?_); rw [HAL.out]; rintro e wD ⟨AD, cD, rfl, ho, hb⟩; have RD := Lib.hid (rowsA_own ho rfl); clear ho; have hszD : wr.heap.size ≤ wD.heap.size := (by have := hb.size; first | omega | (simp at this; omega)); obtain ⟨hcD, hfD, hlD⟩ := bcell3 hb)
              | (go_at_call 16; (try go_split_ands); (with_reducible refine (RelGet_any AD cD al key v _ RD.out (by omega) HSR.out).mono ?_); rw [HGET.out]; rintro e wE ⟨rfl, hb⟩; have hszE : wr.heap.size ≤ wE.heap.size := (by have := hb.size; first | omega | (simp at this; omega)); obtain ⟨hcE, hfE, hlE⟩ := bcell3 hb))
          all_goals (rename_i hH; have BV := Lib.hid (hbr.trans (hH.2.2.2.mono hbr.size)); clear hH)
          all_goals go_wp2
          all_goals go_roundw
          case rel => exact ⟨m + 1, by omega, by go_num, BV.out⟩
          case measure => simp [intOf]; omega
        · go_wp2
          go_ret
          exact ⟨rfl, BW.out⟩
end Go.Proofs.Ytkalanjgjeijbaa
