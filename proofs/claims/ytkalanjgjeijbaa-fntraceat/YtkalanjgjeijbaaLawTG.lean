/-
  The walk of the law of what was known at a stamp (P58).
-/
import Derived.Test.YtkalanjgjeijbaaDrawSi
namespace Go.Proofs.Ytkalanjgjeijbaa
open Go.Shelf Go.RowKit Go.Lib Go.Sort

set_option maxRecDepth 100000 in
set_option maxHeartbeats 8000000 in
theorem FnTraceAt_any (A : Option Addr) (n cap : Nat) (bs : List Int) (w : World) (hz : Bytes w w.heap.size A bs ∧ bs.length = n ∧ n ≤ cap ∧ cap ≤ maxLen) :
    Calls Try.prog 5 #[.slice A n cap] w fun e w' => e = .returned (.bool true) ∧ Below w.heap.size w w' := by
  obtain ⟨hz, rfl, hc, hm⟩ := hz
  have hm' := hm
  unfold maxLen at hm'
  by_cases hl : (1048576 : Int) < bs.length
  · go_enter Try.func5, Try.ntmps5
    go_wp2
    go_ret
    exact ⟨rfl, Below.refl _ _⟩
  go_enter Try.func5, Try.ntmps5
  go_wp2_with fail
  refine (DrawTraceAt_any A cap bs w hz hc hm).mono ?_
  rintro e w1 ⟨f, m, A2, c2, st, rfl, hm30, hst, ho, hb1⟩
  have hul := trUp_len f m
  have HOWN := Lib.hid (fun (k : Nat) (x : TraV) (hx : (trUp f m)[k]? = some x) => trUp_at_own hx)
  have HZR := Lib.hid (trUp_zero f m)
  obtain ⟨l, hl'⟩ : ∃ l, trUp f m = l := ⟨_, rfl⟩
  rw [hl'] at hul HOWN HZR ho
  rw [hl']
  have T1 := Lib.hid (show TrasA w1 A2 l from el_of_owns traC_len ho)
  have B1 := Lib.hid hb1
  obtain ⟨s, hs⟩ : ∃ s, traAt l st = s := ⟨_, rfl⟩
  have HS := Lib.hid hs
  clear hz hm hm' hc ho hb1 hl' hs
  go_wp2_with fail
  refine (TraceAt_any A2 c2 l st w1 T1.out (by omega)).mono ?_
  rw [HS.out]
  rintro e w2 ⟨rfl, hb⟩
  have T2 := Lib.hid (T1.out.below hb)
  have B2 := Lib.hid (B1.out.trans (hb.mono B1.out.size))
  clear hb T1 B1
  go_wp2_with fail
  refine (sTraceAt_any A2 c2 l st w2 T2.out (by omega)).mono ?_
  rw [HS.out]
  rintro e w3 ⟨rfl, hb⟩
  have T3 := Lib.hid (T2.out.below hb)
  have B3 := Lib.hid (B2.out.trans (hb.mono B2.out.size))
  clear hb T2 B2
  go_wp2
  go_loopw [6] (fun i wr => ∃ k : Nat, k ≤ l.length ∧ i = .int .i64 k ∧ Below w3.heap.size w3 wr) (fun i _ => l.length - (intOf i).toNat)
  case atStart => exact ⟨0, Nat.zero_le _, rfl, Below.refl _ _⟩
  case round =>
    obtain ⟨k, hk, rfl, hbr⟩ := hrel
    have BR := Lib.hid hbr
    by_cases hlt : k < l.length
    · obtain ⟨b, off, x, rfl, hb, hx, c0, c1⟩ := (T3.out.below hbr).at_ hlt
      have HX := Lib.hid (HOWN.out k x hx)
      have hkz : (k : Int) < (l.length : Int) := by omega
      have hkz0 : (0 : Int) ≤ (k : Int) := by omega
      clear hx hbr
      by_cases he : x.k = st
      · have hd : decide (x.k = st) = true := decide_eq_true he
        have ht : x.t = s := by rw [← HX.out, he]; exact HS.out
        subst ht
        go_wp2
        go_roundw
        case rel => exact ⟨k + 1, by omega, by go_num, BR.out⟩
        case measure => simp [intOf]; omega
      · have hd : decide (x.k = st) = false := decide_eq_false he
        go_wp2
        go_roundw
        case rel => exact ⟨k + 1, by omega, by go_num, BR.out⟩
        case measure => simp [intOf]; omega
    · obtain rfl : k = l.length := by omega
      have T4 := Lib.hid (T3.out.below hbr)
      have B4 := Lib.hid (B3.out.trans (hbr.mono B3.out.size))
      clear hbr
      go_wp2_with fail
      refine (TraceAt_any A2 c2 l 0 wr T4.out (by omega)).mono ?_
      rw [HZR.out]
      rintro e w5 ⟨rfl, hb⟩
      have B5 := Lib.hid (B4.out.trans (hb.mono B4.out.size))
      clear hb
      go_wp2
      go_ret
      exact ⟨rfl, B5.out⟩
end Go.Proofs.Ytkalanjgjeijbaa
