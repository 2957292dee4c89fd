/-
  Walks: traces by value: sizes, copies, equality; slices of them.
-/
import Derived.Test.YtmfpojminbkojaaElI
import Derived.Test.YtmfpojminbkojaaRowS
namespace Go.Proofs.Ytmfpojminbkojaa
open Go.RowKit

set_option maxHeartbeats 1000000 in
theorem eqTrace_same (r : TraV) (w : World) :
    Calls Try.prog 59 #[.agg #[.int .i64 r.k, .string r.t], .agg #[.int .i64 r.k, .string r.t]] w fun e w' => e = .returned (.bool true) ∧ Below w.heap.size w w' := by
  go_enter Try.func59, Try.ntmps59
  go_wp2
  go_ret
  exact ⟨rfl, (((Below.refl _ _).alloc (Nat.le_refl _) _).alloc (by simp) _)⟩

set_option maxHeartbeats 1000000 in
theorem szTrace_any (r : TraV) (left : Int) (w : World) (h0 : 0 ≤ left) (h1 : left ≤ 1048576) (ht : r.t.size ≤ maxLen) :
    Calls Try.prog 56 #[.agg #[.int .i64 r.k, .string r.t], .int .i64 left] w fun e w' => e = .returned (.int .i64 (if left - r.t.size < 0 then -1 else left - r.t.size)) ∧ Below w.heap.size w w' := by
  unfold maxLen at ht
  by_cases h : left - r.t.size < 0
  · rw [if_pos h]
    go_enter Try.func56, Try.ntmps56
    go_wp2
    go_ret
    exact ⟨rfl, (Below.refl _ _).alloc (Nat.le_refl _) _⟩
  · rw [if_neg h]
    go_enter Try.func56, Try.ntmps56
    go_wp2
    go_ret
    exact ⟨rfl, (Below.refl _ _).alloc (Nat.le_refl _) _⟩

set_option maxHeartbeats 1000000 in
theorem toTrace_any (r : TraV) (w : World) :
    Calls Try.prog 57 #[.agg #[.int .i64 r.k, .string r.t]] w fun e w' => e = .returned (.agg #[.int .i64 r.k, .string r.t]) ∧ Below w.heap.size w w' := by
  go_enter Try.func57, Try.ntmps57
  go_wp2
  refine bodyPost_ret (v := .agg #[.int .i64 r.k, .string r.t]) (by simp [results, Try.results57, go_sem]) rfl ⟨rfl, ?_⟩
  repeat (first | exact Below.refl _ _ | refine Below.setCell ?_ (by simp; try omega) _ | refine Below.alloc ?_ (by simp; try omega) _)

set_option maxRecDepth 100000 in
set_option maxHeartbeats 1000000 in
theorem szTraceS_any (A : Option Addr) (cap : Nat) (zs : List TraV) (left : Int) (w : World) (h0 : 0 ≤ left) (h1 : left ≤ 1048576) (hz : TrasA w A zs) (hn : zs.length ≤ maxLen) (hs : ∀ r ∈ zs, r.t.size ≤ maxLen) :
    Calls Try.prog 26 #[.slice A zs.length cap, .int .i64 left] w (SzPost left zs.length w) := by
  unfold maxLen at hn
  have HZ := Lib.hid hz
  have HS := Lib.hid hs
  clear hz hs
  by_cases h : left - zs.length < 0
  · go_enter Try.func26, Try.ntmps26
    go_wp2
    go_ret
    exact ⟨-1, rfl, .inl rfl, Below.refl _ _⟩
  · go_enter Try.func26, Try.ntmps26
    go_wp2
    go_loopw [1, 5] (fun lv i wr => ∃ (k : Nat) (v : Int), k ≤ zs.length ∧ i = .int .i64 k ∧ lv = .int .i64 v ∧ 0 ≤ v ∧ v ≤ left ∧ Below w.heap.size w wr) (fun _ i _ => zs.length - (intOf i).toNat)
    case atStart => exact ⟨0, _, Nat.zero_le _, rfl, rfl, by omega, by omega, Below.refl _ _⟩
    case round =>
      obtain ⟨k, v, hk, rfl, rfl, hv0, hv1, hbr⟩ := hrel
      by_cases hlt : k < zs.length
      · obtain ⟨b, off, x, rfl, hb, hx, c0, c1⟩ := (HZ.out.below hbr).at_ hlt
        have hm := HS.out x (List.mem_of_getElem? hx)
        clear hx
        go_wp2_with fail
        refine (szTrace_any x _ _ (by omega) (by omega) hm).mono ?_
        rintro e w2 ⟨rfl, hb2⟩
        have B2 := Lib.hid (hbr.trans (hb2.mono hbr.size))
        clear hb2 hbr c0 c1
        generalize hleft : (if v - (x.t.size : Int) < 0 then (-1 : Int) else v - x.t.size) = u
        have hu : u = -1 ∨ (0 ≤ u ∧ u ≤ v) := by
          subst hleft
          split
          · exact .inl rfl
          · exact .inr ⟨by omega, by omega⟩
        clear hleft
        rcases hu with rfl | ⟨hu0, hu1⟩
        · go_wp2
          go_ret
          exact ⟨-1, rfl, .inl rfl, B2.out⟩
        · go_wp2
          go_roundw
          case rel => exact ⟨k + 1, u, by omega, by go_num, rfl, hu0, by omega, B2.out⟩
          case measure => simp [intOf]; omega
      · go_wp2
        go_ret
        exact ⟨v, rfl, .inr ⟨hv0, hv1, by omega⟩, hbr⟩

theorem Try.infoR84 : (Try.prog.info? 84).map (fun i => (i.zero, i.size, i.bytes)) = some (some (.agg #[.int .i64 0, .string ⟨#[]⟩]), 2, 24) := by kernel_rfl

set_option maxRecDepth 100000 in
set_option maxHeartbeats 2000000 in
theorem toTraceS_any (A : Option Addr) (cap : Nat) (zs : List TraV) (w : World) (hz : TrasA w A zs) (hl : zs.length ≤ 1048577) :
    Calls Try.prog 28 #[.slice A zs.length cap] w (GetsE traC 2 84 w zs) := by
  obtain ⟨i0, hi, hz0, hz1, hz2⟩ := info_parts Try.infoR84
  have hi16 : i0.bytes * zs.length ≤ 281474976710656 := by rw [hz2]; omega
  have hml : zs.length ≤ maxLen := by unfold maxLen; omega
  have HZ := Lib.hid hz
  clear hz
  go_enter Try.func28, Try.ntmps28
  go_wp2_with (at_make; refine wpList_make_full _ rfl _ _ 44 rfl w.heap.size 84 i0 _ 2 Try.underlying44 hi hz0 hz1 .i64 .i64 _ _ zs.length rfl rfl rfl rfl hi16 hml (Nat.le_refl _) ?_; intro w1 hown hgrow)
  have hown0 : w1.ownsRow w.heap.size 84 2 (.slice (some ⟨w.heap.size, 0, none⟩) zs.length zs.length) zs.length (flatOf traC (doneE tra0 zs 0)) := by rw [doneE_zero, ← made_flatOf traC_len (by omega) tra0 _ rfl]; exact hown
  have HO := Lib.hid hown0
  have HB := Lib.hid ((Below.refl w.heap.size w).grown hgrow (Nat.le_refl _) (fun k hk => by cases hk))
  clear hown hown0 hgrow hi hz0 hz1 hz2 hi16
  go_loopw [4] (fun i wr => ∃ k : Nat, k ≤ zs.length ∧ i = .int .i64 k ∧ wr.ownsRow w.heap.size 84 2 (.slice (some ⟨w.heap.size, 0, none⟩) zs.length zs.length) zs.length (flatOf traC (doneE tra0 zs k)) ∧ Below w.heap.size w wr) (fun i _ => zs.length - (intOf i).toNat)
  case atStart => exact ⟨0, Nat.zero_le _, rfl, HO.out, HB.out⟩
  case round =>
    obtain ⟨k, hk, rfl, hown, hbr⟩ := hrel
    have Hown := Lib.hid hown
    have hgl : w.heap.size < wr.heap.size := (hown.lt w.heap.size rfl).2
    clear hown HO HB
    by_cases hlt : k < zs.length
    · obtain ⟨b, off, x, rfl, hb, hx, c0, c1⟩ := (HZ.out.below hbr).at_ hlt
      have Hset := Lib.hid (doneE_set tra0 zs k x hx)
      have Hget := Lib.hid (doneE_get tra0 zs k hlt)
      clear hx
      go_wp2_with fail
      refine (toTrace_any x _).mono ?_
      rintro e w2 ⟨rfl, hb2⟩
      have hown2 := ownsKeep Hown.out hb2
      have hd : (doneE tra0 zs k).length = zs.length := doneE_length tra0 zs k hk
      have e0 : w2.cell? ⟨w.heap.size, k * 2, none⟩ = some (.int .i64 0) := by
        rw [hown2.cellAt (k * 2) (by omega)]; exact flatOf_get traC_len _ k tra0 0 Hget.out (by omega)
      have e1 : w2.cell? ⟨w.heap.size, k * 2 + 1, none⟩ = some (.string ⟨#[]⟩) := by
        rw [hown2.cellAt (k * 2 + 1) (by omega)]; exact flatOf_get traC_len _ k tra0 1 Hget.out (by omega)
      have f0 := hown2.frozenAt (k * 2)
      have f1 := hown2.frozenAt (k * 2 + 1)
      have s0 := hown2.stored (k * 2) (.int .i64 x.k)
      have s1 := s0.1.stored (k * 2 + 1) (.string x.t)
      have hset : ((flatOf traC (doneE tra0 zs k)).set (k * 2) (.int .i64 x.k)).set (k * 2 + 1) (.string x.t) = flatOf traC (doneE tra0 zs (k + 1)) := by
        have := flatOf_set traC_len x (doneE tra0 zs k) k (by omega)
        rw [Hset.out] at this
        exact this
      have t3 := s1.1
      rw [hset] at t3
      have HS := Lib.hid t3
      have HB := Lib.hid (((hbr.trans (hb2.mono (by omega))).setCell (p := ⟨w.heap.size, k * 2, none⟩) (Nat.le_refl _) (.int .i64 x.k)).setCell (p := ⟨w.heap.size, k * 2 + 1, none⟩) (Nat.le_refl _) (.string x.t))
      clear s0 s1 t3 hset hown2 hd hb2
      go_wp2
      go_roundw
      case rel => exact ⟨k + 1, by omega, by go_num, HS.out, HB.out⟩
      case measure => simp [intOf]; omega
    · go_wp2
      go_ret
      obtain rfl : k = zs.length := by omega
      have := Hown.out
      rw [doneE_all] at this
      exact ⟨_, zs.length, rfl, this, hbr⟩
end Go.Proofs.Ytmfpojminbkojaa
