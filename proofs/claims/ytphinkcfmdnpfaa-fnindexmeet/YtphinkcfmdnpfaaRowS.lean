/-
  Walks: slices of rows: sizes, copies, equality, marks.
-/
import Derived.Test.YtphinkcfmdnpfaaRowT
namespace Go.Proofs.Ytphinkcfmdnpfaa
open Go.RowKit

def SzPost (left : Int) (n : Nat) (w : World) (e : Ending) (w' : World) : Prop :=
  ∃ v : Int, e = .returned (.int .i64 v) ∧ (v = -1 ∨ (0 ≤ v ∧ v ≤ left ∧ (n : Int) ≤ left)) ∧ Below w.heap.size w w'

set_option maxRecDepth 100000 in
set_option maxHeartbeats 1000000 in
theorem szRowS_any (A : Option Addr) (cap : Nat) (zs : List RowV) (left : Int) (w : World) (h0 : 0 ≤ left) (h1 : left ≤ 1048576) (hz : RowsA w A zs) (hn : zs.length ≤ maxLen) (hs : ∀ r ∈ zs, r.k.size ≤ maxLen ∧ r.t.size ≤ maxLen) :
    Calls Try.prog 30 #[.slice A zs.length cap, .int .i64 left] w (SzPost left zs.length w) := by
  unfold maxLen at hn
  have HZ := Lib.hid hz
  have HS := Lib.hid hs
  clear hz hs
  by_cases h : left - zs.length < 0
  · go_enter Try.func30, Try.ntmps30
    go_wp2
    go_ret
    exact ⟨-1, rfl, .inl rfl, Below.refl _ _⟩
  · go_enter Try.func30, Try.ntmps30
    go_wp2
    go_loopw [1, 5] (fun lv i wr => ∃ (k : Nat) (v : Int), k ≤ zs.length ∧ i = .int .i64 k ∧ lv = .int .i64 v ∧ 0 ≤ v ∧ v ≤ left ∧ Below w.heap.size w wr) (fun _ i _ => zs.length - (intOf i).toNat)
    case atStart => exact ⟨0, _, Nat.zero_le _, rfl, rfl, by omega, by omega, Below.refl _ _⟩
    case round =>
      obtain ⟨k, v, hk, rfl, rfl, hv0, hv1, hbr⟩ := hrel
      by_cases hlt : k < zs.length
      · obtain ⟨b, off, x, rfl, hb, hx, c0, c1, c2, c3⟩ := (HZ.out.below hbr).at_ hlt
        have hm := HS.out x (List.mem_of_getElem? hx)
        clear hx
        go_wp2_with fail
        refine (szRow_any x _ _ (by omega) (by omega) hm.1 hm.2).mono ?_
        rintro e w2 ⟨rfl, hb2⟩
        have B2 := Lib.hid (hbr.trans (hb2.mono hbr.size))
        clear hb2 hbr c0 c1 c2 c3
        generalize hleft : (if v - (x.k.size : Int) < 0 then (-1 : Int) else if v - (x.k.size : Int) - x.t.size < 0 then -1 else v - x.k.size - x.t.size) = u
        have hu : u = -1 ∨ (0 ≤ u ∧ u ≤ v) := by
          subst hleft
          split
          · exact .inl rfl
          · split
            · exact .inl rfl
            · exact .inr ⟨by omega, by omega⟩
        clear hleft
        rcases hu with rfl | ⟨hu0, hu1⟩
        · go_wp2
          go_ret
          exact ⟨-1, rfl, .inl rfl, B2.out⟩
        · go_wp2
          go_roundw
          case rel => exact ⟨k + 1, u, by omega, by go_num, rfl, hu0, by omega, B2.out⟩
          case measure => simp [intOf]; omega
      · go_wp2
        go_ret
        exact ⟨v, rfl, .inr ⟨hv0, hv1, by omega⟩, hbr⟩

set_option maxRecDepth 100000 in
set_option maxHeartbeats 1000000 in
theorem eqRowS_same (A B : Option Addr) (cap cap' : Nat) (zs : List RowV) (w : World) (hz : RowsA w A zs) (hz' : RowsA w B zs) (hl : zs.length ≤ maxLen) :
    Calls Try.prog 35 #[.slice A zs.length cap, .slice B zs.length cap'] w fun e w' => e = .returned (.bool true) ∧ Below w.heap.size w w' := by
  unfold maxLen at hl
  have HZ := Lib.hid hz
  have HZ' := Lib.hid hz'
  clear hz hz'
  go_enter Try.func35, Try.ntmps35
  go_wp2
  go_loopw [5] (fun i wr => ∃ k : Nat, k ≤ zs.length ∧ i = .int .i64 k ∧ Below w.heap.size w wr) (fun i _ => zs.length - (intOf i).toNat)
  case atStart => exact ⟨0, Nat.zero_le _, rfl, Below.refl _ _⟩
  case round =>
    obtain ⟨k, hk, rfl, hbr⟩ := hrel
    by_cases hlt : k < zs.length
    · obtain ⟨b, off, x, rfl, hb, hx, c0, c1, c2, c3⟩ := (HZ.out.below hbr).at_ hlt
      obtain ⟨b', off', x', rfl, hb', hx', d0, d1, d2, d3⟩ := (HZ'.out.below hbr).at_ hlt
      obtain rfl : x' = x := by rw [hx] at hx'; injection hx' with h; exact h.symm
      clear hx hx'
      go_wp2_with fail
      refine wp_region_later (by kernel_rfl) (by kernel_rfl) ?_
      intro f hf1 hf2 hfc
      repeat (go_big_quiet_step ((go_at_call 91; exact calls_later hf1 hf2 (eqRow_same _ _))))
      refine wpQuiet_nil ?_
      rintro _ ⟨v, rfl⟩
      have Hv := Lib.hid (hbr.trans ((hf1.out v).mono hbr.size))
      clear hfc
      go_wp2
      go_roundw
      case rel => exact ⟨k + 1, by omega, by go_num, Hv.out⟩
      case measure => simp [intOf]; omega
    · go_wp2
      go_ret
      exact ⟨rfl, hbr⟩

theorem Try.infoR70 : (Try.prog.info? 70).map (fun i => (i.zero, i.size, i.bytes)) = some (some (.agg #[.string ⟨#[]⟩, .string ⟨#[]⟩, .int .i64 0, .int .i64 0]), 4, 48) := by kernel_rfl

set_option maxRecDepth 100000 in
set_option maxHeartbeats 2000000 in
theorem toRowS_any (A : Option Addr) (cap : Nat) (zs : List RowV) (w : World) (hz : RowsA w A zs) (hl : zs.length ≤ 1048577) :
    Calls Try.prog 32 #[.slice A zs.length cap] w (GetsE rowC 4 70 w zs) := by
  obtain ⟨i0, hi, hz0, hz1, hz2⟩ := info_parts Try.infoR70
  have hi16 : i0.bytes * zs.length ≤ 281474976710656 := by rw [hz2]; omega
  have hml : zs.length ≤ maxLen := by unfold maxLen; omega
  have HZ := Lib.hid hz
  clear hz
  go_enter Try.func32, Try.ntmps32
  go_wp2_with (at_make; refine wpList_make_full _ rfl _ _ 23 rfl w.heap.size 70 i0 _ 4 Try.underlying23 hi hz0 hz1 .i64 .i64 _ _ zs.length rfl rfl rfl rfl hi16 hml (Nat.le_refl _) ?_; intro w1 hown hgrow)
  have hown0 : w1.ownsRow w.heap.size 70 4 (.slice (some ⟨w.heap.size, 0, none⟩) zs.length zs.length) zs.length (flatOf rowC (doneE row0 zs 0)) := by rw [doneE_zero, ← made_flatOf rowC_len (by omega) row0 _ rfl]; exact hown
  have HO := Lib.hid hown0
  have HB := Lib.hid ((Below.refl w.heap.size w).grown hgrow (Nat.le_refl _) (fun k hk => by cases hk))
  clear hown hown0 hgrow hi hz0 hz1 hz2 hi16
  go_loopw [4] (fun i wr => ∃ k : Nat, k ≤ zs.length ∧ i = .int .i64 k ∧ wr.ownsRow w.heap.size 70 4 (.slice (some ⟨w.heap.size, 0, none⟩) zs.length zs.length) zs.length (flatOf rowC (doneE row0 zs k)) ∧ Below w.heap.size w wr) (fun i _ => zs.length - (intOf i).toNat)
  case atStart => exact ⟨0, Nat.zero_le _, rfl, HO.out, HB.out⟩
  case round =>
    obtain ⟨k, hk, rfl, hown, hbr⟩ := hrel
    have Hown := Lib.hid hown
    have hgl : w.heap.size < wr.heap.size := (hown.lt w.heap.size rfl).2
    clear hown HO HB
    by_cases hlt : k < zs.length
    · obtain ⟨b, off, x, rfl, hb, hx, c0, c1, c2, c3⟩ := (HZ.out.below hbr).at_ hlt
      have Hset := Lib.hid (doneE_set row0 zs k x hx)
      have Hget := Lib.hid (doneE_get row0 zs k hlt)
      clear hx
      go_wp2_with fail
      refine (toRow_any x _).mono ?_
      rintro e w2 ⟨rfl, hb2⟩
      have hown2 := ownsKeep Hown.out hb2
      have hd : (doneE row0 zs k).length = zs.length := doneE_length row0 zs k hk
      have e0 : w2.cell? ⟨w.heap.size, k * 4, none⟩ = some (.string ⟨#[]⟩) := by
        rw [hown2.cellAt (k * 4) (by omega)]; exact flatOf_get rowC_len _ k row0 0 Hget.out (by omega)
      have e1 : w2.cell? ⟨w.heap.size, k * 4 + 1, none⟩ = some (.string ⟨#[]⟩) := by
        rw [hown2.cellAt (k * 4 + 1) (by omega)]; exact flatOf_get rowC_len _ k row0 1 Hget.out (by omega)
      have e2 : w2.cell? ⟨w.heap.size, k * 4 + 2, none⟩ = some (.int .i64 0) := by
        rw [hown2.cellAt (k * 4 + 2) (by omega)]; exact flatOf_get rowC_len _ k row0 2 Hget.out (by omega)
      have e3 : w2.cell? ⟨w.heap.size, k * 4 + 3, none⟩ = some (.int .i64 0) := by
        rw [hown2.cellAt (k * 4 + 3) (by omega)]; exact flatOf_get rowC_len _ k row0 3 Hget.out (by omega)
      have f0 := hown2.frozenAt (k * 4)
      have f1 := hown2.frozenAt (k * 4 + 1)
      have f2 := hown2.frozenAt (k * 4 + 2)
      have f3 := hown2.frozenAt (k * 4 + 3)
      have s0 := hown2.stored (k * 4) (.string x.k)
      have s1 := s0.1.stored (k * 4 + 1) (.string x.t)
      have s2 := s1.1.stored (k * 4 + 2) (.int .i64 x.f)
      have s3 := s2.1.stored (k * 4 + 3) (.int .i64 x.e)
      have hset : (((((flatOf rowC (doneE row0 zs k)).set (k * 4) (.string x.k)).set (k * 4 + 1) (.string x.t)).set (k * 4 + 2) (.int .i64 x.f)).set (k * 4 + 3) (.int .i64 x.e)) = flatOf rowC (doneE row0 zs (k + 1)) := by
        have := flatOf_set rowC_len x (doneE row0 zs k) k (by omega)
        rw [Hset.out] at this
        exact this
      have t3 := s3.1
      rw [hset] at t3
      have HS := Lib.hid t3
      have HB := Lib.hid (((((hbr.trans (hb2.mono (by omega))).setCell (p := ⟨w.heap.size, k * 4, none⟩) (Nat.le_refl _) (.string x.k)).setCell (p := ⟨w.heap.size, k * 4 + 1, none⟩) (Nat.le_refl _) (.string x.t)).setCell (p := ⟨w.heap.size, k * 4 + 2, none⟩) (Nat.le_refl _) (.int .i64 x.f)).setCell (p := ⟨w.heap.size, k * 4 + 3, none⟩) (Nat.le_refl _) (.int .i64 x.e))
      clear s0 s1 s2 s3 t3 hset hown2 hd hb2
      go_wp2
      go_roundw
      case rel => exact ⟨k + 1, by omega, by go_num, HS.out, HB.out⟩
      case measure => simp [intOf]; omega
    · go_wp2
      go_ret
      obtain rfl : k = zs.length := by omega
      have := Hown.out
      rw [doneE_all] at this
      exact ⟨_, zs.length, rfl, this, hbr⟩
end Go.Proofs.Ytphinkcfmdnpfaa
