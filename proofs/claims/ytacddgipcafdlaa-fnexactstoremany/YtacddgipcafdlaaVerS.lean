/-
  Walks: versions by value and in slices: sizes, copies, equality; stores.
-/
import Derived.Test.YtacddgipcafdlaaVerT
import Derived.Test.YtacddgipcafdlaaRowS
import Derived.Test.YtacddgipcafdlaaOpW
namespace Go.Proofs.Ytacddgipcafdlaa
open Go.RowKit

set_option maxHeartbeats 1000000 in
theorem szVer_any (x : VerV) (left : Int) (w : World) (h0 : 0 ≤ left) (h1 : left ≤ 1048576) (hk : x.r.k.size ≤ maxLen) (ht : x.r.t.size ≤ maxLen) :
    Calls Try.prog 104 #[.agg #[.string x.r.k, .string x.r.t, .int .i64 x.r.f, .int .i64 x.r.e, .int .i64 x.i, .int .i64 x.o], .int .i64 left] w fun e w' => e = .returned (.int .i64 (szL x.r left)) ∧ Below w.heap.size w w' := by
  have hor := szL_or x.r left
  obtain ⟨u, hu⟩ : ∃ u, szL x.r left = u := ⟨_, rfl⟩
  rw [hu] at hor ⊢
  have HU := Lib.hid hu
  clear hu
  go_enter Try.func104, Try.ntmps104
  go_wp2_with fail
  refine (szRow_any x.r left _ h0 h1 hk ht).mono ?_
  rintro e w1 ⟨rfl, hb⟩
  rw [show (if left - (x.r.k.size : Int) < 0 then (-1 : Int) else if left - (x.r.k.size : Int) - x.r.t.size < 0 then -1 else left - x.r.k.size - x.r.t.size) = u from HU.out]
  have HB := Lib.hid (((Below.refl _ _).alloc (Nat.le_refl _) _).trans (hb.mono (by simp)))
  clear hb
  rcases hor with rfl | ⟨hu0, hu1⟩
  · go_wp2
    go_ret
    exact ⟨rfl, HB.out⟩
  · go_wp2
    go_ret
    exact ⟨rfl, HB.out⟩

set_option maxHeartbeats 1000000 in
theorem eqVer_same (x : VerV) (w : World) :
    Calls Try.prog 102 #[.agg #[.string x.r.k, .string x.r.t, .int .i64 x.r.f, .int .i64 x.r.e, .int .i64 x.i, .int .i64 x.o], .agg #[.string x.r.k, .string x.r.t, .int .i64 x.r.f, .int .i64 x.r.e, .int .i64 x.i, .int .i64 x.o]] w fun e w' => e = .returned (.bool true) ∧ Below w.heap.size w w' := by
  go_enter Try.func102, Try.ntmps102
  go_wp2_with fail
  generalize hW : (w.alloc _).alloc _ = W0
  have hB : Below w.heap.size w W0 := by rw [← hW]; exact ((Below.refl _ _).alloc (Nat.le_refl _) _).alloc (by simp) _
  have a4 : W0.cell? ⟨w.heap.size, 4, none⟩ = some (.int .i64 x.i) := by rw [← hW]; simp [go_sem]
  have a5 : W0.cell? ⟨w.heap.size, 5, none⟩ = some (.int .i64 x.o) := by rw [← hW]; simp [go_sem]
  have b4 : W0.cell? ⟨w.heap.size + 1, 4, none⟩ = some (.int .i64 x.i) := by rw [← hW]; simp [go_sem]
  have b5 : W0.cell? ⟨w.heap.size + 1, 5, none⟩ = some (.int .i64 x.o) := by rw [← hW]; simp [go_sem]
  have hs : w.heap.size + 1 < W0.heap.size := by rw [← hW]; simp
  clear hW
  refine (eqRow_same x.r _).mono ?_
  rintro e w1 ⟨rfl, hb⟩
  replace a4 := cellBelow hb (by omega) a4
  replace a5 := cellBelow hb (by omega) a5
  replace b4 := cellBelow hb hs b4
  replace b5 := cellBelow hb hs b5
  have HB := Lib.hid (hB.trans (hb.mono hB.size))
  clear hb hB
  go_wp2
  go_ret
  exact ⟨rfl, HB.out⟩

set_option maxRecDepth 100000 in
set_option maxHeartbeats 1000000 in
theorem szVerS_any (A : Option Addr) (cap : Nat) (zs : List VerV) (left : Int) (w : World) (h0 : 0 ≤ left) (h1 : left ≤ 1048576) (hz : VersA w A zs) (hn : zs.length ≤ maxLen) (hs : ∀ r ∈ zs, r.r.k.size ≤ maxLen ∧ r.r.t.size ≤ maxLen) :
    Calls Try.prog 69 #[.slice A zs.length cap, .int .i64 left] w (SzPost left zs.length w) := by
  unfold maxLen at hn
  have HZ := Lib.hid hz
  have HS := Lib.hid hs
  clear hz hs
  by_cases h : left - zs.length < 0
  · go_enter Try.func69, Try.ntmps69
    go_wp2
    go_ret
    exact ⟨-1, rfl, .inl rfl, Below.refl _ _⟩
  · go_enter Try.func69, Try.ntmps69
    go_wp2
    go_loopw [1, 5] (fun lv i wr => ∃ (k : Nat) (v : Int), k ≤ zs.length ∧ i = .int .i64 k ∧ lv = .int .i64 v ∧ 0 ≤ v ∧ v ≤ left ∧ Below w.heap.size w wr) (fun _ i _ => zs.length - (intOf i).toNat)
    case atStart => exact ⟨0, _, Nat.zero_le _, rfl, rfl, by omega, by omega, Below.refl _ _⟩
    case round =>
      obtain ⟨k, v, hk, rfl, rfl, hv0, hv1, hbr⟩ := hrel
      by_cases hlt : k < zs.length
      · obtain ⟨b, off, x, rfl, hb, hx, c0, c1, c2, c3, c4, c5⟩ := (HZ.out.below hbr).at_ hlt
        have hm := HS.out x (List.mem_of_getElem? hx)
        clear hx
        go_wp2_with fail
        refine (szVer_any x _ _ (by omega) (by omega) hm.1 hm.2).mono ?_
        rintro e w2 ⟨rfl, hb2⟩
        have B2 := Lib.hid (hbr.trans (hb2.mono hbr.size))
        clear hb2 hbr c0 c1 c2 c3 c4 c5
        have hu := szL_or x.r v
        obtain ⟨u, hleft⟩ : ∃ u, szL x.r v = u := ⟨_, rfl⟩
        rw [hleft] at hu ⊢
        clear hleft
        rcases hu with rfl | ⟨hu0, hu1⟩
        · go_wp2
          go_ret
          exact ⟨-1, rfl, .inl rfl, B2.out⟩
        · go_wp2
          go_roundw
          case rel => exact ⟨k + 1, u, by omega, by go_num, rfl, hu0, by omega, B2.out⟩
          case measure => simp [intOf]; omega
      · go_wp2
        go_ret
        exact ⟨v, rfl, .inr ⟨hv0, hv1, by omega⟩, hbr⟩

set_option maxRecDepth 100000 in
set_option maxHeartbeats 1000000 in
theorem eqVerS_same (A B : Option Addr) (cap cap' : Nat) (zs : List VerV) (w : World) (hz : VersA w A zs) (hz' : VersA w B zs) (hl : zs.length ≤ maxLen) :
    Calls Try.prog 64 #[.slice A zs.length cap, .slice B zs.length cap'] w fun e w' => e = .returned (.bool true) ∧ Below w.heap.size w w' := by
  unfold maxLen at hl
  have HZ := Lib.hid hz
  have HZ' := Lib.hid hz'
  clear hz hz'
  go_enter Try.func64, Try.ntmps64
  go_wp2
  go_loopw [5] (fun i wr => ∃ k : Nat, k ≤ zs.length ∧ i = .int .i64 k ∧ Below w.heap.size w wr) (fun i _ => zs.length - (intOf i).toNat)
  case atStart => exact ⟨0, Nat.zero_le _, rfl, Below.refl _ _⟩
  case round =>
    obtain ⟨k, hk, rfl, hbr⟩ := hrel
    by_cases hlt : k < zs.length
    · obtain ⟨b, off, x, rfl, hb, hx, c0, c1, c2, c3, c4, c5⟩ := (HZ.out.below hbr).at_ hlt
      obtain ⟨b', off', x', rfl, hb', hx', d0, d1, d2, d3, d4, d5⟩ := (HZ'.out.below hbr).at_ hlt
      obtain rfl : x' = x := by rw [hx] at hx'; injection hx' with h; exact h.symm
      clear hx hx'
      go_wp2_with fail
      refine wp_region_later (by kernel_rfl) (by kernel_rfl) ?_
      intro f hf1 hf2 hfc
      repeat (go_big_quiet_step ((go_at_call 102; exact calls_later hf1 hf2 (eqVer_same _ _))))
      refine wpQuiet_nil ?_
      rintro _ ⟨v, rfl⟩
      have Hv := Lib.hid (hbr.trans ((hf1.out v).mono hbr.size))
      clear hfc
      go_wp2
      go_roundw
      case rel => exact ⟨k + 1, by omega, by go_num, Hv.out⟩
      case measure => simp [intOf]; omega
    · go_wp2
      go_ret
      exact ⟨rfl, hbr⟩

theorem Try.infoV74 : (Try.prog.info? 74).map (fun i => (i.zero, i.size, i.bytes)) = some (some (.agg #[.string ⟨#[]⟩, .string ⟨#[]⟩, .int .i64 0, .int .i64 0, .int .i64 0, .int .i64 0]), 6, 64) := by kernel_rfl

set_option maxRecDepth 100000 in
set_option maxHeartbeats 2000000 in
theorem toVerS_any (A : Option Addr) (cap : Nat) (zs : List VerV) (w : World) (hz : VersA w A zs) (hl : zs.length ≤ 1048577) :
    Calls Try.prog 73 #[.slice A zs.length cap] w (GetsE verC 6 74 w zs) := by
  obtain ⟨i0, hi, hz0, hz1, hz2⟩ := info_parts Try.infoV74
  have hi16 : i0.bytes * zs.length ≤ 281474976710656 := by rw [hz2]; omega
  have hml : zs.length ≤ maxLen := by unfold maxLen; omega
  have HZ := Lib.hid hz
  clear hz
  go_enter Try.func73, Try.ntmps73
  go_wp2_with (at_make; refine wpList_make_full _ rfl _ _ 24 rfl w.heap.size 74 i0 _ 6 Try.underlying24 hi hz0 hz1 .i64 .i64 _ _ zs.length rfl rfl rfl rfl hi16 hml (Nat.le_refl _) ?_; intro w1 hown hgrow)
  have hown0 : w1.ownsRow w.heap.size 74 6 (.slice (some ⟨w.heap.size, 0, none⟩) zs.length zs.length) zs.length (flatOf verC (doneE ver0 zs 0)) := by rw [doneE_zero, ← made_flatOf verC_len (by omega) ver0 _ rfl]; exact hown
  have HO := Lib.hid hown0
  have HB := Lib.hid ((Below.refl w.heap.size w).grown hgrow (Nat.le_refl _) (fun k hk => by cases hk))
  clear hown hown0 hgrow hi hz0 hz1 hz2 hi16
  go_loopw [4] (fun i wr => ∃ k : Nat, k ≤ zs.length ∧ i = .int .i64 k ∧ wr.ownsRow w.heap.size 74 6 (.slice (some ⟨w.heap.size, 0, none⟩) zs.length zs.length) zs.length (flatOf verC (doneE ver0 zs k)) ∧ Below w.heap.size w wr) (fun i _ => zs.length - (intOf i).toNat)
  case atStart => exact ⟨0, Nat.zero_le _, rfl, HO.out, HB.out⟩
  case round =>
    obtain ⟨k, hk, rfl, hown, hbr⟩ := hrel
    have Hown := Lib.hid hown
    have hgl : w.heap.size < wr.heap.size := (hown.lt w.heap.size rfl).2
    clear hown HO HB
    by_cases hlt : k < zs.length
    · obtain ⟨b, off, x, rfl, hb, hx, c0, c1, c2, c3, c4, c5⟩ := (HZ.out.below hbr).at_ hlt
      have Hset := Lib.hid (doneE_set ver0 zs k x hx)
      have Hget := Lib.hid (doneE_get ver0 zs k hlt)
      clear hx
      go_wp2_with fail
      refine (toVer_any x _).mono ?_
      rintro e w2 ⟨rfl, hb2⟩
      have hown2 := ownsKeep Hown.out hb2
      have hd : (doneE ver0 zs k).length = zs.length := doneE_length ver0 zs k hk
      have e0 : w2.cell? ⟨w.heap.size, k * 6, none⟩ = some (.string ⟨#[]⟩) := by
        rw [hown2.cellAt (k * 6) (by omega)]; exact flatOf_get verC_len _ k ver0 0 Hget.out (by omega)
      have e1 : w2.cell? ⟨w.heap.size, k * 6 + 1, none⟩ = some (.string ⟨#[]⟩) := by
        rw [hown2.cellAt (k * 6 + 1) (by omega)]; exact flatOf_get verC_len _ k ver0 1 Hget.out (by omega)
      have e2 : w2.cell? ⟨w.heap.size, k * 6 + 2, none⟩ = some (.int .i64 0) := by
        rw [hown2.cellAt (k * 6 + 2) (by omega)]; exact flatOf_get verC_len _ k ver0 2 Hget.out (by omega)
      have e3 : w2.cell? ⟨w.heap.size, k * 6 + 3, none⟩ = some (.int .i64 0) := by
        rw [hown2.cellAt (k * 6 + 3) (by omega)]; exact flatOf_get verC_len _ k ver0 3 Hget.out (by omega)
      have e4 : w2.cell? ⟨w.heap.size, k * 6 + 4, none⟩ = some (.int .i64 0) := by
        rw [hown2.cellAt (k * 6 + 4) (by omega)]; exact flatOf_get verC_len _ k ver0 4 Hget.out (by omega)
      have e5 : w2.cell? ⟨w.heap.size, k * 6 + 5, none⟩ = some (.int .i64 0) := by
        rw [hown2.cellAt (k * 6 + 5) (by omega)]; exact flatOf_get verC_len _ k ver0 5 Hget.out (by omega)
      have f0 := hown2.frozenAt (k * 6)
      have f1 := hown2.frozenAt (k * 6 + 1)
      have f2 := hown2.frozenAt (k * 6 + 2)
      have f3 := hown2.frozenAt (k * 6 + 3)
      have f4 := hown2.frozenAt (k * 6 + 4)
      have f5 := hown2.frozenAt (k * 6 + 5)
      have s0 := hown2.stored (k * 6) (.string x.r.k)
      have s1 := s0.1.stored (k * 6 + 1) (.string x.r.t)
      have s2 := s1.1.stored (k * 6 + 2) (.int .i64 x.r.f)
      have s3 := s2.1.stored (k * 6 + 3) (.int .i64 x.r.e)
      have s4 := s3.1.stored (k * 6 + 4) (.int .i64 x.i)
      have s5 := s4.1.stored (k * 6 + 5) (.int .i64 x.o)
      have hset : (((((((flatOf verC (doneE ver0 zs k)).set (k * 6) (.string x.r.k)).set (k * 6 + 1) (.string x.r.t)).set (k * 6 + 2) (.int .i64 x.r.f)).set (k * 6 + 3) (.int .i64 x.r.e)).set (k * 6 + 4) (.int .i64 x.i)).set (k * 6 + 5) (.int .i64 x.o)) = flatOf verC (doneE ver0 zs (k + 1)) := by
        have := flatOf_set verC_len x (doneE ver0 zs k) k (by omega)
        rw [Hset.out] at this
        exact this
      have t3 := s5.1
      rw [hset] at t3
      have HS := Lib.hid t3
      have HB := Lib.hid (((((((hbr.trans (hb2.mono (by omega))).setCell (p := ⟨w.heap.size, k * 6, none⟩) (Nat.le_refl _) (.string x.r.k)).setCell (p := ⟨w.heap.size, k * 6 + 1, none⟩) (Nat.le_refl _) (.string x.r.t)).setCell (p := ⟨w.heap.size, k * 6 + 2, none⟩) (Nat.le_refl _) (.int .i64 x.r.f)).setCell (p := ⟨w.heap.size, k * 6 + 3, none⟩) (Nat.le_refl _) (.int .i64 x.r.e)).setCell (p := ⟨w.heap.size, k * 6 + 4, none⟩) (Nat.le_refl _) (.int .i64 x.i)).setCell (p := ⟨w.heap.size, k * 6 + 5, none⟩) (Nat.le_refl _) (.int .i64 x.o))
      clear s0 s1 s2 s3 s4 s5 t3 hset hown2 hd hb2
      go_wp2
      go_roundw
      case rel => exact ⟨k + 1, by omega, by go_num, HS.out, HB.out⟩
      case measure => simp [intOf]; omega
    · go_wp2
      go_ret
      obtain rfl : k = zs.length := by omega
      have := Hown.out
      rw [doneE_all] at this
      exact ⟨_, zs.length, rfl, this, hbr⟩
end Go.Proofs.Ytacddgipcafdlaa
