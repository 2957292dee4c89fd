/-
  Walks: slices of traces: equality, marks.
-/
import Derived.Test.YtacddgipcafdlaaTraE
import Derived.Test.YtacddgipcafdlaaMarkT
namespace Go.Proofs.Ytacddgipcafdlaa
open Go.RowKit

set_option maxRecDepth 100000 in
set_option maxHeartbeats 1000000 in
theorem eqTraceS_same (A B : Option Addr) (cap cap' : Nat) (zs : List TraV) (w : World) (hz : TrasA w A zs) (hz' : TrasA w B zs) (hl : zs.length ≤ maxLen) :
    Calls Try.prog 37 #[.slice A zs.length cap, .slice B zs.length cap'] w fun e w' => e = .returned (.bool true) ∧ Below w.heap.size w w' := by
  unfold maxLen at hl
  have HZ := Lib.hid hz
  have HZ' := Lib.hid hz'
  clear hz hz'
  go_enter Try.func37, Try.ntmps37
  go_wp2
  go_loopw [5] (fun i wr => ∃ k : Nat, k ≤ zs.length ∧ i = .int .i64 k ∧ Below w.heap.size w wr) (fun i _ => zs.length - (intOf i).toNat)
  case atStart => exact ⟨0, Nat.zero_le _, rfl, Below.refl _ _⟩
  case round =>
    obtain ⟨k, hk, rfl, hbr⟩ := hrel
    by_cases hlt : k < zs.length
    · obtain ⟨b, off, x, rfl, hb, hx, c0, c1⟩ := (HZ.out.below hbr).at_ hlt
      obtain ⟨b', off', x', rfl, hb', hx', d0, d1⟩ := (HZ'.out.below hbr).at_ hlt
      obtain rfl : x' = x := by rw [hx] at hx'; injection hx' with h; exact h.symm
      clear hx hx'
      go_wp2_with fail
      refine wp_region_later (by kernel_rfl) (by kernel_rfl) ?_
      intro f hf1 hf2 hfc
      repeat (go_big_quiet_step ((go_at_call 82; exact calls_later hf1 hf2 (eqTrace_same _ _))))
      refine wpQuiet_nil ?_
      rintro _ ⟨v, rfl⟩
      have Hv := Lib.hid (hbr.trans ((hf1.out v).mono hbr.size))
      clear hfc
      go_wp2
      go_roundw
      case rel => exact ⟨k + 1, by omega, by go_num, Hv.out⟩
      case measure => simp [intOf]; omega
    · go_wp2
      go_ret
      exact ⟨rfl, hbr⟩

def traMk (c : Int) : TraV := ⟨c, markT (c + 1)⟩

set_option maxRecDepth 100000 in
set_option maxHeartbeats 2000000 in
theorem markTraceS_some (g cap base : Nat) (zs : List TraV) (k0 : Int) (w : World) (h : w.ownsRow base 98 2 (.slice (some ⟨g, 0, none⟩) zs.length cap) zs.length (flatOf traC zs)) (hk : 1 ≤ k0) (hk' : k0 ≤ 1000000000) (hl : zs.length ≤ 4194304) :
    Calls Try.prog 38 #[.slice (some ⟨g, 0, none⟩) zs.length cap, .int .i64 k0] w fun e w' => e = .returned (.int .i64 (k0 + 2 * zs.length)) ∧ w'.ownsRow base 98 2 (.slice (some ⟨g, 0, none⟩) zs.length cap) zs.length (flatOf traC (markE traMk 2 k0 zs.length)) ∧ w.grownBy w' (some g) := by
  have H := Lib.hid h
  clear h
  go_enter Try.func38, Try.ntmps38
  go_wp2
  go_loopw [1, 5] (fun kv i wr => ∃ j : Nat, j ≤ zs.length ∧ i = .int .i64 j ∧ kv = .int .i64 (k0 + 2 * (j : Int)) ∧ wr.ownsRow base 98 2 (.slice (some ⟨g, 0, none⟩) zs.length cap) zs.length (flatOf traC (markToE traMk 2 zs k0 j)) ∧ w.grownBy wr (some g)) (fun _ i _ => zs.length - (intOf i).toNat)
  case atStart => exact ⟨0, Nat.zero_le _, rfl, by simp, by rw [markToE_zero]; exact H.out, ⟨rfl, rfl, rfl, Nat.le_refl _, fun k hk _ => rfl⟩⟩
  case round =>
    obtain ⟨j, hj, rfl, rfl, hown, hgr⟩ := hrel
    have Hown := Lib.hid hown
    have Hgr := Lib.hid hgr
    clear hown hgr
    by_cases hlt : j < zs.length
    · have Hget := Lib.hid (markToE_get (mk := traMk) (d := 2) zs k0 j hlt)
      have Hset := Lib.hid (markToE_set (mk := traMk) (d := 2) zs k0 j hlt)
      have Hlen := Lib.hid (markToE_length (mk := traMk) (d := 2) zs k0 j hj)
      have hgl : g < wr.heap.size := (Hown.out.lt g rfl).2
      have e0 : (wr : World).cell? ⟨g, j * 2, none⟩ = some (.int .i64 zs[j].k) := by
        rw [Hown.out.cellAt (j * 2) (by omega)]; exact flatOf_get traC_len _ j _ 0 Hget.out (by omega)
      have f0 := Hown.out.frozenAt (j * 2)
      have s0 := Hown.out.stored (j * 2) (.int .i64 (k0 + 2 * (j : Int)))
      have P0 := Lib.hid s0.1
      have Q0 := Lib.hid (grownTrans Hgr.out s0.2)
      clear s0
      go_wp2_with fail
      refine (markText_any _ _ (by omega) (by omega)).mono ?_
      rintro e w1 ⟨rfl, hb1⟩
      have O1 := Lib.hid (ownsKeep P0.out hb1)
      have G1 := Lib.hid (grownTrans Q0.out (belowGrown hb1 (some g)))
      clear hb1 P0 Q0 e0 f0
      have e1 : (w1 : World).cell? ⟨g, j * 2 + 1, none⟩ = some (.string zs[j].t) := by
        rw [O1.out.cellAt (j * 2 + 1) (by omega)]; rw [List.getElem?_set_ne (by omega)]; exact flatOf_get traC_len _ j _ 1 Hget.out (by omega)
      have f1 := O1.out.frozenAt (j * 2 + 1)
      have s1 := O1.out.stored (j * 2 + 1) (.string (markT (k0 + 2 * (j : Int) + 1)))
      have P1 := Lib.hid s1.1
      have Q1 := Lib.hid (grownTrans G1.out s1.2)
      clear s1
      have hset : ((flatOf traC (markToE traMk 2 zs k0 j)).set (j * 2) (.int .i64 (k0 + 2 * (j : Int)))).set (j * 2 + 1) (.string (markT (k0 + 2 * (j : Int) + 1))) = flatOf traC (markToE traMk 2 zs k0 (j + 1)) := by
        have := flatOf_set traC_len (traMk (k0 + 2 * (j : Int))) (markToE traMk 2 zs k0 j) j (by rw [Hlen.out]; omega)
        rw [Hset.out] at this
        skip
        exact this
      have HS := Lib.hid (show ((w1 : World).setCell ⟨g, j * 2 + 1, none⟩ (.string (markT (k0 + 2 * (j : Int) + 1)))).ownsRow base 98 2 (.slice (some ⟨g, 0, none⟩) zs.length cap) zs.length (flatOf traC (markToE traMk 2 zs k0 (j + 1))) from by rw [← hset]; exact P1.out)
      have HG := Lib.hid Q1.out
      clear hset
      go_wp2
      go_roundw
      case rel => exact ⟨j + 1, by omega, by go_num, by go_num, (by first | exact HS.out | (have := HS.out; simp only [Int.add_assoc, Nat.add_assoc, Int.one_mul] at this ⊢; exact this)), (by first | exact HG.out | (have := HG.out; simp only [Int.add_assoc, Nat.add_assoc, Int.one_mul] at this ⊢; exact this))⟩
      case measure => simp [intOf]; omega
    · obtain rfl : j = zs.length := by omega
      go_wp2
      go_ret
      have := Hown.out
      rw [markToE_all] at this
      exact ⟨rfl, this, Hgr.out⟩

set_option maxHeartbeats 1000000 in
theorem markTraceS_nil (k0 : Int) (w : World) : Calls Try.prog 38 #[.slice none 0 0, .int .i64 k0] w fun e w' => e = .returned (.int .i64 k0) ∧ w' = w := by
  go_enter Try.func38, Try.ntmps38
  go_wp2
  go_loopw [1, 5] (fun kv i wr => i = .int .i64 0 ∧ kv = .int .i64 k0 ∧ wr = w) (fun _ i _ => 0)
  case atStart => exact ⟨rfl, rfl, rfl⟩
  case round =>
    obtain ⟨rfl, rfl, rfl⟩ := hrel
    go_wp2
    go_ret
    exact ⟨rfl, rfl⟩

theorem markTraceS_any (base : Nat) (v : Value) (zs : List TraV) (k0 : Int) (w : World) (h : w.ownsRow base 98 2 v zs.length (flatOf traC zs)) (hk : 1 ≤ k0) (hk' : k0 ≤ 1000000000) (hl : zs.length ≤ 4194304) :
    Calls Try.prog 38 #[v, .int .i64 k0] w fun e w' => e = .returned (.int .i64 (k0 + 2 * zs.length)) ∧ w'.ownsRow base 98 2 v zs.length (flatOf traC (markE traMk 2 k0 zs.length)) ∧ w.grownBy w' v.ownBlock := by
  rcases h.2 with ⟨hv, h0⟩ | ⟨g, c, cur, hv, _⟩
  · obtain rfl : zs = [] := List.length_eq_zero_iff.1 h0
    subst hv
    exact (markTraceS_nil k0 w).mono fun e w' ⟨h1, h2⟩ => by subst h2; exact ⟨by simpa using h1, h, ⟨rfl, rfl, rfl, Nat.le_refl _, fun k hk _ => rfl⟩⟩
  · subst hv
    exact markTraceS_some g c base zs k0 w h hk hk' hl

set_option maxRecDepth 100000 in
set_option maxHeartbeats 2000000 in
theorem heldTraceS_any (A : Option Addr) (n cap : Nat) (k0 : Int) (w : World) (hz : TrasA w A (markE traMk 2 k0 n)) (hk : 1 ≤ k0) (hk' : k0 ≤ 1000000000) (hl : n ≤ 4194304) :
    Calls Try.prog 39 #[.slice A n cap, .int .i64 k0] w fun e w' => e = .returned (.int .i64 (k0 + 2 * n)) ∧ Below w.heap.size w w' := by
  have HZ := Lib.hid hz
  clear hz
  go_enter Try.func39, Try.ntmps39
  go_wp2
  go_loopw [1, 5] (fun kv i wr => ∃ j : Nat, j ≤ n ∧ i = .int .i64 j ∧ kv = .int .i64 (k0 + 2 * (j : Int)) ∧ Below w.heap.size w wr) (fun _ i _ => n - (intOf i).toNat)
  case atStart => exact ⟨0, Nat.zero_le _, rfl, by simp, Below.refl _ _⟩
  case round =>
    obtain ⟨j, hj, rfl, rfl, hbr⟩ := hrel
    by_cases hlt : j < n
    · obtain ⟨b, off, x, rfl, hb, hx, c0, c1⟩ := (HZ.out.below hbr).at_ (show j < (markE traMk 2 k0 n).length by rw [markE_length]; exact hlt)
      rw [markE_get k0 n j hlt] at hx
      injection hx with hx
      subst hx
      have d0 : wr.cell? ⟨b, off + j * 2, none⟩ = some (.int .i64 (k0 + 2 * (j : Int))) := c0
      have d1 : wr.cell? ⟨b, off + j * 2 + 1, none⟩ = some (.string (markT (k0 + 2 * (j : Int) + 1))) := c1
      have B0 := Lib.hid hbr
      clear hbr c0 c1
      go_wp2_with fail
      refine wp_region_later (by kernel_rfl) (by kernel_rfl) ?_
      intro f hf1 hf2 hfc
      repeat (go_big_quiet_step ((go_at_call 83; exact calls_later hf1 hf2 (markText_any _ _ (by omega) (by omega)))))
      refine wpQuiet_nil ?_
      rintro _ ⟨v, rfl⟩
      have B1 := Lib.hid (B0.out.trans ((hf1.out v).mono B0.out.size))
      replace hb := Nat.lt_of_lt_of_le hb (hf1.out v).size
      clear d1
      clear hfc B0 hf1 hf2
      generalize f v = w1 at *
      clear v f
      go_wp2
      go_roundw
      case rel => exact ⟨j + 1, by omega, by go_num, by go_num, B1.out⟩
      case measure => simp [intOf]; omega
    · obtain rfl : j = n := by omega
      go_wp2
      go_ret
      exact ⟨rfl, hbr⟩
end Go.Proofs.Ytacddgipcafdlaa
