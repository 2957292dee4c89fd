/-
  Walks: slices of numbers: equality, marks.
-/
import Derived.Test.YtmfpojminbkojaaElI
import Derived.Test.YtmfpojminbkojaaRowS
namespace Go.Proofs.Ytmfpojminbkojaa
open Go.RowKit

set_option maxRecDepth 100000 in
set_option maxHeartbeats 1000000 in
theorem eqIntS_same (A B : Option Addr) (cap cap' : Nat) (zs : List Int) (w : World) (hz : IntsA w A zs) (hz' : IntsA w B zs) (hl : zs.length ≤ maxLen) :
    Calls Try.prog 17 #[.slice A zs.length cap, .slice B zs.length cap'] w fun e w' => e = .returned (.bool true) ∧ Below w.heap.size w w' := by
  unfold maxLen at hl
  have HZ := Lib.hid hz
  have HZ' := Lib.hid hz'
  clear hz hz'
  go_enter Try.func17, Try.ntmps17
  go_wp2
  go_loopw [5] (fun i wr => ∃ k : Nat, k ≤ zs.length ∧ i = .int .i64 k ∧ Below w.heap.size w wr) (fun i _ => zs.length - (intOf i).toNat)
  case atStart => exact ⟨0, Nat.zero_le _, rfl, Below.refl _ _⟩
  case round =>
    obtain ⟨k, hk, rfl, hbr⟩ := hrel
    by_cases hlt : k < zs.length
    · obtain ⟨b, off, x, rfl, hb, hx, c0⟩ := (HZ.out.below hbr).at_ hlt
      obtain ⟨b', off', x', rfl, hb', hx', d0⟩ := (HZ'.out.below hbr).at_ hlt
      obtain rfl : x' = x := by rw [hx] at hx'; injection hx' with h; exact h.symm
      clear hx hx'
      go_wp2_with fail
      refine wp_region_later (by kernel_rfl) (by kernel_rfl) ?_
      intro f hf1 hf2 hfc
      repeat (go_big_quiet_step ((fail)))
      refine wpQuiet_nil ?_
      rintro _ ⟨v, rfl⟩
      have Hv := Lib.hid (hbr.trans ((hf1.out v).mono hbr.size))
      clear hfc
      go_wp2
      go_roundw
      case rel => exact ⟨k + 1, by omega, by go_num, Hv.out⟩
      case measure => simp [intOf]; omega
    · go_wp2
      go_ret
      exact ⟨rfl, hbr⟩

def intMk (c : Int) : Int := c

set_option maxRecDepth 100000 in
set_option maxHeartbeats 2000000 in
theorem markIntS_some (g cap base : Nat) (zs : List Int) (k0 : Int) (w : World) (h : w.ownsRow base 3 1 (.slice (some ⟨g, 0, none⟩) zs.length cap) zs.length (flatOf intC zs)) (hk : 1 ≤ k0) (hk' : k0 ≤ 1000000000) (hl : zs.length ≤ 4194304) :
    Calls Try.prog 18 #[.slice (some ⟨g, 0, none⟩) zs.length cap, .int .i64 k0] w fun e w' => e = .returned (.int .i64 (k0 + 1 * zs.length)) ∧ w'.ownsRow base 3 1 (.slice (some ⟨g, 0, none⟩) zs.length cap) zs.length (flatOf intC (markE intMk 1 k0 zs.length)) ∧ w.grownBy w' (some g) := by
  have H := Lib.hid h
  clear h
  go_enter Try.func18, Try.ntmps18
  go_wp2
  go_loopw [1, 5] (fun kv i wr => ∃ j : Nat, j ≤ zs.length ∧ i = .int .i64 j ∧ kv = .int .i64 (k0 + 1 * (j : Int)) ∧ wr.ownsRow base 3 1 (.slice (some ⟨g, 0, none⟩) zs.length cap) zs.length (flatOf intC (markToE intMk 1 zs k0 j)) ∧ w.grownBy wr (some g)) (fun _ i _ => zs.length - (intOf i).toNat)
  case atStart => exact ⟨0, Nat.zero_le _, rfl, by simp, by rw [markToE_zero]; exact H.out, ⟨rfl, rfl, rfl, Nat.le_refl _, fun k hk _ => rfl⟩⟩
  case round =>
    obtain ⟨j, hj, rfl, rfl, hown, hgr⟩ := hrel
    have Hown := Lib.hid hown
    have Hgr := Lib.hid hgr
    clear hown hgr
    by_cases hlt : j < zs.length
    · have Hget := Lib.hid (markToE_get (mk := intMk) (d := 1) zs k0 j hlt)
      have Hset := Lib.hid (markToE_set (mk := intMk) (d := 1) zs k0 j hlt)
      have Hlen := Lib.hid (markToE_length (mk := intMk) (d := 1) zs k0 j hj)
      have hgl : g < wr.heap.size := (Hown.out.lt g rfl).2
      have e0 : (wr : World).cell? ⟨g, j, none⟩ = some (.int .i64 zs[j]) := by
        rw [Hown.out.cellAt (j) (by omega)]; have := flatOf_get intC_len _ j _ 0 Hget.out (by omega); rw [Nat.mul_one, Nat.add_zero] at this; exact this
      have f0 := Hown.out.frozenAt (j)
      have s0 := Hown.out.stored (j) (.int .i64 (k0 + 1 * (j : Int)))
      have P0 := Lib.hid s0.1
      have Q0 := Lib.hid (grownTrans Hgr.out s0.2)
      clear s0
      have hset : (flatOf intC (markToE intMk 1 zs k0 j)).set (j) (.int .i64 (k0 + 1 * (j : Int))) = flatOf intC (markToE intMk 1 zs k0 (j + 1)) := by
        have := flatOf_set intC_len (intMk (k0 + 1 * (j : Int))) (markToE intMk 1 zs k0 j) j (by rw [Hlen.out]; omega)
        rw [Hset.out] at this
        rw [Nat.mul_one] at this
        exact this
      have HS := Lib.hid (show ((wr : World).setCell ⟨g, j, none⟩ (.int .i64 (k0 + 1 * (j : Int)))).ownsRow base 3 1 (.slice (some ⟨g, 0, none⟩) zs.length cap) zs.length (flatOf intC (markToE intMk 1 zs k0 (j + 1))) from by rw [← hset]; exact P0.out)
      have HG := Lib.hid Q0.out
      clear hset
      go_wp2
      go_roundw
      case rel => exact ⟨j + 1, by omega, by go_num, by go_num, (by first | exact HS.out | (have := HS.out; simp only [Int.one_mul] at this ⊢; exact this)), (by first | exact HG.out | (have := HG.out; simp only [Int.one_mul] at this ⊢; exact this))⟩
      case measure => simp [intOf]; omega
    · obtain rfl : j = zs.length := by omega
      go_wp2
      go_ret
      have := Hown.out
      rw [markToE_all] at this
      exact ⟨rfl, this, Hgr.out⟩

set_option maxHeartbeats 1000000 in
theorem markIntS_nil (k0 : Int) (w : World) : Calls Try.prog 18 #[.slice none 0 0, .int .i64 k0] w fun e w' => e = .returned (.int .i64 k0) ∧ w' = w := by
  go_enter Try.func18, Try.ntmps18
  go_wp2
  go_loopw [1, 5] (fun kv i wr => i = .int .i64 0 ∧ kv = .int .i64 k0 ∧ wr = w) (fun _ i _ => 0)
  case atStart => exact ⟨rfl, rfl, rfl⟩
  case round =>
    obtain ⟨rfl, rfl, rfl⟩ := hrel
    go_wp2
    go_ret
    exact ⟨rfl, rfl⟩

theorem markIntS_any (base : Nat) (v : Value) (zs : List Int) (k0 : Int) (w : World) (h : w.ownsRow base 3 1 v zs.length (flatOf intC zs)) (hk : 1 ≤ k0) (hk' : k0 ≤ 1000000000) (hl : zs.length ≤ 4194304) :
    Calls Try.prog 18 #[v, .int .i64 k0] w fun e w' => e = .returned (.int .i64 (k0 + 1 * zs.length)) ∧ w'.ownsRow base 3 1 v zs.length (flatOf intC (markE intMk 1 k0 zs.length)) ∧ w.grownBy w' v.ownBlock := by
  rcases h.2 with ⟨hv, h0⟩ | ⟨g, c, cur, hv, _⟩
  · obtain rfl : zs = [] := List.length_eq_zero_iff.1 h0
    subst hv
    exact (markIntS_nil k0 w).mono fun e w' ⟨h1, h2⟩ => by subst h2; exact ⟨by simpa using h1, h, ⟨rfl, rfl, rfl, Nat.le_refl _, fun k hk _ => rfl⟩⟩
  · subst hv
    exact markIntS_some g c base zs k0 w h hk hk' hl

set_option maxRecDepth 100000 in
set_option maxHeartbeats 2000000 in
theorem heldIntS_any (A : Option Addr) (n cap : Nat) (k0 : Int) (w : World) (hz : IntsA w A (markE intMk 1 k0 n)) (hk : 1 ≤ k0) (hk' : k0 ≤ 1000000000) (hl : n ≤ 4194304) :
    Calls Try.prog 19 #[.slice A n cap, .int .i64 k0] w fun e w' => e = .returned (.int .i64 (k0 + 1 * n)) ∧ Below w.heap.size w w' := by
  have HZ := Lib.hid hz
  clear hz
  go_enter Try.func19, Try.ntmps19
  go_wp2
  go_loopw [1, 5] (fun kv i wr => ∃ j : Nat, j ≤ n ∧ i = .int .i64 j ∧ kv = .int .i64 (k0 + 1 * (j : Int)) ∧ Below w.heap.size w wr) (fun _ i _ => n - (intOf i).toNat)
  case atStart => exact ⟨0, Nat.zero_le _, rfl, by simp, Below.refl _ _⟩
  case round =>
    obtain ⟨j, hj, rfl, rfl, hbr⟩ := hrel
    by_cases hlt : j < n
    · obtain ⟨b, off, x, rfl, hb, hx, c0⟩ := (HZ.out.below hbr).at_ (show j < (markE intMk 1 k0 n).length by rw [markE_length]; exact hlt)
      rw [markE_get k0 n j hlt] at hx
      injection hx with hx
      subst hx
      have d0 : wr.cell? ⟨b, off + j, none⟩ = some (.int .i64 (k0 + 1 * (j : Int))) := c0
      have B0 := Lib.hid hbr
      clear hbr c0
      go_wp2
      go_roundw
      case rel => exact ⟨j + 1, by omega, by go_num, by go_num, B0.out⟩
      case measure => simp [intOf]; omega
    · obtain rfl : j = n := by omega
      go_wp2
      go_ret
      exact ⟨rfl, hbr⟩
end Go.Proofs.Ytmfpojminbkojaa
