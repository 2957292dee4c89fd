/-
  Walks: stores that are the same.
-/
import Derived.Test.YtacddgipcafdlaaStoreW
import Derived.Test.YtacddgipcafdlaaStoS
namespace Go.Proofs.Ytacddgipcafdlaa
open Go.RowKit Go.Lib

set_option maxRecDepth 100000 in
set_option maxHeartbeats 4000000 in
theorem vaStore_same (A B : Option Addr) (cap cap' : Nat) (now : Int) (zs : List VerV) (w : World) (hz : VersA w A zs) (hz' : VersA w B zs) (hl : zs.length ≤ maxLen) :
    Calls Try.prog 49 #[.agg #[.int .i64 now, .slice A zs.length cap], .agg #[.int .i64 now, .slice B zs.length cap']] w fun e w' => e = .returned (.bool true) ∧ Below w.heap.size w w' := by
  unfold maxLen at hl
  have Z0 := Lib.hid hz
  have Z0' := Lib.hid hz'
  clear hz hz'
  go_enter Try.func49, Try.ntmps49
  go_wp2
  generalize hW : (w.alloc _).alloc _ = W0
  have s0 : W0.cell? ⟨w.heap.size, 0, none⟩ = some (.int .i64 now) := by rw [← hW]; simp [go_sem]
  have s1 : W0.cell? ⟨w.heap.size, 1, none⟩ = some (.slice A zs.length cap) := by rw [← hW]; simp [go_sem]
  have s2 : W0.cell? ⟨w.heap.size + 1, 0, none⟩ = some (.int .i64 now) := by rw [← hW]; simp [go_sem]
  have s3 : W0.cell? ⟨w.heap.size + 1, 1, none⟩ = some (.slice B zs.length cap') := by rw [← hW]; simp [go_sem]
  have ls : w.heap.size + 1 < W0.heap.size := by rw [← hW]; simp
  have B0 := Lib.hid (show Below w.heap.size w W0 from by rw [← hW]; exact ((Below.refl _ _).alloc (Nat.le_refl _) _).alloc (by simp) _)
  have S0 := Lib.hid s0
  have S1 := Lib.hid s1
  have S2 := Lib.hid s2
  have S3 := Lib.hid s3
  clear hW s0 s1 s2 s3
  go_loopw [5] (fun i wr => ∃ k : Nat, k ≤ zs.length ∧ i = .int .i64 k ∧ Below W0.heap.size W0 wr) (fun i _ => zs.length - (intOf i).toNat)
  case atStart => exact ⟨0, Nat.zero_le _, rfl, Below.refl _ _⟩
  case round =>
    obtain ⟨k, hk, rfl, hbr⟩ := hrel
    have hsz := hbr.size
    have hG1 : w.heap.size < wr.heap.size := by omega
    have hG2 : w.heap.size + 1 < wr.heap.size := by omega
    have t1 := cellBelow hbr (by omega) S1.out
    have t3 := cellBelow hbr (by omega) S3.out
    have BW := Lib.hid (B0.out.trans (hbr.mono B0.out.size))
    by_cases hlt : k < zs.length
    · obtain ⟨b, off, x, rfl, hb, hx, c0, c1, c2, c3, c4, c5⟩ := (Z0.out.below BW.out).at_ hlt
      obtain ⟨b', off', x', rfl, hb', hx', d0, d1, d2, d3, d4, d5⟩ := (Z0'.out.below BW.out).at_ hlt
      obtain rfl : x' = x := by rw [hx] at hx'; injection hx' with h; exact h.symm
      have hkz : (k : Int) < (zs.length : Int) := by omega
      have hkz0 : (0 : Int) ≤ (k : Int) := by omega
      clear hx hx'
      go_wp2_with fail
      refine wp_region_later (by kernel_rfl) (by kernel_rfl) ?_
      intro f hf1 hf2 hfc
      repeat (go_big_quiet_step ((fail)))
      refine wpQuiet_nil ?_
      rintro _ ⟨v, rfl⟩
      have Hv := Lib.hid (hbr.trans ((hf1.out v).mono hbr.size))
      clear hfc
      go_wp2
      go_roundw
      case rel => exact ⟨k + 1, by omega, by go_num, Hv.out⟩
      case measure => simp [intOf]; omega
    · go_wp2
      go_ret
      exact ⟨rfl, BW.out⟩
end Go.Proofs.Ytacddgipcafdlaa
