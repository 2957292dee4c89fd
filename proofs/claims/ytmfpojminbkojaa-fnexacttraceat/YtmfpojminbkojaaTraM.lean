/-
  Walks: slices of traces: equality, marks.
-/
import Derived.Test.YtmfpojminbkojaaTraE
import Derived.Test.YtmfpojminbkojaaMarkT
namespace Go.Proofs.Ytmfpojminbkojaa
open Go.RowKit

set_option maxRecDepth 100000 in
set_option maxHeartbeats 1000000 in
theorem eqTraceS_same (A B : Option Addr) (cap cap' : Nat) (zs : List TraV) (w : World) (hz : TrasA w A zs) (hz' : TrasA w B zs) (hl : zs.length ≤ maxLen) :
    Calls Try.prog 30 #[.slice A zs.length cap, .slice B zs.length cap'] w fun e w' => e = .returned (.bool true) ∧ Below w.heap.size w w' := by
  unfold maxLen at hl
  have HZ := Lib.hid hz
  have HZ' := Lib.hid hz'
  clear hz hz'
  go_enter Try.func30, Try.ntmps30
  go_wp2
  go_loopw [5] (fun i wr => ∃ k : Nat, k ≤ zs.length ∧ i = .int .i64 k ∧ Below w.heap.size w wr) (fun i _ => zs.length - (intOf i).toNat)
  case atStart => exact ⟨0, Nat.zero_le _, rfl, Below.refl _ _⟩
  case round =>
    obtain ⟨k, hk, rfl, hbr⟩ := hrel
    by_cases hlt : k < zs.length
    · obtain ⟨b, off, x, rfl, hb, hx, c0, c1⟩ := (HZ.out.below hbr).at_ hlt
      obtain ⟨b', off', x', rfl, hb', hx', d0, d1⟩ := (HZ'.out.below hbr).at_ hlt
      obtain rfl : x' = x := by rw [hx] at hx'; injection hx' with h; exact h.symm
      clear hx hx'
      go_wp2_with fail
      refine wp_region_later (by kernel_rfl) (by kernel_rfl) ?_
      intro f hf1 hf2 hfc
      repeat (go_big_quiet_step ((go_at_call 59; exact calls_later hf1 hf2 (eqTrace_same _ _))))
      refine wpQuiet_nil ?_
      rintro _ ⟨v, rfl⟩
      have Hv := Lib.hid (hbr.trans ((hf1.out v).mono hbr.size))
      clear hfc
      go_wp2
      go_roundw
      case rel => exact ⟨k + 1, by omega, by go_num, Hv.out⟩
      case measure => simp [intOf]; omega
    · go_wp2
      go_ret
      exact ⟨rfl, hbr⟩

def traMk (c : Int) : TraV := ⟨c, markT (c + 1)⟩

end Go.Proofs.Ytmfpojminbkojaa
