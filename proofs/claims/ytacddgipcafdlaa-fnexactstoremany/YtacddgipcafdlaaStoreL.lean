/-
  Walks: the model's table of a store at a stamp.
-/
import Derived.Test.YtacddgipcafdlaaStoreW
import Derived.Test.YtacddgipcafdlaaPutS
namespace Go.Proofs.Ytacddgipcafdlaa
open Go.Shelf Go.RowKit Go.Lib Go.Sort

set_option maxRecDepth 100000 in
set_option maxHeartbeats 4000000 in
theorem l5Live_any (A : Option Addr) (cap : Nat) (zs : List VerV) (m : Int) (w : World) (hz : VersA w A zs) (hl : zs.length ≤ 1048576) :
    Calls Try.prog 71 #[.slice A zs.length cap, .int .i64 m] w (GetsE rowC 4 72 w (liveS zs m)) := by
  have HZ := Lib.hid hz
  clear hz
  go_enter Try.func71, Try.ntmps71
  go_wp2
  go_loopw [5, 6] (fun v i wr => ∃ k : Nat, k ≤ zs.length ∧ i = .int .i64 k ∧ wr.ownsRow w.heap.size 72 4 v (liveS (zs.take k) m).length (flatOf rowC (liveS (zs.take k) m)) ∧ Below w.heap.size w wr) (fun _ i _ => zs.length - (intOf i).toNat)
  case atStart =>
    refine ⟨0, Nat.zero_le _, rfl, ?_, (Below.refl _ _).alloc (Nat.le_refl _) _⟩
    have := World.ownsRow_lit (base := w.heap.size) (e := 72) (size := 4) w #[] 0 (by simp) (by simp [maxLen]) (by simp)
    simpa [flatOf, liveS, liveL] using this
  case round =>
    obtain ⟨k, hk, rfl, hown, hbr⟩ := hrel
    have Hown := Lib.hid hown
    clear hown
    have hlo : (liveS (zs.take k) m).length ≤ 1048576 := by have := liveS_len (zs.take k) m; rw [List.length_take] at this; omega
    by_cases hlt : k < zs.length
    · obtain ⟨b, off, x, rfl, hb, hx, c0, c1, c2, c3, c4, c5⟩ := (HZ.out.below hbr).at_ hlt
      have HT := Lib.hid (liveS_take (s := m) hx)
      obtain ⟨oo, hoo⟩ : ∃ oo, liveS (zs.take k) m = oo := ⟨_, rfl⟩
      rw [hoo] at Hown HT hlo
      clear hx hoo
      have hkz : (k : Int) < (zs.length : Int) := by omega
      have hkz0 : (0 : Int) ≤ (k : Int) := by omega
      have BR := Lib.hid hbr
      clear hbr
      by_cases h1 : x.i ≤ m
      · by_cases h2 : m < x.o
        · rw [if_pos (by simp [liveB, h1, h2])] at HT
          obtain ⟨A', c', hv⟩ := owns_sliceE Hown.out
          subst hv
          go_wp2_with fail
          refine (l2Put_any A' c' oo x.r _ (el_of_owns rowC_len Hown.out) (owns_nilcap Hown.out) (owns_cap Hown.out) (by omega)).mono ?_
          rintro e w2 ⟨A2, c2', rfl, ho2, hb2⟩
          have O2 := Lib.hid (owns_baseE (base' := w.heap.size) ho2 BR.out.size)
          have B2 := Lib.hid (BR.out.trans (hb2.mono BR.out.size))
          clear ho2 hb2 c0 c1 c2 c3 c4 c5
          go_wp2
          go_roundw
          case rel => exact ⟨k + 1, by omega, by go_num, (by rw [HT.out]; exact O2.out), B2.out⟩
          case measure => simp [intOf]; omega
        · rw [if_neg (by simp [liveB]; omega)] at HT
          go_wp2
          go_roundw
          case rel => exact ⟨k + 1, by omega, by go_num, (by rw [HT.out]; exact Hown.out), BR.out⟩
          case measure => simp [intOf]; omega
      · rw [if_neg (by simp [liveB]; omega)] at HT
        go_wp2
        go_roundw
        case rel => exact ⟨k + 1, by omega, by go_num, (by rw [HT.out]; exact Hown.out), BR.out⟩
        case measure => simp [intOf]; omega
    · obtain rfl : k = zs.length := by omega
      rw [List.take_length] at Hown
      obtain ⟨A', c', hv⟩ := owns_sliceE Hown.out
      subst hv
      go_wp2
      go_ret
      exact ⟨A', c', rfl, Hown.out, hbr⟩
end Go.Proofs.Ytacddgipcafdlaa
