/-
  Plain: a number in figures. Walk: the model's.
-/
import Derived.Test.YtmfpojminbkojaaRowW
import Derived.Lib.SlBytesRow
import Derived.Deep.RegionWith
namespace Go.Proofs.Ytmfpojminbkojaa
open Go.RowKit Go.Lib

/-- A figure. -/
def digB (n : Nat) : ByteArray := ⟨#[UInt8.ofNat (48 + n)]⟩
/-- A number's figures, for numbers below ten to the k + 1. -/
def decL : Nat → Nat → ByteArray
  | 0, n => digB n
  | k + 1, n => if n < 10 then digB n else decL k (n / 10) ++ digB (n % 10)
theorem decL_size : ∀ k n, (decL k n).size ≤ k + 1
  | 0, n => Nat.le_refl 1
  | k + 1, n => by
    rw [decL]
    split
    · exact Nat.succ_le_succ (Nat.zero_le _)
    · have := decL_size k (n / 10)
      rw [ByteArray.size_append]
      show (decL k (n / 10)).size + 1 ≤ _
      omega
theorem digit_conv (W : World) (b n : Nat) (hn : n < 10) (hc : W.cell? ⟨b, 0, none⟩ = some (.int .u8 (48 + (n : Int)))) :
    (convert 48 9 (.slice (some ⟨b, 0, none⟩) 1 1)).run Try.prog W = .ok (.string (digB n)) W := by
  have h := Go.Lib.run_convert_whole (P := Try.prog) W 48 5 9 Try.underlying48 Try.underlying5 Try.underlying9 b 0 (digB n) (fun i hi => by
    obtain rfl : i = 0 := by
      have : i < 1 := hi
      omega
    have e : ((UInt8.ofNat (48 + n)).toNat : Int) = 48 + (n : Int) := by
      have : (UInt8.ofNat (48 + n)).toNat = (48 + n) % 256 := rfl
      rw [this]
      omega
    show W.cell? _ = some (.int .u8 ((UInt8.ofNat (48 + n)).toNat : Int))
    rw [e]
    exact hc) 1
  exact h

set_option maxRecDepth 100000 in
set_option maxHeartbeats 4000000 in
theorem l1Dec_small (n : Nat) (w : World) (h : n < 10) :
    Calls Try.prog 105 #[.int .i64 n] w fun e w' => e = .returned (.string (digB n)) ∧ Below w.heap.size w w' := by
  have kc := digit_conv (w.alloc (.cells #[.int .u8 (48 + (n : Int))] 5)) w.heap.size n h (by simp)
  go_enter Try.func105, Try.ntmps105
  go_wp2
  go_ret
  exact ⟨rfl, (Below.refl _ _).alloc (Nat.le_refl _) _⟩

set_option maxRecDepth 100000 in
set_option maxHeartbeats 4000000 in
theorem l1Dec_big (n q d : Nat) (s : ByteArray) (w : World) (h : n = 10 * q + d) (hd : d < 10) (hq1 : 1 ≤ q) (hq2 : q ≤ 100) (hs : s.size ≤ 10) (hr : ∀ W : World, Calls Try.prog 105 #[.int .i64 (q : Int)] W fun e w' => e = .returned (.string s) ∧ Below W.heap.size W w') :
    Calls Try.prog 105 #[.int .i64 n] w fun e w' => e = .returned (.string (s ++ digB d)) ∧ Below w.heap.size w w' := by
  have kc := fun (W : World) (b : Nat) => digit_conv W b d hd
  have HR := Lib.hid hr
  have hA : (10 : Int) ≤ (n : Int) := by omega
  have t1 : Int.tdiv (n : Int) 10 = (q : Int) := by rw [Int.tdiv_eq_ediv_of_nonneg (by omega)]; omega
  have t2 : Int.tmod (n : Int) 10 = (d : Int) := by rw [Int.tmod_eq_emod_of_nonneg (by omega)]; omega
  have t3 : (n : Int) / 10 = (q : Int) := by omega
  have t4 : (n : Int) % 10 = (d : Int) := by omega
  have t5 : IntKind.i64.wrap (q : Int) = (q : Int) := by rw [IntKind.wrap_i64]; omega
  have t6 : IntKind.i64.wrap (d : Int) = (d : Int) := by rw [IntKind.wrap_i64]; omega
  have t7 : IntKind.i64.wrap (48 + (d : Int)) = 48 + (d : Int) := by rw [IntKind.wrap_i64]; omega
  have t8 : IntKind.u8.wrap (48 + (d : Int)) = 48 + (d : Int) := by rw [IntKind.wrap_u8]; omega
  have t9 : (digB d).size = 1 := rfl
  have t10 : (s ++ digB d).size = s.size + 1 := by rw [ByteArray.size_append]; rfl
  have H := Lib.hid h
  clear hr h
  go_enter Try.func105, Try.ntmps105
  go_upto_region 7 with fail
  go_region_with (first
    | (go_at_call 105; (with_reducible refine (HR.out _).mono ?_); rintro e w1 ⟨rfl, hb⟩; have hsz : w.heap.size ≤ w1.heap.size := (by have := hb.size; first | omega | (simp at this; omega)); obtain ⟨hc, hf, hlb⟩ := bcell3 hb))
  all_goals go_wp2
  all_goals go_ret
  all_goals
    refine ⟨rfl, ?_⟩
    repeat (first | with_reducible exact Below.refl _ _ | with_reducible refine Below.drew ?_ | with_reducible refine Below.trans ?_ (hb.mono (by first | omega | (simp; done) | (simp; omega))) | with_reducible refine Below.alloc ?_ (by first | omega | (simp; done) | (simp; omega)) _)

theorem l1Dec_any : ∀ (k n : Nat) (w : World), k ≤ 2 → n < 10 ^ (k + 1) → Calls Try.prog 105 #[.int .i64 n] w fun e w' => e = .returned (.string (decL k n)) ∧ Below w.heap.size w w'
  | 0, n, w, _, h => l1Dec_small n w (by omega)
  | k + 1, n, w, hk, h => by
    rw [decL]
    by_cases h10 : n < 10
    · rw [if_pos h10]; exact l1Dec_small n w h10
    · rw [if_neg h10]
      have hp : (10 : Nat) ^ (k + 1 + 1) = 10 * 10 ^ (k + 1) := by rw [Nat.pow_succ, Nat.mul_comm]
      have hq : n / 10 < 10 ^ (k + 1) := by omega
      have hk10 : (10 : Nat) ^ (k + 1) ≤ 100 := by
        have : k = 0 ∨ k = 1 := by omega
        rcases this with rfl | rfl <;> omega
      have := decL_size k (n / 10)
      exact l1Dec_big n (n / 10) (n % 10) (decL k (n / 10)) w (by omega) (by omega) (by omega) (by omega) (by omega) (fun W => l1Dec_any k (n / 10) W (by omega) hq)
end Go.Proofs.Ytmfpojminbkojaa
