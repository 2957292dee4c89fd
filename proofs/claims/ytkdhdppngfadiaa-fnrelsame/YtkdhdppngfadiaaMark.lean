/-
  Walks: marks written into a row of spans, and read again.
-/
import Derived.Test.YtkdhdppngfadiaaSets
import Derived.Test.YtkdhdppngfadiaaAdd
namespace Go.Proofs.Ytkdhdppngfadiaa
open Go.RowKit

def markL (k0 : Int) (n : Nat) : List (Int × Int) := (List.range n).map fun j : Nat => (k0 + 2 * (j : Int), k0 + 2 * (j : Int) + 1)
def markTo (zs : List (Int × Int)) (k0 : Int) (i : Nat) : List (Int × Int) := markL k0 i ++ zs.drop i
theorem markL_length (k0 : Int) (n : Nat) : (markL k0 n).length = n := by simp [markL]
theorem markL_get (k0 : Int) (n j : Nat) (h : j < n) : (markL k0 n).getD j (0, 0) = (k0 + 2 * (j : Int), k0 + 2 * (j : Int) + 1) := by simp [markL, h]
theorem markTo_zero (zs : List (Int × Int)) (k0 : Int) : markTo zs k0 0 = zs := by simp [markTo, markL]
theorem markTo_all (zs : List (Int × Int)) (k0 : Int) : markTo zs k0 zs.length = markL k0 zs.length := by simp [markTo]
theorem markTo_length (zs : List (Int × Int)) (k0 : Int) (i : Nat) (h : i ≤ zs.length) : (markTo zs k0 i).length = zs.length := by simp [markTo, markL]; omega
theorem markTo_set (zs : List (Int × Int)) (k0 : Int) (i : Nat) (h : i < zs.length) : (markTo zs k0 i).set i (k0 + 2 * (i : Int), k0 + 2 * (i : Int) + 1) = markTo zs k0 (i + 1) := by
  unfold markTo
  rw [List.set_append_right _ _ (by rw [markL_length]; omega), markL_length, Nat.sub_self, List.drop_eq_getElem_cons h, List.set_cons_zero]
  simp [markL, List.range_succ]

set_option maxRecDepth 100000 in
set_option maxHeartbeats 2000000 in
theorem mark_some (g cap base : Nat) (zs : List (Int × Int)) (k0 : Int) (w : World) (h : w.ownsRow base 42 2 (.slice (some ⟨g, 0, none⟩) zs.length cap) zs.length (flat zs)) (hk : 0 ≤ k0) (hk' : k0 ≤ 1000000000) (hl : zs.length ≤ 4194304) :
    Calls Try.prog 32 #[.slice (some ⟨g, 0, none⟩) zs.length cap, .int .i64 k0] w fun e w' => e = .returned (.int .i64 (k0 + 2 * zs.length)) ∧ w'.ownsRow base 42 2 (.slice (some ⟨g, 0, none⟩) zs.length cap) zs.length (flat (markL k0 zs.length)) ∧ w.grownBy w' (some g) := by
  have H := Lib.hid h
  clear h
  go_enter Try.func32, Try.ntmps32
  go_wp2
  go_loopw [1, 5] (fun kv i wr => ∃ j : Nat, j ≤ zs.length ∧ i = .int .i64 j ∧ kv = .int .i64 (k0 + 2 * (j : Int)) ∧ wr.ownsRow base 42 2 (.slice (some ⟨g, 0, none⟩) zs.length cap) zs.length (flat (markTo zs k0 j)) ∧ w.grownBy wr (some g)) (fun _ i _ => zs.length - (intOf i).toNat)
  case atStart => exact ⟨0, Nat.zero_le _, rfl, by simp, by rw [markTo_zero]; exact H.out, grown_refl w (some g)⟩
  case round =>
    obtain ⟨j, hj, rfl, rfl, hown, hgr⟩ := hrel
    have Hown := Lib.hid hown
    have Hgr := Lib.hid hgr
    by_cases hlt : j < zs.length
    · have hd : (markTo zs k0 j).length = zs.length := markTo_length zs k0 j hj
      have e0 : wr.cell? ⟨g, j * 2, none⟩ = some (.int .i64 ((markTo zs k0 j).getD j (0, 0)).1) := by
        rw [hown.cellAt (j * 2) (by omega), flat_get0 _ _ (by omega)]
      have e1 : wr.cell? ⟨g, j * 2 + 1, none⟩ = some (.int .i64 ((markTo zs k0 j).getD j (0, 0)).2) := by
        rw [hown.cellAt (j * 2 + 1) (by omega), flat_get1 _ _ (by omega)]
      generalize ((markTo zs k0 j).getD j (0, 0)).1 = u0 at e0
      generalize ((markTo zs k0 j).getD j (0, 0)).2 = u1 at e1
      have f0 := hown.frozenAt (j * 2)
      have f1 := hown.frozenAt (j * 2 + 1)
      have s0 := hown.stored (j * 2) (.int .i64 (k0 + 2 * (j : Int)))
      have s1 := s0.1.stored (j * 2 + 1) (.int .i64 (k0 + 2 * (j : Int) + 1))
      rw [flat_set, markTo_set zs k0 j hlt] at s1
      have HS := Lib.hid s1.1
      have HG := Lib.hid (grown_trans (grown_trans hgr s0.2) s1.2)
      clear s0 s1 hown hgr hd
      go_wp2
      go_roundw
      case rel => exact ⟨j + 1, by omega, by go_num, by go_num, HS.out, HG.out⟩
      case measure => simp [intOf]; omega
    · clear hown hgr
      obtain rfl : j = zs.length := by omega
      go_wp2
      go_ret
      have := Hown.out
      rw [markTo_all] at this
      exact ⟨rfl, this, Hgr.out⟩

set_option maxHeartbeats 1000000 in
theorem mark_nil (k0 : Int) (w : World) : Calls Try.prog 32 #[.slice none 0 0, .int .i64 k0] w fun e w' => e = .returned (.int .i64 k0) ∧ w' = w := by
  go_enter Try.func32, Try.ntmps32
  go_wp2
  go_loopw [1, 5] (fun kv i wr => i = .int .i64 0 ∧ kv = .int .i64 k0 ∧ wr = w) (fun _ i _ => 0)
  case atStart => exact ⟨rfl, rfl, rfl⟩
  case round =>
    obtain ⟨rfl, rfl, rfl⟩ := hrel
    go_wp2
    go_ret
    exact ⟨rfl, rfl⟩

/-- Marks in whatever row is one's own. -/
theorem mark_any (base : Nat) (v : Value) (zs : List (Int × Int)) (k0 : Int) (w : World) (h : w.ownsRow base 42 2 v zs.length (flat zs)) (hk : 0 ≤ k0) (hk' : k0 ≤ 1000000000) (hl : zs.length ≤ 4194304) :
    Calls Try.prog 32 #[v, .int .i64 k0] w fun e w' => e = .returned (.int .i64 (k0 + 2 * zs.length)) ∧ w'.ownsRow base 42 2 v zs.length (flat (markL k0 zs.length)) ∧ w.grownBy w' v.ownBlock := by
  rcases h.2 with ⟨rfl, h0⟩ | ⟨g, c, cur, rfl, _⟩
  · have hz : zs.length = 0 := by
      have := flat_length zs
      have h1 := h.1
      simp_all
    obtain rfl : zs = [] := List.length_eq_zero_iff.1 hz
    exact (mark_nil k0 w).mono fun e w' ⟨h1, h2⟩ => by subst h2; exact ⟨by simpa using h1, h, grown_refl _ _⟩
  · exact mark_some g c base zs k0 w h hk hk' hl

set_option maxRecDepth 100000 in
set_option maxHeartbeats 2000000 in
theorem held_any (A : Option Addr) (n cap : Nat) (k0 : Int) (w : World) (hz : Spans w A (markL k0 n)) (hk : 0 ≤ k0) (hk' : k0 ≤ 1000000000) (hl : n ≤ 4194304) :
    Calls Try.prog 33 #[.slice A n cap, .int .i64 k0] w fun e w' => e = .returned (.int .i64 (k0 + 2 * n)) ∧ w' = w := by
  have HZ := Lib.hid hz
  clear hz
  go_enter Try.func33, Try.ntmps33
  go_wp2
  go_loopw [1, 5] (fun kv i wr => ∃ j : Nat, j ≤ n ∧ i = .int .i64 j ∧ kv = .int .i64 (k0 + 2 * (j : Int)) ∧ wr = w) (fun _ i _ => n - (intOf i).toNat)
  case atStart => exact ⟨0, Nat.zero_le _, rfl, by simp, rfl⟩
  case round =>
    obtain ⟨j, hj, rfl, rfl, rfl⟩ := hrel
    by_cases hlt : j < n
    · obtain ⟨b, off, rfl, hcells⟩ := HZ.out (by rw [markL_length]; omega)
      obtain ⟨c0, c1⟩ := hcells j (by rw [markL_length]; omega)
      rw [markL_get k0 n j hlt] at c0 c1
      clear hcells
      simp only [] at c0 c1
      go_wp2
      go_roundw
      case rel => exact ⟨j + 1, by omega, by go_num, by go_num, by trivial⟩
      case measure => simp [intOf]; omega
    · obtain rfl : j = n := by omega
      go_wp2
      go_ret
      exact ⟨rfl, rfl⟩
end Go.Proofs.Ytkdhdppngfadiaa
