/-
  Walks: what is drawn of a code: numbers and spans.
-/
import Derived.Test.YtjopilcpmmfclaaRows
import Derived.Test.YtjopilcpmmfclaaRd
import Derived.WalkSpells
import Derived.WalkLawsBesides
import Derived.Deep.QuietTactic
import Derived.BigQuiet
import Derived.Lib.Hide
namespace Go.Proofs.Ytjopilcpmmfclaa
open Go.RowKit

/-- A number from 0 to n-1, and the reader one further. -/
def Picked (w : World) (R : Nat) (zs : List Int) (p n : Int) (e : Ending) (w' : World) : Prop :=
  ∃ v, e = .returned (.int .i64 v) ∧ 0 ≤ v ∧ v < n ∧ Rd w' R zs (p + 1) ∧ w.grownBy w' (some R)

theorem rd_step {w : World} {R : Nat} {zs : List Int} {p : Int} (h : Rd w R zs p) (k : Nat) : Rd ((w.setCell ⟨R, 1, none⟩ (.int .i64 (p + 1))).drewN k) R zs (p + 1) := by
  obtain ⟨A, cap, h0, h1, h2, h3, h4, h5⟩ := h
  refine ⟨A, cap, ?_, ?_, ?_, h3, h4, fun hn => ?_⟩
  · exact (World.cell?_setCell_other w ⟨R, 1, none⟩ ⟨R, 0, none⟩ _ (by simp)).trans h0
  · exact World.cell?_setCell_same' w ⟨R, 1, none⟩ _ (by rw [h1]; rfl)
  · exact (World.frozen?_setCell _ _ _ _).trans h2
  · obtain ⟨b, off, e, hlt, hc⟩ := h5 hn
    exact ⟨b, off, e, hlt, fun i hi => (World.cell?_setCell_other w ⟨R, 1, none⟩ ⟨b, off + i, none⟩ _ (by intro e; injection e with e; omega)).trans (hc i hi)⟩

theorem getD_mem {zs : List Int} {k : Nat} (h : k < zs.length) : zs.getD k 0 ∈ zs := by
  rw [show zs.getD k 0 = zs[k] from by simp [h]]; exact List.getElem_mem h

set_option maxHeartbeats 1000000 in
theorem pick_any (R : Nat) (zs : List Int) (p n : Int) (w : World) (h : Rd w R zs p) (hp0 : 0 ≤ p) (hp1 : p ≤ 1000000) (hn0 : 1 ≤ n) (hn1 : n ≤ 1000) :
    Calls Try.prog 109 #[.pointer (some ⟨R, 0, none⟩), .int .i64 n] w (Picked w R zs p n) := by
  have Hrd := Lib.hid h
  obtain ⟨A, cap, h0, h1, h2, h3, h4, h5⟩ := h
  have H4 := Lib.hid h4
  have H5 := Lib.hid h5
  clear h4 h5
  obtain ⟨k, rfl⟩ := Int.eq_ofNat_of_zero_le hp0
  by_cases hz : zs.length = 0
  · have hzb : ((zs.length : Int) == 0) = true := by simp [hz]
    have Hz := Lib.hid hz
    clear hz
    go_enter Try.func109, Try.ntmps109
    go_wp2
    go_ret
    exact ⟨0, rfl, by omega, by omega, rd_step Hrd.out 0, grown_set _⟩
  · obtain ⟨b, off, rfl, hbR, hcells⟩ := H5.out (by omega)
    have hzb : ((zs.length : Int) == 0) = false := by rw [beq_eq_false_iff_ne]; omega
    have hne : b ≠ R := by omega
    have hcells' : ∀ i, i < zs.length → (w.setCell ⟨R, 1, none⟩ (.int .i64 ((k : Int) + 1))).cell? ⟨b, off + i, none⟩ = some (.int .u8 (zs.getD i 0)) := fun i hi =>
      (World.cell?_setCell_other w ⟨R, 1, none⟩ ⟨b, off + i, none⟩ _ (by intro e; have := congrArg Addr.block e; simp at this; omega)).trans (hcells i hi)
    by_cases hk : k < zs.length
    · have hc := hcells' k hk
      have hzb := H4.out (zs.getD k 0) (getD_mem hk)
      generalize zs.getD k 0 = z at *
      obtain ⟨z0, z1⟩ := hzb
      clear hcells hcells'
      go_enter Try.func109, Try.ntmps109
      go_wp2
      go_ret
      exact ⟨z % n, rfl, Int.emod_nonneg _ (by omega), Int.emod_lt_of_pos _ (by omega), rd_step Hrd.out 0, grown_set _⟩
    · have hl0 : (0 : Int) < (zs.length : Int) := by omega
      have hc1 := hcells' (k % zs.length) (Nat.mod_lt _ (by omega))
      have hc2 := hcells' ((k * 7 + 3) % zs.length) (Nat.mod_lt _ (by omega))
      have hzb1 := H4.out _ (getD_mem (Nat.mod_lt k (show 0 < zs.length by omega)))
      have hzb2 := H4.out _ (getD_mem (Nat.mod_lt (k * 7 + 3) (show 0 < zs.length by omega)))
      generalize zs.getD (k % zs.length) 0 = z at *
      generalize zs.getD ((k * 7 + 3) % zs.length) 0 = y at *
      obtain ⟨z0, z1⟩ := hzb1
      obtain ⟨y0, y1⟩ := hzb2
      have e1 : ((k : Int) % (zs.length : Int)).toNat = k % zs.length := by omega
      have e1a : 0 ≤ (k : Int) % (zs.length : Int) := Int.emod_nonneg _ (by omega)
      have e1b : (k : Int) % (zs.length : Int) < (zs.length : Int) := Int.emod_lt_of_pos _ hl0
      have e2 : (((k : Int) * 7 + 3) % (zs.length : Int)).toNat = (k * 7 + 3) % zs.length := by rw [show ((k : Int) * 7 + 3) = ((k * 7 + 3 : Nat) : Int) from by omega, ← Int.natCast_emod, Int.toNat_natCast]
      have e2a : 0 ≤ ((k : Int) * 7 + 3) % (zs.length : Int) := Int.emod_nonneg _ (by omega)
      have e2b : ((k : Int) * 7 + 3) % (zs.length : Int) < (zs.length : Int) := Int.emod_lt_of_pos _ hl0
      clear hcells hcells'
      go_enter Try.func109, Try.ntmps109
      go_wp2_with fail
      obtain ⟨X, hX, X0, X1⟩ := pick_x z y k zs.length z0 z1 y0 y1 hp0 hp1 hl0
      have HX := Lib.hid hX
      clear hX
      go_quiet (fail)
      go_wp2
      go_ret
      refine ⟨_, rfl, ?_, ?_, rd_step Hrd.out _, grown_drewN (grown_set _) _⟩
      · rw [HX.out]; exact (pick_v X n X0 X1 hn0).1
      · rw [HX.out]; exact (pick_v X n X0 X1 hn0).2
end Go.Proofs.Ytjopilcpmmfclaa
