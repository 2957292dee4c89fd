/-
  The walks of FnSetMeet.
-/
import Derived.Test.YtfolppahdmkaoaaCanon
import Derived.Test.YtfolppahdmkaoaaLawHas
namespace Go.Proofs.Ytfolppahdmkaoaa
open Go.RowKit

/-- Two drawn lists of spans. -/
def DrawnSets (w : World) (e : Ending) (w' : World) : Prop :=
  ∃ xs ys g g' c c', e = .returned (.tuple #[.slice (some ⟨g, 0, none⟩) xs.length c, .slice (some ⟨g', 0, none⟩) ys.length c']) ∧ xs.length ≤ 64 ∧ ys.length ≤ 64 ∧
    w'.ownsRow w.heap.size 43 2 (.slice (some ⟨g, 0, none⟩) xs.length c) xs.length (flat xs) ∧ w'.ownsRow w.heap.size 43 2 (.slice (some ⟨g', 0, none⟩) ys.length c') ys.length (flat ys) ∧ Below w.heap.size w w'

set_option maxHeartbeats 1000000 in
theorem vaSpans_same (A B : Option Addr) (cap cap' : Nat) (zs : List (Int × Int)) (w : World) (hz : Spans w A zs) (hz' : Spans w B zs) (hl : zs.length ≤ maxLen) :
    Calls Try.prog 21 #[.slice A zs.length cap, .slice B zs.length cap'] w fun e w' => e = .returned (.bool true) ∧ Below w.heap.size w w' := by
  unfold maxLen at hl
  go_enter Try.func21, Try.ntmps21
  go_wp2
  go_loopw [5] (fun i wr => ∃ k : Nat, k ≤ zs.length ∧ i = .int .i64 k ∧ Below w.heap.size w wr) (fun i _ => zs.length - (intOf i).toNat)
  case atStart => exact ⟨0, Nat.zero_le _, rfl, Below.refl _ _⟩
  case round =>
    obtain ⟨k, hk, rfl, hbr⟩ := hrel
    by_cases hlt : k < zs.length
    · obtain ⟨b, off, rfl, hcells⟩ := hz (by omega)
      obtain ⟨b', off', rfl, hcells'⟩ := hz' (by omega)
      obtain ⟨c0, c1⟩ := hcells k hlt
      obtain ⟨d0, d1⟩ := hcells' k hlt
      obtain ⟨x, hx⟩ : ∃ x, (zs.getD k (0, 0)).1 = x := ⟨_, rfl⟩
      obtain ⟨y, hy⟩ : ∃ x, (zs.getD k (0, 0)).2 = x := ⟨_, rfl⟩
      rw [hx] at c0 d0
      rw [hy] at c1 d1
      have c0r : wr.cell? ⟨b, off + k * 2, none⟩ = some (.int .i64 x) := cell_below hbr (World.block_lt_of_cell? _ _ c0) c0
      have c1r : wr.cell? ⟨b, off + k * 2 + 1, none⟩ = some (.int .i64 y) := cell_below hbr (World.block_lt_of_cell? _ _ c1) c1
      have d0r : wr.cell? ⟨b', off' + k * 2, none⟩ = some (.int .i64 x) := cell_below hbr (World.block_lt_of_cell? _ _ d0) d0
      have d1r : wr.cell? ⟨b', off' + k * 2 + 1, none⟩ = some (.int .i64 y) := cell_below hbr (World.block_lt_of_cell? _ _ d1) d1
      clear hcells hcells' c0 c1 d0 d1 hx hy
      go_wp2_with fail
      go_quiet (fail)
      go_wp2
      go_roundw
      case rel => exact ⟨k + 1, by omega, by go_num, below_drewN hbr _⟩
      case measure => simp [intOf]; omega
    · go_wp2
      go_ret
      exact ⟨rfl, hbr⟩

end Go.Proofs.Ytfolppahdmkaoaa
