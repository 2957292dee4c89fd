/-
  The walk of the exact law of StandOf.
-/
import Derived.Test.YtmfpojminbkojaaStandS
import Derived.Test.YtmfpojminbkojaaMeet
namespace Go.Proofs.Ytmfpojminbkojaa
open Go.RowKit

theorem StandOf_val (a b c d : Int) (w : World) (v : Int) (h : standL a b c d = v) :
    Calls Try.prog 14 #[.agg #[.int .i64 a, .int .i64 b], .agg #[.int .i64 c, .int .i64 d]] w fun e w' => e = .returned (.int .i64 v) ∧ Below w.heap.size w w' := by
  subst h; exact StandOf_any a b c d w
theorem sStandOf_val (a b c d : Int) (w : World) (v : Int) (h : standL a b c d = v) :
    Calls Try.prog 12 #[.agg #[.int .i64 a, .int .i64 b], .agg #[.int .i64 c, .int .i64 d]] w fun e w' => e = .returned (.int .i64 v) ∧ Below w.heap.size w w' := by
  subst h; exact sStandOf_any a b c d w

set_option maxRecDepth 10000 in
set_option maxHeartbeats 2000000 in
theorem FnExactStandOf_any (a b c d : Int) (w : World) :
    Calls Try.prog 3 #[.agg #[.int .i64 a, .int .i64 b], .agg #[.int .i64 c, .int .i64 d]] w fun e w' => e = .returned (.bool true) ∧ Below w.heap.size w w' := by
  obtain ⟨v, hv⟩ : ∃ v, standL a b c d = v := ⟨_, rfl⟩
  have Hv := Lib.hid hv
  clear hv
  go_enter Try.func3, Try.ntmps3
  go_upto_region 1 with fail
  generalize hW : (w.alloc _).alloc _ = W0
  have q0 : W0.cell? ⟨w.heap.size, 0, none⟩ = some (.int .i64 a) := by rw [← hW]; simp [go_sem]
  have q1 : W0.cell? ⟨w.heap.size, 1, none⟩ = some (.int .i64 b) := by rw [← hW]; simp [go_sem]
  have q2 : W0.cell? ⟨w.heap.size + 1, 0, none⟩ = some (.int .i64 c) := by rw [← hW]; simp [go_sem]
  have q3 : W0.cell? ⟨w.heap.size + 1, 1, none⟩ = some (.int .i64 d) := by rw [← hW]; simp [go_sem]
  have hz : w.heap.size + 1 < W0.heap.size := by rw [← hW]; simp
  have hz' : w.heap.size < W0.heap.size := by omega
  have HB := Lib.hid (show Below w.heap.size w W0 from by rw [← hW]; exact ((Below.refl _ _).alloc (Nat.le_refl _) _).alloc (by simp) _)
  clear hW
  refine wp_region_later (by kernel_rfl) (by kernel_rfl) ?_
  intro f hf1 hf2 hfc
  repeat (go_big_quiet_step (first | (go_at_call 13; exact calls_later hf1 hf2 (toSpan_any _ _ _)) | (go_at_call 12; exact calls_later hf1 hf2 (sStandOf_val _ _ _ _ _ _ Hv.out))))
  refine wpQuiet_nil ?_
  rintro _ ⟨v1, rfl⟩
  have hb := hf1.out v1
  replace q0 := cell_below hb hz' q0
  replace q1 := cell_below hb hz' q1
  replace q2 := cell_below hb hz q2
  replace q3 := cell_below hb hz q3
  replace hz := Nat.lt_of_lt_of_le hz hb.size
  replace hz' := Nat.lt_of_lt_of_le hz' hb.size
  have HB1 := Lib.hid (HB.out.trans (hb.mono HB.out.size))
  clear hf1 hf2 hfc hb HB
  generalize f v1 = W1 at *
  go_upto_region 2 with fail
  refine wp_region_later (by kernel_rfl) (by kernel_rfl) ?_
  intro f hf1 hf2 hfc
  repeat (go_big_quiet_step (first | (go_at_call 13; exact calls_later hf1 hf2 (toSpan_any _ _ _)) | (go_at_call 14; exact calls_later hf1 hf2 (StandOf_val _ _ _ _ _ _ Hv.out))))
  refine wpQuiet_nil ?_
  rintro _ ⟨v2, rfl⟩
  have HB2 := Lib.hid (HB1.out.trans ((hf1.out v2).mono HB1.out.size))
  clear hf1 hf2 hfc
  go_wp2
  go_ret
  exact ⟨rfl, HB2.out⟩
end Go.Proofs.Ytmfpojminbkojaa
