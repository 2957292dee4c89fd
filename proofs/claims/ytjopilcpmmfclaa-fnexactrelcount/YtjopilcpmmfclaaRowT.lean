/-
  Walk: a row copied by value.
-/
import Derived.Test.YtjopilcpmmfclaaRowD
import Derived.Test.YtjopilcpmmfclaaMeet
import Derived.Deep.RegionWith
import Derived.Deep.QuietTactic
import Derived.BigQuiet
namespace Go.Proofs.Ytjopilcpmmfclaa
open Go.RowKit

set_option maxHeartbeats 4000000 in
theorem toRow_any (r : RowV) (w : World) :
    Calls Try.prog 53 #[.agg #[.string r.k, .string r.t, .int .i64 r.f, .int .i64 r.e]] w fun e w' => e = .returned (.agg #[.string r.k, .string r.t, .int .i64 r.f, .int .i64 r.e]) ∧ Below w.heap.size w w' := by
  go_enter Try.func53, Try.ntmps53
  go_wp2_with fail
  refine (toSpan_any _ _ _).mono ?_
  rintro e w1 ⟨rfl, hb⟩
  obtain ⟨hc, hf⟩ := bcell hb
  have e0 : w1.cell? ⟨w.heap.size + 1, 0, none⟩ = some (.string ⟨#[]⟩) := (hc _ _ (by simp)).trans (by simp [go_sem])
  have e1 : w1.cell? ⟨w.heap.size + 1, 1, none⟩ = some (.string ⟨#[]⟩) := (hc _ _ (by simp)).trans (by simp [go_sem])
  have e2 : w1.cell? ⟨w.heap.size + 1, 2, none⟩ = some (.int .i64 0) := (hc _ _ (by simp)).trans (by simp [go_sem])
  have e3 : w1.cell? ⟨w.heap.size + 1, 3, none⟩ = some (.int .i64 0) := (hc _ _ (by simp)).trans (by simp [go_sem])
  have f0 : w1.cell? ⟨w.heap.size + 1 + 1, 0, none⟩ = some (.string r.k) := (hc _ _ (by simp)).trans (by simp [go_sem])
  have f1 : w1.cell? ⟨w.heap.size + 1 + 1, 1, none⟩ = some (.string r.t) := (hc _ _ (by simp)).trans (by simp [go_sem])
  have f2 : w1.cell? ⟨w.heap.size + 1 + 1, 2, none⟩ = some (.int .i64 0) := (hc _ _ (by simp)).trans (by simp [go_sem])
  have f3 : w1.cell? ⟨w.heap.size + 1 + 1, 3, none⟩ = some (.int .i64 0) := (hc _ _ (by simp)).trans (by simp [go_sem])
  have g0 : ∀ o, w1.frozen? ⟨w.heap.size + 1, o, none⟩ = false := fun o => (hf _ _ (by simp)).trans (by simp [go_sem])
  have g1 : ∀ o, w1.frozen? ⟨w.heap.size + 1 + 1, o, none⟩ = false := fun o => (hf _ _ (by simp)).trans (by simp [go_sem])
  have HB := Lib.hid (show Below w.heap.size w w1 from ((((Below.refl _ _).alloc (Nat.le_refl _) _).alloc (by simp) _).alloc (by simp; omega) _).trans (hb.mono (by simp; omega)))
  clear hb hc hf
  go_wp2
  refine bodyPost_ret (v := .agg #[.string r.k, .string r.t, .int .i64 r.f, .int .i64 r.e]) (by simp [results, Try.results53, go_sem, e0, e1, e2, e3]) rfl ⟨rfl, ?_⟩
  repeat (first | exact HB.out | refine Below.setCell ?_ (by simp; try omega) _)
end Go.Proofs.Ytjopilcpmmfclaa
