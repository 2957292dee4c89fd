/-
  Walks: the drawings of a store and a stamp that go by another's (P59, P60).
-/
import Derived.Test.YtacddgipcafdlaaDrawSd
namespace Go.Proofs.Ytacddgipcafdlaa
open Go.Shelf Go.RowKit Go.Lib Go.Sort

set_option maxRecDepth 100000 in
set_option maxHeartbeats 4000000 in
theorem DrawStoreBack_any (A : Option Addr) (cap : Nat) (bs : List Int) (w : World) (h : Bytes w w.heap.size A bs) (hc : bs.length ≤ cap) (hm : cap ≤ maxLen) :
    Calls Try.prog 56 #[.slice A bs.length cap] w (DrawnStoI w) := by
  go_enter Try.func56, Try.ntmps56
  go_wp2_with fail
  generalize hW : w.alloc _ = W0
  have r0 : W0.cell? ⟨w.heap.size, 0, none⟩ = some (.int .i64 0) := by rw [← hW]; simp [go_sem]
  have r1 : W0.cell? ⟨w.heap.size, 1, none⟩ = some (.slice none 0 0) := by rw [← hW]; simp [go_sem]
  have rf : ∀ o, W0.frozen? ⟨w.heap.size, o, none⟩ = false := fun o => by rw [← hW]; simp [go_sem]
  have ls : W0.heap.size = w.heap.size + 1 := by rw [← hW]; simp
  have hb0 : Below w.heap.size w W0 := by rw [← hW]; exact (Below.refl _ _).alloc (Nat.le_refl _) _
  clear hW
  refine (DrawStoreAt_any A cap bs W0 (bytes_below h hb0 (by omega)) hc hm).mono ?_
  rintro e w1 ⟨zs, now, A2, c2, v, rfl, hv, hzl, hsh, hnow, ho, hb1⟩
  replace r0 := cellBelow hb1 (by omega) r0
  replace r1 := cellBelow hb1 (by omega) r1
  replace rf : ∀ o, w1.frozen? ⟨w.heap.size, o, none⟩ = false := fun o => (hb1.frozen (p := ⟨w.heap.size, o, none⟩) (by show w.heap.size < _; omega)).trans (rf o)
  have B2 := Lib.hid (hb0.trans (hb1.mono (by omega)))
  have HS := Lib.hid hsh
  have O2 := Lib.hid (ownsBase (base' := w.heap.size + 1) ho (by omega))
  have zw : w.heap.size < w1.heap.size := by have := hb1.size; omega
  clear hsh ho hb0 hb1 h
  go_wp2
  refine bodyPost_ret (v := .tuple #[.agg #[.int .i64 now, .slice A2 zs.length c2], .int .i64 v]) (by simp [results, Try.results56, go_sem, r0, r1]) rfl ?_
  exact ⟨zs, now, A2, c2, v, rfl, hv, hzl, HS.out, hnow, ownsBase (base := w.heap.size + 1) (owns_set_farV (owns_set_farV O2.out (by omega)) (by omega)) (by omega), (B2.out.setCell (Nat.le_refl _) _).setCell (Nat.le_refl _) _⟩

set_option maxRecDepth 100000 in
set_option maxHeartbeats 4000000 in
theorem DrawStorePrune_any (A : Option Addr) (cap : Nat) (bs : List Int) (w : World) (h : Bytes w w.heap.size A bs) (hc : bs.length ≤ cap) (hm : cap ≤ maxLen) :
    Calls Try.prog 60 #[.slice A bs.length cap] w (DrawnStoI w) := by
  go_enter Try.func60, Try.ntmps60
  go_wp2_with fail
  generalize hW : w.alloc _ = W0
  have r0 : W0.cell? ⟨w.heap.size, 0, none⟩ = some (.int .i64 0) := by rw [← hW]; simp [go_sem]
  have r1 : W0.cell? ⟨w.heap.size, 1, none⟩ = some (.slice none 0 0) := by rw [← hW]; simp [go_sem]
  have rf : ∀ o, W0.frozen? ⟨w.heap.size, o, none⟩ = false := fun o => by rw [← hW]; simp [go_sem]
  have ls : W0.heap.size = w.heap.size + 1 := by rw [← hW]; simp
  have hb0 : Below w.heap.size w W0 := by rw [← hW]; exact (Below.refl _ _).alloc (Nat.le_refl _) _
  clear hW
  refine (DrawStoreAt_any A cap bs W0 (bytes_below h hb0 (by omega)) hc hm).mono ?_
  rintro e w1 ⟨zs, now, A2, c2, v, rfl, hv, hzl, hsh, hnow, ho, hb1⟩
  replace r0 := cellBelow hb1 (by omega) r0
  replace r1 := cellBelow hb1 (by omega) r1
  replace rf : ∀ o, w1.frozen? ⟨w.heap.size, o, none⟩ = false := fun o => (hb1.frozen (p := ⟨w.heap.size, o, none⟩) (by show w.heap.size < _; omega)).trans (rf o)
  have B2 := Lib.hid (hb0.trans (hb1.mono (by omega)))
  have HS := Lib.hid hsh
  have O2 := Lib.hid (ownsBase (base' := w.heap.size + 1) ho (by omega))
  have zw : w.heap.size < w1.heap.size := by have := hb1.size; omega
  clear hsh ho hb0 hb1 h
  go_wp2
  refine bodyPost_ret (v := .tuple #[.agg #[.int .i64 now, .slice A2 zs.length c2], .int .i64 v]) (by simp [results, Try.results60, go_sem, r0, r1]) rfl ?_
  exact ⟨zs, now, A2, c2, v, rfl, hv, hzl, HS.out, hnow, ownsBase (base := w.heap.size + 1) (owns_set_farV (owns_set_farV O2.out (by omega)) (by omega)) (by omega), (B2.out.setCell (Nat.le_refl _) _).setCell (Nat.le_refl _) _⟩
end Go.Proofs.Ytacddgipcafdlaa
