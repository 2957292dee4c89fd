/-
  Walks: two drawn spans, the second with a bound of the first.
-/
import Derived.Test.YtmfpojminbkojaaDrawC
namespace Go.Proofs.Ytmfpojminbkojaa
open Go.RowKit

def DrawnStand (w : World) (e : Ending) (w' : World) : Prop :=
  ∃ a b c d, e = .returned (.tuple #[.agg #[.int .i64 a, .int .i64 b], .agg #[.int .i64 c, .int .i64 d]]) ∧ Below w.heap.size w w'

set_option maxRecDepth 10000 in
set_option maxHeartbeats 4000000 in
theorem DrawStandOf_any (A : Option Addr) (cap : Nat) (zs : List Int) (w : World) (h : Bytes w w.heap.size A zs) (hc : zs.length ≤ cap) (hm : cap ≤ maxLen) :
    Calls Try.prog 31 #[.slice A zs.length cap] w (DrawnStand w) := by
  have hb0 : Below w.heap.size w ((w.alloc (Obj.cells #[Value.int IntKind.i64 0, Value.int IntKind.i64 0] 25)).alloc (Obj.cells #[Value.int IntKind.i64 0, Value.int IntKind.i64 0] 25)) :=
    ((Below.refl _ _).alloc (Nat.le_refl _) _).alloc (by simp) _
  go_enter Try.func31, Try.ntmps31
  go_wp2_with fail
  refine (l20Open_any A cap zs _ (bytes_below h hb0 (by simp; omega)) hc hm).mono ?_
  rintro e w1 ⟨bs, rfl, hrd1, hb1⟩
  simp only [World.size_alloc] at hrd1 hb1
  have r0 : w1.cell? ⟨w.heap.size, 0, none⟩ = some (.int .i64 0) := cell_below hb1 (by omega) (by simp)
  have r1 : w1.cell? ⟨w.heap.size, 1, none⟩ = some (.int .i64 0) := cell_below hb1 (by omega) (by simp)
  have r2 : w1.cell? ⟨w.heap.size + 1, 0, none⟩ = some (.int .i64 0) := cell_below hb1 (by omega) (by simp)
  have r3 : w1.cell? ⟨w.heap.size + 1, 1, none⟩ = some (.int .i64 0) := cell_below hb1 (by omega) (by simp)
  have s0 : ∀ o, w1.frozen? ⟨w.heap.size, o, none⟩ = false := fun o => (hb1.frozen (p := ⟨w.heap.size, o, none⟩) (by show w.heap.size < _; omega)).trans (by simp)
  have s2 : ∀ o, w1.frozen? ⟨w.heap.size + 1, o, none⟩ = false := fun o => (hb1.frozen (p := ⟨w.heap.size + 1, o, none⟩) (by show w.heap.size + 1 < _; omega)).trans (by simp)
  have hB1 : Below w.heap.size w w1 := hb0.trans (hb1.mono (by omega))
  have hl1 := hrd1.lt
  clear hb0 hb1 h
  go_wp2_with fail
  obtain ⟨RD, hRD⟩ : ∃ R, w.heap.size + 1 + 1 = R := ⟨_, rfl⟩
  rw [hRD] at hrd1 hl1 ⊢
  have n0 : w.heap.size ≠ RD := by omega
  have n1 : w.heap.size + 1 ≠ RD := by omega
  refine (l20AnySpan_any _ bs 0 _ hrd1 (by omega) (by omega)).mono ?_
  rintro e w2 ⟨a, b, rfl, _, p1, hp1a, hp1b, hrd2, hgr2⟩
  have hl2 := hrd2.lt
  have n2 : w2.heap.size ≠ RD := by omega
  have z2 := hgr2.size
  go_wp2_with fail
  refine (l20AnySpan_any _ bs p1 _ (rd_alloc hrd2 _) (by omega) (by omega)).mono ?_
  rintro e w3 ⟨c, d, rfl, _, p2, hp2a, hp2b, hrd3, hgr3⟩
  have hl3 := hrd3.lt
  have n3 : w3.heap.size ≠ RD := by omega
  have z3 := hgr3.size
  simp only [World.size_alloc] at z3
  go_wp2_with fail
  refine (pick_any _ bs p2 _ _ (rd_alloc hrd3 _) (by omega) (by omega) (by omega) (by omega)).mono ?_
  rintro e w4 ⟨v, rfl, v0, v1, hrd4, hgr4⟩
  have z4 := hgr4.size
  simp only [World.size_alloc] at z4
  have gB := grown_trans hgr3 (grown_trans (grown_alloc (grown_refl w3 (some RD)) (Obj.cells #[Value.int IntKind.i64 c, Value.int IntKind.i64 d] 25)) hgr4)
  have gA := grown_trans hgr2 (grown_trans (grown_alloc (grown_refl w2 (some RD)) (Obj.cells #[Value.int IntKind.i64 a, Value.int IntKind.i64 b] 25)) gB)
  replace r0 := grown_cell gA n0 r0
  replace r1 := grown_cell gA n0 r1
  replace r2 := grown_cell gA n1 r2
  replace r3 := grown_cell gA n1 r3
  replace s0 : ∀ o, w4.frozen? ⟨w.heap.size, o, none⟩ = false := fun o => ((gcell gA).2 _ o (by omega) n0).trans (s0 o)
  replace s2 : ∀ o, w4.frozen? ⟨w.heap.size + 1, o, none⟩ = false := fun o => ((gcell gA).2 _ o (by omega) n1).trans (s2 o)
  have k0 : w4.cell? ⟨w2.heap.size, 0, none⟩ = some (.int .i64 a) := grown_cell gB n2 (by simp)
  have k1 : w4.cell? ⟨w2.heap.size, 1, none⟩ = some (.int .i64 b) := grown_cell gB n2 (by simp)
  have k2 : w4.cell? ⟨w3.heap.size, 0, none⟩ = some (.int .i64 c) := grown_cell hgr4 n3 (by simp)
  have k3 : w4.cell? ⟨w3.heap.size, 1, none⟩ = some (.int .i64 d) := grown_cell hgr4 n3 (by simp)
  have f2 : ∀ o, w4.frozen? ⟨w3.heap.size, o, none⟩ = false := fun o => ((gcell hgr4).2 _ o (by simp) n3).trans (by simp)
  have HB := Lib.hid (grown_below hB1 gA (by omega))
  have m0 : w.heap.size ≠ w3.heap.size := by omega
  have m1 : w.heap.size + 1 ≠ w3.heap.size := by omega
  have m2 : w2.heap.size ≠ w3.heap.size := by omega
  have m3 : w2.heap.size ≠ w.heap.size := by omega
  have m4 : w2.heap.size ≠ w.heap.size + 1 := by omega
  have m5 : w3.heap.size ≠ w.heap.size := by omega
  have m6 : w3.heap.size ≠ w.heap.size + 1 := by omega
  have m7 : w3.heap.size ≠ w2.heap.size := by omega
  have hle3 : w.heap.size ≤ w3.heap.size := by omega
  generalize w3.heap.size = G3 at *
  generalize w2.heap.size = G2 at *
  clear hgr2 hgr3 hgr4 gA gB hrd1 hrd2 hrd3 hrd4 hB1 z2 z3 z4 hl1 hl2 hl3 n0 n1 n2 n3 hRD
  by_cases e0 : v = 0
  · subst e0
    go_wp2_with fail
    all_goals go_region
    all_goals go_wp2
    all_goals (refine bodyPost_ret (v := .tuple #[.agg #[.int .i64 a, .int .i64 b], .agg #[.int .i64 a, .int .i64 d]]) (by simp [results, Try.results31, go_sem, *]) rfl ?_)
    all_goals exact ⟨a, b, a, d, rfl, by repeat (first | exact HB.out | refine Below.drew ?_ | refine Below.setCell ?_ (by first | exact hle3 | (simp; done) | omega) _)⟩
  by_cases e1 : v = 1
  · subst e1
    go_wp2_with fail
    all_goals go_region
    all_goals go_wp2
    all_goals (refine bodyPost_ret (v := .tuple #[.agg #[.int .i64 a, .int .i64 b], .agg #[.int .i64 c, .int .i64 b]]) (by simp [results, Try.results31, go_sem, *]) rfl ?_)
    all_goals exact ⟨a, b, c, b, rfl, by repeat (first | exact HB.out | refine Below.drew ?_ | refine Below.setCell ?_ (by first | exact hle3 | (simp; done) | omega) _)⟩
  by_cases e2 : v = 2
  · subst e2
    go_wp2_with fail
    all_goals go_region
    all_goals go_wp2
    all_goals (refine bodyPost_ret (v := .tuple #[.agg #[.int .i64 a, .int .i64 b], .agg #[.int .i64 b, .int .i64 d]]) (by simp [results, Try.results31, go_sem, *]) rfl ?_)
    all_goals exact ⟨a, b, b, d, rfl, by repeat (first | exact HB.out | refine Below.drew ?_ | refine Below.setCell ?_ (by first | exact hle3 | (simp; done) | omega) _)⟩
  · go_wp2_with fail
    all_goals go_region
    all_goals go_wp2
    all_goals (refine bodyPost_ret (v := .tuple #[.agg #[.int .i64 a, .int .i64 b], .agg #[.int .i64 c, .int .i64 d]]) (by simp [results, Try.results31, go_sem, *]) rfl ?_)
    all_goals exact ⟨a, b, c, d, rfl, by repeat (first | exact HB.out | refine Below.drew ?_ | refine Below.setCell ?_ (by first | exact hle3 | (simp; done) | omega) _)⟩
end Go.Proofs.Ytmfpojminbkojaa
