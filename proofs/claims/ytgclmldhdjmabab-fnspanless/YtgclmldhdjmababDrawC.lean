/-
  Walks: two drawn spans.
-/
import Derived.Test.YtgclmldhdjmababDrawB
import Derived.Test.YtgclmldhdjmababMeet
namespace Go.Proofs.Ytgclmldhdjmabab
open Go.RowKit

def DrawnTwo (w : World) (e : Ending) (w' : World) : Prop :=
  ∃ a b c d, e = .returned (.tuple #[.agg #[.int .i64 a, .int .i64 b], .agg #[.int .i64 c, .int .i64 d]]) ∧ (-1 ≤ a ∧ a ≤ 101 ∧ -1 ≤ b ∧ b ≤ 101) ∧ (-1 ≤ c ∧ c ≤ 101 ∧ -1 ≤ d ∧ d ≤ 101) ∧ Below w.heap.size w w'

theorem bytes_below {w w' : World} {B : Nat} {A : Option Addr} {zs : List Int} (h : Bytes w w.heap.size A zs) (hb : Below w.heap.size w w') (hB : w.heap.size ≤ B) : Bytes w' B A zs :=
  ⟨h.1, fun hn => by
    obtain ⟨b, off, e, hlt, hc⟩ := h.2 hn
    exact ⟨b, off, e, by omega, fun i hi => (hb.cell (p := ⟨b, off + i, none⟩) hlt).trans (hc i hi)⟩⟩

set_option maxHeartbeats 1000000 in
theorem DrawSpanMeet_any (A : Option Addr) (cap : Nat) (zs : List Int) (w : World) (h : Bytes w w.heap.size A zs) (hc : zs.length ≤ cap) (hm : cap ≤ maxLen) :
    Calls Try.prog 50 #[.slice A zs.length cap] w (DrawnTwo w) := by
  have hb0 : Below w.heap.size w ((w.alloc (Obj.cells #[Value.int IntKind.i64 0, Value.int IntKind.i64 0] 24)).alloc (Obj.cells #[Value.int IntKind.i64 0, Value.int IntKind.i64 0] 24)) :=
    ((Below.refl _ _).alloc (Nat.le_refl _) _).alloc (by simp) _
  go_enter Try.func50, Try.ntmps50
  go_wp2_with fail
  refine (l20Open_any A cap zs _ (bytes_below h hb0 (by simp; omega)) hc hm).mono ?_
  rintro e w1 ⟨bs, rfl, hrd1, hb1⟩
  simp only [World.size_alloc] at hrd1 hb1
  have r0 : w1.cell? ⟨w.heap.size, 0, none⟩ = some (.int .i64 0) := cell_below hb1 (by omega) (by simp)
  have r1 : w1.cell? ⟨w.heap.size, 1, none⟩ = some (.int .i64 0) := cell_below hb1 (by omega) (by simp)
  have r2 : w1.cell? ⟨w.heap.size + 1, 0, none⟩ = some (.int .i64 0) := cell_below hb1 (by omega) (by simp)
  have r3 : w1.cell? ⟨w.heap.size + 1, 1, none⟩ = some (.int .i64 0) := cell_below hb1 (by omega) (by simp)
  have s0 : w1.frozen? ⟨w.heap.size, 0, none⟩ = false := (hb1.frozen (p := ⟨w.heap.size, 0, none⟩) (by show w.heap.size < _; omega)).trans (by simp)
  have s1 : w1.frozen? ⟨w.heap.size, 1, none⟩ = false := (hb1.frozen (p := ⟨w.heap.size, 1, none⟩) (by show w.heap.size < _; omega)).trans (by simp)
  have s2 : w1.frozen? ⟨w.heap.size + 1, 0, none⟩ = false := (hb1.frozen (p := ⟨w.heap.size + 1, 0, none⟩) (by show w.heap.size + 1 < _; omega)).trans (by simp)
  have s3 : w1.frozen? ⟨w.heap.size + 1, 1, none⟩ = false := (hb1.frozen (p := ⟨w.heap.size + 1, 1, none⟩) (by show w.heap.size + 1 < _; omega)).trans (by simp)
  have hB1 : Below w.heap.size w w1 := hb0.trans (hb1.mono (by omega))
  clear hb0 hb1 h
  have n0 : w.heap.size ≠ w.heap.size + 1 + 1 := by omega
  have n1 : w.heap.size + 1 ≠ w.heap.size + 1 + 1 := by omega
  go_wp2_with fail
  refine (l20AnySpan_any _ bs 0 _ hrd1 (by omega) (by omega)).mono ?_
  rintro e w2 ⟨a, b, rfl, hab, p1, hp1a, hp1b, hrd2, hgr2⟩
  have q0 := grown_cell hgr2 n0 r0
  have q1 := grown_cell hgr2 n0 r1
  have q2 := grown_cell hgr2 n1 r2
  have q3 := grown_cell hgr2 n1 r3
  have hl1 := hrd1.lt
  have t0 := ((gcell hgr2).2 _ 0 (by omega) n0).trans s0
  have t1 := ((gcell hgr2).2 _ 1 (by omega) n0).trans s1
  have t2 := ((gcell hgr2).2 _ 0 (by omega) n1).trans s2
  have t3 := ((gcell hgr2).2 _ 1 (by omega) n1).trans s3
  have hB2 : Below w.heap.size w w2 := grown_below hB1 hgr2 (by omega)
  have hl2 := hrd2.lt
  have n2 : w2.heap.size ≠ w.heap.size + 1 + 1 := by omega
  clear r0 r1 r2 r3 s0 s1 s2 s3 hgr2 hB1 hrd1
  have HAB := Lib.hid hab
  clear hab
  have hbA : Below w.heap.size w (w2.alloc (Obj.cells #[Value.int IntKind.i64 a, Value.int IntKind.i64 b] 24)).drew := (hB2.alloc hB2.size _).drew
  have hrdA : Rd (w2.alloc (Obj.cells #[Value.int IntKind.i64 a, Value.int IntKind.i64 b] 24)).drew (w.heap.size + 1 + 1) bs p1 := rd_alloc hrd2 (Obj.cells #[Value.int IntKind.i64 a, Value.int IntKind.i64 b] 24)
  have u0 : (w2.alloc (Obj.cells #[Value.int IntKind.i64 a, Value.int IntKind.i64 b] 24)).drew.cell? ⟨w.heap.size, 0, none⟩ = some (.int .i64 0) := cell_alloc_far q0
  have u1 : (w2.alloc (Obj.cells #[Value.int IntKind.i64 a, Value.int IntKind.i64 b] 24)).drew.cell? ⟨w.heap.size, 1, none⟩ = some (.int .i64 0) := cell_alloc_far q1
  have u2 : (w2.alloc (Obj.cells #[Value.int IntKind.i64 a, Value.int IntKind.i64 b] 24)).drew.cell? ⟨w.heap.size + 1, 0, none⟩ = some (.int .i64 0) := cell_alloc_far q2
  have u3 : (w2.alloc (Obj.cells #[Value.int IntKind.i64 a, Value.int IntKind.i64 b] 24)).drew.cell? ⟨w.heap.size + 1, 1, none⟩ = some (.int .i64 0) := cell_alloc_far q3
  have x0 : (w2.alloc (Obj.cells #[Value.int IntKind.i64 a, Value.int IntKind.i64 b] 24)).drew.frozen? ⟨w.heap.size, 0, none⟩ = false := (World.frozen?_alloc_past _ _ _ (by omega)).trans t0
  have x1 : (w2.alloc (Obj.cells #[Value.int IntKind.i64 a, Value.int IntKind.i64 b] 24)).drew.frozen? ⟨w.heap.size, 1, none⟩ = false := (World.frozen?_alloc_past _ _ _ (by omega)).trans t1
  have x2 : (w2.alloc (Obj.cells #[Value.int IntKind.i64 a, Value.int IntKind.i64 b] 24)).drew.frozen? ⟨w.heap.size + 1, 0, none⟩ = false := (World.frozen?_alloc_past _ _ _ (by omega)).trans t2
  have x3 : (w2.alloc (Obj.cells #[Value.int IntKind.i64 a, Value.int IntKind.i64 b] 24)).drew.frozen? ⟨w.heap.size + 1, 1, none⟩ = false := (World.frozen?_alloc_past _ _ _ (by omega)).trans t3
  have hzX : w2.heap.size < (w2.alloc (Obj.cells #[Value.int IntKind.i64 a, Value.int IntKind.i64 b] 24)).drew.heap.size := by simp
  go_wp2_with fail
  go_region_held3 (fun w' => w'.cell? ⟨w2.heap.size, 0, none⟩ = some (.int .i64 a) ∧ w'.cell? ⟨w2.heap.size, 1, none⟩ = some (.int .i64 b))
    (first
      | (refine ⟨by simp, by simp⟩; done)
      | ((try go_split_ands); refine ⟨grown_cell hgr3 n2 (by simp), grown_cell hgr3 n2 (by simp)⟩)
      | ((try go_split_ands); refine ⟨?_, ?_⟩ <;> (repeat (first | with_reducible assumption | with_reducible refine cell_set_far (by omega) ?_))))
    (first | (go_at_call 87; refine (l20AnySpan_any _ bs p1 _ hrdA (by omega) (by omega)).mono ?_; rintro e w3 ⟨c, d, rfl, hcd, p2, hp2a, hp2b, hrd3, hgr3⟩; have v0 := grown_cell hgr3 n0 u0; have v1 := grown_cell hgr3 n0 u1; have v2 := grown_cell hgr3 n1 u2; have v3 := grown_cell hgr3 n1 u3; have y0 := ((gcell hgr3).2 _ 0 (by omega) n0).trans x0; have y1 := ((gcell hgr3).2 _ 1 (by omega) n0).trans x1; have y2 := ((gcell hgr3).2 _ 0 (by omega) n1).trans x2; have y3 := ((gcell hgr3).2 _ 1 (by omega) n1).trans x3; have HCD := Lib.hid hcd; clear hcd))
  have HB := Lib.hid (grown_below hbA hgr3 (by omega))
  clear hbA hgr3 hrd3 hrdA hrd2
  go_wp2
  refine bodyPost_ret (v := .tuple #[.agg #[.int .i64 a, .int .i64 b], .agg #[.int .i64 c, .int .i64 d]]) (by simp [results, Try.results50, go_sem, v0, v1, v2, v3]) rfl ?_
  exact ⟨a, b, c, d, rfl, HAB.out, HCD.out, by repeat (first | exact HB.out | refine Below.setCell ?_ (by simp) _)⟩
end Go.Proofs.Ytgclmldhdjmabab
