/-
  Walks: what is drawn of a code: a table and a row; a table, a key and a span.
-/
import Derived.Test.YtgclmldhdjmabaaGreatDrawT
import Derived.Test.YtgclmldhdjmabaaGreatDrawC
namespace Go.Proofs.YtgclmldhdjmabaaGreat
open Go.Shelf Go.RowKit Go.Lib Go.Sort

theorem grown_setAt (w : World) (g i : Nat) (u : Value) : w.grownBy (w.setCell ⟨g, i, none⟩ u) (some g) :=
  ⟨rfl, rfl, rfl, by simp [World.setCell], fun j _ hne => Below.heap_setCell _ _ _ _ (by show j ≠ g; intro e; exact hne (by rw [e]))⟩
theorem owns_set_far {w : World} {base n g i : Nat} {v u : Value} {xs : List Value} {t : TypeId} {k : Nat} (h : w.ownsRow base t k v n xs) (hg : g < base) : (w.setCell ⟨g, i, none⟩ u).ownsRow base t k v n xs :=
  h.kept (grown_setAt w g i u) (owns_notR h hg)

/-- A drawn table and a row. -/
def DrawnRI (w : World) (e : Ending) (w' : World) : Prop :=
  ∃ (zs : List RowV) (A : Option Addr) (cap : Nat) (r : RowV), e = .returned (.tuple #[.slice A zs.length cap, .agg #[.string r.k, .string r.t, .int .i64 r.f, .int .i64 r.e]]) ∧ (r.k.size ≤ maxLen ∧ r.t.size ≤ maxLen) ∧ zs.length ≤ 25 ∧ Short zs ∧ w'.ownsRow w.heap.size 27 4 (.slice A zs.length cap) zs.length (flatOf rowC zs) ∧ Below w.heap.size w w'
/-- A drawn table, a key and a span. -/
def DrawnRD (w : World) (e : Ending) (w' : World) : Prop :=
  ∃ (zs : List RowV) (A : Option Addr) (cap : Nat) (key : ByteArray) (a b : Int), e = .returned (.tuple #[.slice A zs.length cap, .string key, .agg #[.int .i64 a, .int .i64 b]]) ∧ key.size ≤ maxLen ∧ zs.length ≤ 25 ∧ Short zs ∧ w'.ownsRow w.heap.size 27 4 (.slice A zs.length cap) zs.length (flatOf rowC zs) ∧ Below w.heap.size w w'

set_option maxRecDepth 100000 in
set_option maxHeartbeats 4000000 in
theorem DrawRelInsert_any (A : Option Addr) (cap : Nat) (bs : List Int) (w : World) (h : Bytes w w.heap.size A bs) (hc : bs.length ≤ cap) (hm : cap ≤ maxLen) :
    Calls Tryz.prog 14 #[.slice A bs.length cap] w (DrawnRI w) := by
  have hb0 : Below w.heap.size w (w.alloc (Obj.cells #[.string ⟨#[]⟩, .string ⟨#[]⟩, .int .i64 0, .int .i64 0] 27)) := (Below.refl _ _).alloc (Nat.le_refl _) _
  go_enter Tryz.func14, Tryz.ntmps14
  go_wp2_with fail
  refine (l20Open_any A cap bs _ (bytes_below h hb0 (by simp)) hc hm).mono ?_
  rintro e w1 ⟨zs0, rfl, hrd1, hb1⟩
  have hl1 := hrd1.lt
  obtain ⟨R, hR⟩ : ∃ R, (w.alloc (Obj.cells #[.string ⟨#[]⟩, .string ⟨#[]⟩, .int .i64 0, .int .i64 0] 27)).heap.size = R := ⟨_, rfl⟩
  have HRR := Lib.hid (show R = w.heap.size + 1 from by rw [← hR]; simp)
  have hne : w.heap.size ≠ R := by have := HRR.out; omega
  have hwR : w.heap.size < R := by have := HRR.out; omega
  rw [hR] at hrd1 hl1
  have q0 : w1.cell? ⟨w.heap.size, 0, none⟩ = some (.string ⟨#[]⟩) := cell_below hb1 (by simp) (by simp)
  have q1 : w1.cell? ⟨w.heap.size, 1, none⟩ = some (.string ⟨#[]⟩) := cell_below hb1 (by simp) (by simp)
  have q2 : w1.cell? ⟨w.heap.size, 2, none⟩ = some (.int .i64 0) := cell_below hb1 (by simp) (by simp)
  have q3 : w1.cell? ⟨w.heap.size, 3, none⟩ = some (.int .i64 0) := cell_below hb1 (by simp) (by simp)
  have qf : ∀ o, w1.frozen? ⟨w.heap.size, o, none⟩ = false := fun o => (hb1.frozen (p := ⟨w.heap.size, o, none⟩) (by simp)).trans (by simp)
  have B1 := Lib.hid (hb0.trans (hb1.mono hb0.size))
  have hs1 : w.heap.size < w1.heap.size := World.block_lt_of_cell? _ _ q0
  simp only [World.size_alloc]
  rw [← HRR.out]
  clear h hb0 hb1 hR
  go_wp2_with fail
  refine (l20AnyRel_any R zs0 0 _ hrd1 (by omega) (by omega)).mono ?_
  rintro e w2 ⟨zs, A2, c2, rfl, hll, hsh, hol, p', hpa, hpb, hrd2, hgr2⟩
  have O2 := Lib.hid hol
  have HS := Lib.hid hsh
  clear hol hsh
  go_wp2_with fail
  refine (l20AnyRow_any R zs0 p' _ hrd2 (by omega) (by omega)).mono ?_
  rintro e w3 ⟨r, rfl, ⟨hk, ht⟩, p2, hp2a, hp2b, hrd3, hgr3⟩
  have O3 := Lib.hid (O2.out.kept hgr3 (owns_notR O2.out hl1))
  have gA := grown_trans hgr2 hgr3
  have e0 : w3.cell? ⟨w.heap.size, 0, none⟩ = some (.string ⟨#[]⟩) := grown_cell gA hne q0
  have e1 : w3.cell? ⟨w.heap.size, 1, none⟩ = some (.string ⟨#[]⟩) := grown_cell gA hne q1
  have e2 : w3.cell? ⟨w.heap.size, 2, none⟩ = some (.int .i64 0) := grown_cell gA hne q2
  have e3 : w3.cell? ⟨w.heap.size, 3, none⟩ = some (.int .i64 0) := grown_cell gA hne q3
  have f0 : ∀ o, w3.frozen? ⟨w.heap.size, o, none⟩ = false := fun o => ((gcell gA).2 _ _ hs1 hne).trans (qf o)
  have HB := Lib.hid (grown_below B1.out gA (by omega))
  have HK := Lib.hid (show r.k.size ≤ maxLen ∧ r.t.size ≤ maxLen from by unfold maxLen; omega)
  clear hgr2 hgr3 hrd1 hrd2 hrd3 O2 B1 gA hk ht q0 q1 q2 q3 qf
  go_wp2
  refine bodyPost_ret (v := .tuple #[.slice A2 zs.length c2, .agg #[.string r.k, .string r.t, .int .i64 r.f, .int .i64 r.e]]) (by simp [results, Tryz.results14, go_sem, e0, e1, e2, e3]) rfl ?_
  refine ⟨zs, A2, c2, r, rfl, HK.out, hll, HS.out, ?_, (by repeat (first | exact HB.out | refine Below.setCell ?_ (by simp) _))⟩
  refine owns_baseE (base := w1.heap.size) ?_ (by omega)
  repeat (first | exact O3.out | refine owns_set_far ?_ hs1)
set_option maxRecDepth 100000 in
set_option maxHeartbeats 4000000 in
theorem DrawRelUpdate_any (A : Option Addr) (cap : Nat) (bs : List Int) (w : World) (h : Bytes w w.heap.size A bs) (hc : bs.length ≤ cap) (hm : cap ≤ maxLen) :
    Calls Tryz.prog 4 #[.slice A bs.length cap] w (DrawnRI w) := by
  have hb0 : Below w.heap.size w (w.alloc (Obj.cells #[.string ⟨#[]⟩, .string ⟨#[]⟩, .int .i64 0, .int .i64 0] 27)) := (Below.refl _ _).alloc (Nat.le_refl _) _
  go_enter Tryz.func4, Tryz.ntmps4
  go_wp2_with fail
  refine (DrawRelInsert_any A cap bs _ (bytes_below h hb0 (by simp)) hc hm).mono ?_
  rintro e w1 ⟨zs, A2, c2, r, rfl, hk, hll, hsh, hol, hb1⟩
  have e0 : w1.cell? ⟨w.heap.size, 0, none⟩ = some (.string ⟨#[]⟩) := cell_below hb1 (by simp) (by simp)
  have e1 : w1.cell? ⟨w.heap.size, 1, none⟩ = some (.string ⟨#[]⟩) := cell_below hb1 (by simp) (by simp)
  have e2 : w1.cell? ⟨w.heap.size, 2, none⟩ = some (.int .i64 0) := cell_below hb1 (by simp) (by simp)
  have e3 : w1.cell? ⟨w.heap.size, 3, none⟩ = some (.int .i64 0) := cell_below hb1 (by simp) (by simp)
  have f0 : ∀ o, w1.frozen? ⟨w.heap.size, o, none⟩ = false := fun o => (hb1.frozen (p := ⟨w.heap.size, o, none⟩) (by simp)).trans (by simp)
  have HB := Lib.hid (hb0.trans (hb1.mono hb0.size))
  have O3 := Lib.hid hol
  have HS := Lib.hid hsh
  have HK := Lib.hid hk
  clear h hb0 hb1 hol hsh hk
  go_wp2
  refine bodyPost_ret (v := .tuple #[.slice A2 zs.length c2, .agg #[.string r.k, .string r.t, .int .i64 r.f, .int .i64 r.e]]) (by simp [results, Tryz.results4, go_sem, e0, e1, e2, e3]) rfl ?_
  refine ⟨zs, A2, c2, r, rfl, HK.out, hll, HS.out, ?_, (by repeat (first | exact HB.out | refine Below.setCell ?_ (by simp) _))⟩
  refine owns_baseE (base := (w.alloc (Obj.cells #[.string ⟨#[]⟩, .string ⟨#[]⟩, .int .i64 0, .int .i64 0] 27)).heap.size) ?_ (by simp)
  repeat (first | exact O3.out | refine owns_set_far ?_ (by simp))

end Go.Proofs.YtgclmldhdjmabaaGreat
