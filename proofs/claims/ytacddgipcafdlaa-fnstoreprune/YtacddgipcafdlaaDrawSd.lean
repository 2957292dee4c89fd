/-
  Walks: what is drawn of a code: a store, and what is asked of it.
-/
import Derived.Test.YtacddgipcafdlaaDrawB
import Derived.Test.YtacddgipcafdlaaMeet
import Derived.Test.YtacddgipcafdlaaDrawSc
namespace Go.Proofs.Ytacddgipcafdlaa
open Go.RowKit

def DrawnTwo (w : World) (e : Ending) (w' : World) : Prop :=
  ∃ a b c d, e = .returned (.tuple #[.agg #[.int .i64 a, .int .i64 b], .agg #[.int .i64 c, .int .i64 d]]) ∧ (-1 ≤ a ∧ a ≤ 101 ∧ -1 ≤ b ∧ b ≤ 101) ∧ (-1 ≤ c ∧ c ≤ 101 ∧ -1 ≤ d ∧ d ≤ 101) ∧ Below w.heap.size w w'

theorem bytes_below {w w' : World} {B : Nat} {A : Option Addr} {zs : List Int} (h : Bytes w w.heap.size A zs) (hb : Below w.heap.size w w') (hB : w.heap.size ≤ B) : Bytes w' B A zs :=
  ⟨h.1, fun hn => by
    obtain ⟨b, off, e, hlt, hc⟩ := h.2 hn
    exact ⟨b, off, e, by omega, fun i hi => (hb.cell (p := ⟨b, off + i, none⟩) hlt).trans (hc i hi)⟩⟩

end Go.Proofs.Ytacddgipcafdlaa
namespace Go.Proofs.Ytacddgipcafdlaa
open Go.Shelf Go.RowKit Go.Lib Go.Sort

/-- A drawn store. -/
def StoW (w : World) (zs : List VerV) (now : Int) (A : Option Addr) (cap : Nat) (w' : World) : Prop :=
  zs.length ≤ 120 ∧ ShortV zs ∧ (-1 ≤ now ∧ now ≤ 31) ∧ w'.ownsRow w.heap.size 74 6 (.slice A zs.length cap) zs.length (flatOf verC zs) ∧ Below w.heap.size w w'
def DrawnStoM (w : World) (e : Ending) (w' : World) : Prop :=
  ∃ (zs : List VerV) (now : Int) (A : Option Addr) (cap : Nat), e = .returned (.agg #[.int .i64 now, .slice A zs.length cap]) ∧ StoW w zs now A cap w'
def DrawnStoI (w : World) (e : Ending) (w' : World) : Prop :=
  ∃ (zs : List VerV) (now : Int) (A : Option Addr) (cap : Nat) (v : Int), e = .returned (.tuple #[.agg #[.int .i64 now, .slice A zs.length cap], .int .i64 v]) ∧ (-1 ≤ v ∧ v ≤ 6) ∧ StoW w zs now A cap w'
def DrawnStoK (w : World) (e : Ending) (w' : World) : Prop :=
  ∃ (zs : List VerV) (now : Int) (A : Option Addr) (cap : Nat) (s : ByteArray), e = .returned (.tuple #[.agg #[.int .i64 now, .slice A zs.length cap], .string s]) ∧ s.size ≤ 20 ∧ StoW w zs now A cap w'

set_option maxRecDepth 100000 in
set_option maxHeartbeats 4000000 in
theorem DrawStoreMany_any (A : Option Addr) (cap : Nat) (bs : List Int) (w : World) (h : Bytes w w.heap.size A bs) (hc : bs.length ≤ cap) (hm : cap ≤ maxLen) :
    Calls Try.prog 58 #[.slice A bs.length cap] w (DrawnStoM w) := by
  have hb0 : Below w.heap.size w (w.alloc (Obj.cells #[Value.int IntKind.i64 0, Value.slice none 0 0] 26)) := (Below.refl _ _).alloc (Nat.le_refl _) _
  go_enter Try.func58, Try.ntmps58
  go_wp2_with fail
  refine (l20Open_any A cap bs _ (bytes_below h hb0 (by simp)) hc hm).mono ?_
  rintro e w1 ⟨zs0, rfl, hrd1, hb1⟩
  simp only [World.size_alloc] at hrd1 hb1
  have r0 : w1.cell? ⟨w.heap.size, 0, none⟩ = some (.int .i64 0) := cell_below hb1 (by omega) (by simp)
  have r1 : w1.cell? ⟨w.heap.size, 1, none⟩ = some (.slice none 0 0) := cell_below hb1 (by omega) (by simp)
  have rf : ∀ o, w1.frozen? ⟨w.heap.size, o, none⟩ = false := fun o => (hb1.frozen (p := ⟨w.heap.size, o, none⟩) (by show w.heap.size < _; omega)).trans (by simp)
  have hB1 : Below w.heap.size w w1 := hb0.trans (hb1.mono (by omega))
  have hl1 := hrd1.lt
  clear hb0 hb1 h
  go_wp2_with fail
  obtain ⟨RD, hRD⟩ : ∃ R, w.heap.size + 1 = R := ⟨_, rfl⟩
  rw [hRD] at hrd1 hl1 ⊢
  have n0 : w.heap.size ≠ RD := by omega
  refine (l20AnyStore_any _ zs0 0 _ hrd1 (by omega) (by omega)).mono ?_
  rintro e w2 ⟨zs, now, A2, c2, rfl, hzl, hsh, hnow, ho, p2, hp2a, hp2b, hrd2, hgr2⟩
  have z2 := hgr2.size
  replace r0 := grown_cell hgr2 n0 r0
  replace r1 := grown_cell hgr2 n0 r1
  replace rf : ∀ o, w2.frozen? ⟨w.heap.size, o, none⟩ = false := fun o => ((gcell hgr2).2 _ o (by omega) n0).trans (rf o)
  have HS := Lib.hid hsh
  have O2 := Lib.hid (ownsBase (base' := w.heap.size + 2) ho (by omega))
  have B2 := Lib.hid (grown_below hB1 hgr2 (by omega))
  have zw : w.heap.size < w2.heap.size := by omega
  clear hsh ho hgr2 hB1 hrd1 hrd2
  go_wp2
  refine bodyPost_ret (v := .agg #[.int .i64 now, .slice A2 zs.length c2]) (by simp [results, Try.results58, go_sem, r0, r1]) rfl ?_
  refine ⟨zs, now, A2, c2, rfl, hzl, HS.out, hnow, ownsBase (base := w.heap.size + 2) (owns_set_farV (owns_set_farV O2.out (by omega)) (by omega)) (by omega), (B2.out.setCell (Nat.le_refl _) _).setCell (Nat.le_refl _) _⟩

set_option maxRecDepth 100000 in
set_option maxHeartbeats 4000000 in
theorem DrawStoreAt_any (A : Option Addr) (cap : Nat) (bs : List Int) (w : World) (h : Bytes w w.heap.size A bs) (hc : bs.length ≤ cap) (hm : cap ≤ maxLen) :
    Calls Try.prog 52 #[.slice A bs.length cap] w (DrawnStoI w) := by
  have hb0 : Below w.heap.size w (w.alloc (Obj.cells #[Value.int IntKind.i64 0, Value.slice none 0 0] 26)) := (Below.refl _ _).alloc (Nat.le_refl _) _
  go_enter Try.func52, Try.ntmps52
  go_wp2_with fail
  refine (l20Open_any A cap bs _ (bytes_below h hb0 (by simp)) hc hm).mono ?_
  rintro e w1 ⟨zs0, rfl, hrd1, hb1⟩
  simp only [World.size_alloc] at hrd1 hb1
  have r0 : w1.cell? ⟨w.heap.size, 0, none⟩ = some (.int .i64 0) := cell_below hb1 (by omega) (by simp)
  have r1 : w1.cell? ⟨w.heap.size, 1, none⟩ = some (.slice none 0 0) := cell_below hb1 (by omega) (by simp)
  have rf : ∀ o, w1.frozen? ⟨w.heap.size, o, none⟩ = false := fun o => (hb1.frozen (p := ⟨w.heap.size, o, none⟩) (by show w.heap.size < _; omega)).trans (by simp)
  have hB1 : Below w.heap.size w w1 := hb0.trans (hb1.mono (by omega))
  have hl1 := hrd1.lt
  clear hb0 hb1 h
  go_wp2_with fail
  obtain ⟨RD, hRD⟩ : ∃ R, w.heap.size + 1 = R := ⟨_, rfl⟩
  rw [hRD] at hrd1 hl1 ⊢
  have n0 : w.heap.size ≠ RD := by omega
  refine (l20AnyStore_any _ zs0 0 _ hrd1 (by omega) (by omega)).mono ?_
  rintro e w2 ⟨zs, now, A2, c2, rfl, hzl, hsh, hnow, ho, p2, hp2a, hp2b, hrd2, hgr2⟩
  have z2 := hgr2.size
  replace r0 := grown_cell hgr2 n0 r0
  replace r1 := grown_cell hgr2 n0 r1
  replace rf : ∀ o, w2.frozen? ⟨w.heap.size, o, none⟩ = false := fun o => ((gcell hgr2).2 _ o (by omega) n0).trans (rf o)
  have HS := Lib.hid hsh
  have O2 := Lib.hid (ownsBase (base' := w.heap.size + 2) ho (by omega))
  have B2 := Lib.hid (grown_below hB1 hgr2 (by omega))
  have zw : w.heap.size < w2.heap.size := by omega
  have R2 := Lib.hid hrd2
  have l2 := hrd2.lt
  clear hsh ho hgr2 hB1 hrd1 hrd2
  have b5 : Below w2.heap.size w2 (w2.alloc (.cells #[.int .i64 now, .slice A2 zs.length c2] 26)) := (Below.refl _ _).alloc (Nat.le_refl _) _
  have k0 : (w2.alloc (.cells #[.int .i64 now, .slice A2 zs.length c2] 26)).cell? ⟨w2.heap.size, 0, none⟩ = some (.int .i64 now) := by simp [go_sem]
  have k1 : (w2.alloc (.cells #[.int .i64 now, .slice A2 zs.length c2] 26)).cell? ⟨w2.heap.size, 1, none⟩ = some (.slice A2 zs.length c2) := by simp [go_sem]
  have z5 : w2.heap.size < (w2.alloc (.cells #[.int .i64 now, .slice A2 zs.length c2] 26)).heap.size := by simp
  replace r0 := cellBelow b5 zw r0
  replace r1 := cellBelow b5 zw r1
  replace rf : ∀ o, (w2.alloc (.cells #[.int .i64 now, .slice A2 zs.length c2] 26)).frozen? ⟨w.heap.size, o, none⟩ = false := fun o => ((bcell b5).2 _ o zw).trans (rf o)
  have O5 := Lib.hid (ownsKeep O2.out b5)
  have R5 := Lib.hid (R2.out.kept b5)
  have B5 := Lib.hid (B2.out.trans (b5.mono B2.out.size))
  go_upto_region 3 with fail
  generalize w2.alloc (.cells #[.int .i64 now, .slice A2 zs.length c2] 26) = W5 at *
  have gR : w2.heap.size ≠ RD := by omega
  have gw : w2.heap.size ≠ w.heap.size := by omega
  have wg : w.heap.size ≠ w2.heap.size := by omega
  generalize w2.heap.size = G at *
  have hrdA : Rd W5.drew RD zs0 p2 := R5.out
  have k0A : W5.drew.cell? ⟨G, 0, none⟩ = some (.int .i64 now) := k0
  have k1A : W5.drew.cell? ⟨G, 1, none⟩ = some (.slice A2 zs.length c2) := k1
  have r0A : W5.drew.cell? ⟨w.heap.size, 0, none⟩ = some (.int .i64 0) := r0
  have r1A : W5.drew.cell? ⟨w.heap.size, 1, none⟩ = some (.slice none 0 0) := r1
  have rfA : ∀ o, W5.drew.frozen? ⟨w.heap.size, o, none⟩ = false := rf
  clear b5 O2 R2 B2 z2
  go_region_held3 (fun w' => w'.cell? ⟨G, 0, none⟩ = some (.int .i64 now) ∧ w'.cell? ⟨G, 1, none⟩ = some (.slice A2 zs.length c2))
    (((try go_split_ands); refine ⟨?cc90, ?cc91⟩; (case cc90 => (repeat (first | with_reducible assumption | with_reducible exact grown_cell hgr4 gR k0A | with_reducible refine cell_set_far gw ?_))); (case cc91 => (repeat (first | with_reducible assumption | with_reducible exact grown_cell hgr4 gR k1A | with_reducible refine cell_set_far gw ?_)))))
    (first
      | (go_at_call 93; refine (pick_any RD zs0 p2 8 _ hrdA (by omega) (by omega) (by omega) (by omega)).mono ?_; rintro e w4 ⟨v, rfl, v0, v1, hrd4, hgr4⟩; have q0 := grown_cell hgr4 n0 r0A; have q1 := grown_cell hgr4 n0 r1A; have qf : (∀ o, w4.frozen? ⟨w.heap.size, o, none⟩ = false) := (fun o => ((gcell hgr4).2 _ o (by simp; omega) n0).trans (rfA o))))
  have gw4 : W5.grownBy w4 (some RD) := ⟨hgr4.os, hgr4.tape, hgr4.output, hgr4.size, hgr4.block⟩
  have O6 := Lib.hid (O5.out.kept gw4 (.inr fun e => by have := (O5.out.lt _ e).1; have := gR; omega))
  have B6 := Lib.hid (grown_below B5.out gw4 (by omega))
  have HW := Lib.hid (show IntKind.i64.wrap (v - 1) = v - 1 from by rw [IntKind.wrap_i64]; omega)
  clear gw4 hgr4 hrd4 O5 B5 R5 hrdA
  go_wp2
  refine bodyPost_ret (v := .tuple #[.agg #[.int .i64 now, .slice A2 zs.length c2], .int .i64 (v - 1)]) (by simp [results, Try.results52, go_sem, q0, q1, HW.out]) rfl ?_
  refine ⟨zs, now, A2, c2, v - 1, rfl, (by omega), hzl, HS.out, hnow, ownsBase (base := w.heap.size + 2) (owns_set_farV (owns_set_farV O6.out (by omega)) (by omega)) (by omega), (B6.out.setCell (Nat.le_refl _) _).setCell (Nat.le_refl _) _⟩

set_option maxRecDepth 100000 in
set_option maxHeartbeats 4000000 in
theorem DrawStoreLast_any (A : Option Addr) (cap : Nat) (bs : List Int) (w : World) (h : Bytes w w.heap.size A bs) (hc : bs.length ≤ cap) (hm : cap ≤ maxLen) :
    Calls Try.prog 40 #[.slice A bs.length cap] w (DrawnStoK w) := by
  have hb0 : Below w.heap.size w (w.alloc (Obj.cells #[Value.int IntKind.i64 0, Value.slice none 0 0] 26)) := (Below.refl _ _).alloc (Nat.le_refl _) _
  go_enter Try.func40, Try.ntmps40
  go_wp2_with fail
  refine (l20Open_any A cap bs _ (bytes_below h hb0 (by simp)) hc hm).mono ?_
  rintro e w1 ⟨zs0, rfl, hrd1, hb1⟩
  simp only [World.size_alloc] at hrd1 hb1
  have r0 : w1.cell? ⟨w.heap.size, 0, none⟩ = some (.int .i64 0) := cell_below hb1 (by omega) (by simp)
  have r1 : w1.cell? ⟨w.heap.size, 1, none⟩ = some (.slice none 0 0) := cell_below hb1 (by omega) (by simp)
  have rf : ∀ o, w1.frozen? ⟨w.heap.size, o, none⟩ = false := fun o => (hb1.frozen (p := ⟨w.heap.size, o, none⟩) (by show w.heap.size < _; omega)).trans (by simp)
  have hB1 : Below w.heap.size w w1 := hb0.trans (hb1.mono (by omega))
  have hl1 := hrd1.lt
  clear hb0 hb1 h
  go_wp2_with fail
  obtain ⟨RD, hRD⟩ : ∃ R, w.heap.size + 1 = R := ⟨_, rfl⟩
  rw [hRD] at hrd1 hl1 ⊢
  have n0 : w.heap.size ≠ RD := by omega
  refine (l20AnyStore_any _ zs0 0 _ hrd1 (by omega) (by omega)).mono ?_
  rintro e w2 ⟨zs, now, A2, c2, rfl, hzl, hsh, hnow, ho, p2, hp2a, hp2b, hrd2, hgr2⟩
  have z2 := hgr2.size
  replace r0 := grown_cell hgr2 n0 r0
  replace r1 := grown_cell hgr2 n0 r1
  replace rf : ∀ o, w2.frozen? ⟨w.heap.size, o, none⟩ = false := fun o => ((gcell hgr2).2 _ o (by omega) n0).trans (rf o)
  have HS := Lib.hid hsh
  have O2 := Lib.hid (ownsBase (base' := w.heap.size + 2) ho (by omega))
  have B2 := Lib.hid (grown_below hB1 hgr2 (by omega))
  have zw : w.heap.size < w2.heap.size := by omega
  have R2 := Lib.hid hrd2
  have l2 := hrd2.lt
  clear hsh ho hgr2 hB1 hrd1 hrd2
  have b5 : Below w2.heap.size w2 (w2.alloc (.cells #[.int .i64 now, .slice A2 zs.length c2] 26)) := (Below.refl _ _).alloc (Nat.le_refl _) _
  have k0 : (w2.alloc (.cells #[.int .i64 now, .slice A2 zs.length c2] 26)).cell? ⟨w2.heap.size, 0, none⟩ = some (.int .i64 now) := by simp [go_sem]
  have k1 : (w2.alloc (.cells #[.int .i64 now, .slice A2 zs.length c2] 26)).cell? ⟨w2.heap.size, 1, none⟩ = some (.slice A2 zs.length c2) := by simp [go_sem]
  have z5 : w2.heap.size < (w2.alloc (.cells #[.int .i64 now, .slice A2 zs.length c2] 26)).heap.size := by simp
  replace r0 := cellBelow b5 zw r0
  replace r1 := cellBelow b5 zw r1
  replace rf : ∀ o, (w2.alloc (.cells #[.int .i64 now, .slice A2 zs.length c2] 26)).frozen? ⟨w.heap.size, o, none⟩ = false := fun o => ((bcell b5).2 _ o zw).trans (rf o)
  have O5 := Lib.hid (ownsKeep O2.out b5)
  have R5 := Lib.hid (R2.out.kept b5)
  have B5 := Lib.hid (B2.out.trans (b5.mono B2.out.size))
  go_upto_region 3 with fail
  generalize w2.alloc (.cells #[.int .i64 now, .slice A2 zs.length c2] 26) = W5 at *
  have gR : w2.heap.size ≠ RD := by omega
  have gw : w2.heap.size ≠ w.heap.size := by omega
  have wg : w.heap.size ≠ w2.heap.size := by omega
  generalize w2.heap.size = G at *
  have hrdA : Rd W5.drew RD zs0 p2 := R5.out
  have k0A : W5.drew.cell? ⟨G, 0, none⟩ = some (.int .i64 now) := k0
  have k1A : W5.drew.cell? ⟨G, 1, none⟩ = some (.slice A2 zs.length c2) := k1
  have r0A : W5.drew.cell? ⟨w.heap.size, 0, none⟩ = some (.int .i64 0) := r0
  have r1A : W5.drew.cell? ⟨w.heap.size, 1, none⟩ = some (.slice none 0 0) := r1
  have rfA : ∀ o, W5.drew.frozen? ⟨w.heap.size, o, none⟩ = false := rf
  clear b5 O2 R2 B2 z2
  go_region_held3 (fun w' => w'.cell? ⟨G, 0, none⟩ = some (.int .i64 now) ∧ w'.cell? ⟨G, 1, none⟩ = some (.slice A2 zs.length c2))
    (((try go_split_ands); refine ⟨?cc90, ?cc91⟩; (case cc90 => (repeat (first | with_reducible assumption | with_reducible exact grown_cell hgr4 gR k0A | with_reducible refine cell_set_far gw ?_))); (case cc91 => (repeat (first | with_reducible assumption | with_reducible exact grown_cell hgr4 gR k1A | with_reducible refine cell_set_far gw ?_)))))
    (first
      | (go_at_call 86; refine (l20Key_any RD zs0 p2 _ hrdA (by omega) (by omega)).mono ?_; rintro e w4 ⟨key, rfl, hkey, hrd4, hgr4⟩; have q0 := grown_cell hgr4 n0 r0A; have q1 := grown_cell hgr4 n0 r1A; have qf : (∀ o, w4.frozen? ⟨w.heap.size, o, none⟩ = false) := (fun o => ((gcell hgr4).2 _ o (by simp; omega) n0).trans (rfA o))))
  have gw4 : W5.grownBy w4 (some RD) := ⟨hgr4.os, hgr4.tape, hgr4.output, hgr4.size, hgr4.block⟩
  have O6 := Lib.hid (O5.out.kept gw4 (.inr fun e => by have := (O5.out.lt _ e).1; have := gR; omega))
  have B6 := Lib.hid (grown_below B5.out gw4 (by omega))
  clear gw4 hgr4 hrd4 O5 B5 R5 hrdA
  go_wp2
  refine bodyPost_ret (v := .tuple #[.agg #[.int .i64 now, .slice A2 zs.length c2], .string key]) (by simp [results, Try.results40, go_sem, q0, q1]) rfl ?_
  refine ⟨zs, now, A2, c2, key, rfl, hkey, hzl, HS.out, hnow, ownsBase (base := w.heap.size + 2) (owns_set_farV (owns_set_farV O6.out (by omega)) (by omega)) (by omega), (B6.out.setCell (Nat.le_refl _) _).setCell (Nat.le_refl _) _⟩
end Go.Proofs.Ytacddgipcafdlaa
