/-
  Walks: what is drawn of a code: spans.
-/
import Derived.Test.YtphinkcfmdnpfaaRows
import Derived.Test.YtphinkcfmdnpfaaRd
import Derived.WalkSpells
import Derived.WalkLawsBesides
import Derived.Deep.QuietTactic
import Derived.BigQuiet
import Derived.Lib.Hide
namespace Go.Proofs.Ytphinkcfmdnpfaa
open Go.RowKit

/-- A number from 0 to n-1, and the reader one further. -/
def Picked (w : World) (R : Nat) (zs : List Int) (p n : Int) (e : Ending) (w' : World) : Prop :=
  ∃ v, e = .returned (.int .i64 v) ∧ 0 ≤ v ∧ v < n ∧ Rd w' R zs (p + 1) ∧ w.grownBy w' (some R)

theorem rd_step {w : World} {R : Nat} {zs : List Int} {p : Int} (h : Rd w R zs p) (k : Nat) : Rd ((w.setCell ⟨R, 1, none⟩ (.int .i64 (p + 1))).drewN k) R zs (p + 1) := by
  obtain ⟨A, cap, h0, h1, h2, h3, h4, h5⟩ := h
  refine ⟨A, cap, ?_, ?_, ?_, h3, h4, fun hn => ?_⟩
  · exact (World.cell?_setCell_other w ⟨R, 1, none⟩ ⟨R, 0, none⟩ _ (by simp)).trans h0
  · exact World.cell?_setCell_same' w ⟨R, 1, none⟩ _ (by rw [h1]; rfl)
  · exact (World.frozen?_setCell _ _ _ _).trans h2
  · obtain ⟨b, off, e, hlt, hc⟩ := h5 hn
    exact ⟨b, off, e, hlt, fun i hi => (World.cell?_setCell_other w ⟨R, 1, none⟩ ⟨b, off + i, none⟩ _ (by intro e; injection e with e; omega)).trans (hc i hi)⟩

theorem getD_mem {zs : List Int} {k : Nat} (h : k < zs.length) : zs.getD k 0 ∈ zs := by
  rw [show zs.getD k 0 = zs[k] from by simp [h]]; exact List.getElem_mem h

set_option maxHeartbeats 1000000 in
theorem pick_any (R : Nat) (zs : List Int) (p n : Int) (w : World) (h : Rd w R zs p) (hp0 : 0 ≤ p) (hp1 : p ≤ 1000000) (hn0 : 1 ≤ n) (hn1 : n ≤ 1000) :
    Calls Try.prog 110 #[.pointer (some ⟨R, 0, none⟩), .int .i64 n] w (Picked w R zs p n) := by
  have Hrd := Lib.hid h
  obtain ⟨A, cap, h0, h1, h2, h3, h4, h5⟩ := h
  have H4 := Lib.hid h4
  have H5 := Lib.hid h5
  clear h4 h5
  obtain ⟨k, rfl⟩ := Int.eq_ofNat_of_zero_le hp0
  by_cases hz : zs.length = 0
  · have hzb : ((zs.length : Int) == 0) = true := by simp [hz]
    have Hz := Lib.hid hz
    clear hz
    go_enter Try.func110, Try.ntmps110
    go_wp2
    go_ret
    exact ⟨0, rfl, by omega, by omega, rd_step Hrd.out 0, grown_set _⟩
  · obtain ⟨b, off, rfl, hbR, hcells⟩ := H5.out (by omega)
    have hzb : ((zs.length : Int) == 0) = false := by rw [beq_eq_false_iff_ne]; omega
    have hne : b ≠ R := by omega
    have hcells' : ∀ i, i < zs.length → (w.setCell ⟨R, 1, none⟩ (.int .i64 ((k : Int) + 1))).cell? ⟨b, off + i, none⟩ = some (.int .u8 (zs.getD i 0)) := fun i hi =>
      (World.cell?_setCell_other w ⟨R, 1, none⟩ ⟨b, off + i, none⟩ _ (by intro e; have := congrArg Addr.block e; simp at this; omega)).trans (hcells i hi)
    by_cases hk : k < zs.length
    · have hc := hcells' k hk
      have hzb := H4.out (zs.getD k 0) (getD_mem hk)
      generalize zs.getD k 0 = z at *
      obtain ⟨z0, z1⟩ := hzb
      clear hcells hcells'
      go_enter Try.func110, Try.ntmps110
      go_wp2
      go_ret
      exact ⟨z % n, rfl, Int.emod_nonneg _ (by omega), Int.emod_lt_of_pos _ (by omega), rd_step Hrd.out 0, grown_set _⟩
    · have hl0 : (0 : Int) < (zs.length : Int) := by omega
      have hc1 := hcells' (k % zs.length) (Nat.mod_lt _ (by omega))
      have hc2 := hcells' ((k * 7 + 3) % zs.length) (Nat.mod_lt _ (by omega))
      have hzb1 := H4.out _ (getD_mem (Nat.mod_lt k (show 0 < zs.length by omega)))
      have hzb2 := H4.out _ (getD_mem (Nat.mod_lt (k * 7 + 3) (show 0 < zs.length by omega)))
      generalize zs.getD (k % zs.length) 0 = z at *
      generalize zs.getD ((k * 7 + 3) % zs.length) 0 = y at *
      obtain ⟨z0, z1⟩ := hzb1
      obtain ⟨y0, y1⟩ := hzb2
      have e1 : ((k : Int) % (zs.length : Int)).toNat = k % zs.length := by omega
      have e1a : 0 ≤ (k : Int) % (zs.length : Int) := Int.emod_nonneg _ (by omega)
      have e1b : (k : Int) % (zs.length : Int) < (zs.length : Int) := Int.emod_lt_of_pos _ hl0
      have e2 : (((k : Int) * 7 + 3) % (zs.length : Int)).toNat = (k * 7 + 3) % zs.length := by rw [show ((k : Int) * 7 + 3) = ((k * 7 + 3 : Nat) : Int) from by omega, ← Int.natCast_emod, Int.toNat_natCast]
      have e2a : 0 ≤ ((k : Int) * 7 + 3) % (zs.length : Int) := Int.emod_nonneg _ (by omega)
      have e2b : ((k : Int) * 7 + 3) % (zs.length : Int) < (zs.length : Int) := Int.emod_lt_of_pos _ hl0
      clear hcells hcells'
      go_enter Try.func110, Try.ntmps110
      go_wp2_with fail
      obtain ⟨X, hX, X0, X1⟩ := pick_x z y k zs.length z0 z1 y0 y1 hp0 hp1 hl0
      have HX := Lib.hid hX
      clear hX
      go_quiet (fail)
      go_wp2
      go_ret
      refine ⟨_, rfl, ?_, ?_, rd_step Hrd.out _, grown_drewN (grown_set _) _⟩
      · rw [HX.out]; exact (pick_v X n X0 X1 hn0).1
      · rw [HX.out]; exact (pick_v X n X0 X1 hn0).2
end Go.Proofs.Ytphinkcfmdnpfaa
namespace Go.Proofs.Ytphinkcfmdnpfaa
open Go.RowKit

theorem gcell {W w1 : World} {R : Nat} (hg : W.grownBy w1 (some R)) : (∀ b o, b < W.heap.size → b ≠ R → w1.cell? ⟨b, o, none⟩ = W.cell? ⟨b, o, none⟩) ∧ (∀ b o, b < W.heap.size → b ≠ R → w1.frozen? ⟨b, o, none⟩ = W.frozen? ⟨b, o, none⟩) :=
  ⟨fun b o h hn => World.cell?_of_block (a := ⟨b, o, none⟩) (hg.block b h (fun e => hn (by injection e))), fun b o h hn => World.frozen?_of_block (a := ⟨b, o, none⟩) (hg.block b h (fun e => hn (by injection e)))⟩

/-- A store into a block that was not there. -/
theorem grown_set_new {w w' : World} {r : Option Nat} {g i : Nat} (h : w.grownBy w' r) (hg : w.heap.size ≤ g) (u : Value) : w.grownBy (w'.setCell ⟨g, i, none⟩ u) r :=
  ⟨h.os, h.tape, h.output, by simpa [World.setCell] using h.size, fun j hj hne => (Below.heap_setCell _ _ _ _ (by show j ≠ g; omega)).trans (h.block j hj hne)⟩

def PickedOf (w : World) (R : Nat) (zs : List Int) (p : Int) (L : List Int) (e : Ending) (w' : World) : Prop :=
  ∃ v, e = .returned (.int .i64 v) ∧ v ∈ L ∧ Rd w' R zs (p + 1) ∧ w.grownBy w' (some R)

set_option maxHeartbeats 1000000 in
theorem one_any (R g cap : Nat) (zs L : List Int) (p : Int) (w : World) (h : Rd w R zs p) (hp0 : 0 ≤ p) (hp1 : p ≤ 1000000) (hL0 : 1 ≤ L.length) (hL1 : L.length ≤ 1000) (hg : g ≠ R)
    (hc : ∀ i, i < L.length → w.cell? ⟨g, i, none⟩ = some (.int .i64 (L.getD i 0))) :
    Calls Try.prog 108 #[.pointer (some ⟨R, 0, none⟩), .slice (some ⟨g, 0, none⟩) L.length cap] w (PickedOf w R zs p L) := by
  go_enter Try.func108, Try.ntmps108
  go_wp2_with fail
  refine (pick_any R zs p _ _ h hp0 hp1 (by omega) (by omega)).mono ?_
  rintro e w1 ⟨v, rfl, v0, v1, hrd, hgr⟩
  obtain ⟨j, rfl⟩ := Int.eq_ofNat_of_zero_le v0
  have hj : j < L.length := by omega
  have hcj := grown_cell hgr hg (hc j hj)
  have hm := getD_mem hj
  have Hm := Lib.hid hm
  clear hm hc
  generalize L.getD j 0 = v at *
  have Hr := Lib.hid hrd
  have Hg := Lib.hid hgr
  clear hrd hgr h
  go_wp2
  go_ret
  exact ⟨v, rfl, Hm.out, Hr.out, Hg.out⟩

def DrawnSpan (w : World) (R : Nat) (zs : List Int) (p c lo hi : Int) (e : Ending) (w' : World) : Prop :=
  ∃ a b, e = .returned (.agg #[.int .i64 a, .int .i64 b]) ∧ (lo ≤ a ∧ a ≤ hi ∧ lo ≤ b ∧ b ≤ hi) ∧ ∃ p', p ≤ p' ∧ p' ≤ p + c ∧ Rd w' R zs p' ∧ w.grownBy w' (some R)

theorem rd_alloc {w : World} {R : Nat} {zs : List Int} {p : Int} (h : Rd w R zs p) (o : Obj) : Rd (w.alloc o) R zs p := h.kept ((Below.refl _ _).alloc (Nat.le_refl _) o)
theorem rd_set {w : World} {R g i : Nat} {zs : List Int} {p : Int} (h : Rd w R zs p) (hg : R < g) (u : Value) : Rd (w.setCell ⟨g, i, none⟩ u) R zs p := by
  obtain ⟨A, cap, h0, h1, h2, h3, h4, h5⟩ := h
  have far : ∀ b o, b ≤ R → (w.setCell ⟨g, i, none⟩ u).cell? ⟨b, o, none⟩ = w.cell? ⟨b, o, none⟩ := fun b o hb =>
    World.cell?_setCell_other w ⟨g, i, none⟩ ⟨b, o, none⟩ u (by intro e; have := congrArg Addr.block e; simp at this; omega)
  refine ⟨A, cap, (far _ _ (Nat.le_refl _)).trans h0, (far _ _ (Nat.le_refl _)).trans h1, (World.frozen?_setCell _ _ _ _).trans h2, h3, h4, fun hn => ?_⟩
  obtain ⟨b, off, e, hlt, hc⟩ := h5 hn
  exact ⟨b, off, e, hlt, fun i hi => (far _ _ (by omega)).trans (hc i hi)⟩

set_option maxHeartbeats 1000000 in
theorem l20Span_any (R : Nat) (zs : List Int) (p : Int) (w : World) (h : Rd w R zs p) (hp0 : 0 ≤ p) (hp1 : p ≤ 900000) :
    Calls Try.prog 141 #[.pointer (some ⟨R, 0, none⟩)] w (DrawnSpan w R zs p 3 0 100) := by
  have hR := h.lt
  have hne : w.heap.size ≠ R := by omega
  go_enter Try.func141, Try.ntmps141
  go_wp2_with fail
  refine (pick_any R zs p _ _ (rd_alloc h _) hp0 (by omega) (by omega) (by omega)).mono ?_
  rintro e w1 ⟨v, rfl, v0, v1, hrd, hgr⟩
  obtain ⟨hc1, hf1⟩ := gcell hgr
  have hz1 : w.heap.size < w1.heap.size := by have := hgr.size; simp at this; omega
  go_wp2_with fail
  refine (pick_any R zs _ _ _ hrd (by omega) (by omega) (by omega) (by omega)).mono ?_
  rintro e w2 ⟨u, rfl, u0, u1, hrd2, hgr2⟩
  obtain ⟨hc2, hf2⟩ := gcell hgr2
  have hz2 : w.heap.size < w2.heap.size := by have := hgr2.size; omega
  clear hc1 hf1 hz1 hc2 hf2 hz2
  by_cases hu : u = 0
  · subst hu
    go_wp2_with fail
    refine (one_any R w2.heap.size 3 zs [0, 98, 99] _ _ (rd_alloc hrd2 _) (by omega) (by omega) (by simp) (by simp) (by have := hrd2.lt; omega) (by
      intro i hi
      match i, hi with
      | 0, _ => simp
      | 1, _ => simp
      | 2, _ => simp)).mono ?_
    rintro e w3 ⟨t, rfl, ht, hrd3, hgr3⟩
    have ht' : 0 ≤ t ∧ t ≤ 99 := by simp at ht; omega
    have gA := grown_trans hgr (grown_trans hgr2 (grown_trans (grown_alloc (grown_refl w2 (some R)) _) hgr3))
    obtain ⟨hc3, hf3⟩ := gcell gA
    have HG := Lib.hid (grown_trans (grown_alloc (grown_refl w (some R)) _) gA)
    have hz := gA.size
    have HR := Lib.hid hrd3
    clear ht hgr hgr2 hgr3 gA hrd hrd2 hrd3 h
    go_wp2
    refine bodyPost_ret (v := .agg #[.int .i64 t, .int .i64 100]) (by simp [results, Try.results141, go_sem, hc3, hne]) rfl ?_
    refine ⟨t, 100, rfl, by omega, p + 1 + 1 + 1, by omega, by omega, rd_set (rd_set HR.out hR _) hR _, ?_⟩
    exact grown_set_new (grown_set_new HG.out (Nat.le_refl _) _) (Nat.le_refl _) _
  · have hub : (u == 0) = false := by simpa using hu
    clear hu
    go_wp2_with fail
    refine (pick_any R zs _ _ _ hrd2 (by omega) (by omega) (by omega) (by omega)).mono ?_
    rintro e w3 ⟨t, rfl, t0, t1, hrd3, hgr3⟩
    have gA := grown_trans hgr (grown_trans hgr2 hgr3)
    obtain ⟨hc3, hf3⟩ := gcell gA
    have HG := Lib.hid (grown_trans (grown_alloc (grown_refl w (some R)) _) gA)
    have HR := Lib.hid hrd3
    clear hgr hgr2 hgr3 gA hrd hrd2 hrd3 h
    go_wp2
    refine bodyPost_ret (v := .agg #[.int .i64 v, .int .i64 (v + 1 + t)]) (by simp [results, Try.results141, go_sem, hc3, hne]) rfl ?_
    refine ⟨v, v + 1 + t, rfl, by omega, p + 1 + 1 + 1, by omega, by omega, rd_set (rd_set HR.out hR _) hR _, ?_⟩
    exact grown_set_new (grown_set_new HG.out (Nat.le_refl _) _) (Nat.le_refl _) _

set_option maxHeartbeats 1000000 in
theorem l20AnySpan_any (R : Nat) (zs : List Int) (p : Int) (w : World) (h : Rd w R zs p) (hp0 : 0 ≤ p) (hp1 : p ≤ 800000) :
    Calls Try.prog 106 #[.pointer (some ⟨R, 0, none⟩)] w (DrawnSpan w R zs p 5 (-1) 101) := by
  have hR := h.lt
  have hne : w.heap.size ≠ R := by omega
  go_enter Try.func106, Try.ntmps106
  go_wp2_with fail
  refine (l20Span_any R zs p _ (rd_alloc h _) hp0 (by omega)).mono ?_
  rintro e w1 ⟨a, b, rfl, ⟨a0, a1, b0, b1⟩, p1, hp1a, hp1b, hrd1, hgr1⟩
  have hR1 := hrd1.lt
  have hne1 : w1.heap.size ≠ R := by omega
  have hz1 : w.heap.size < w1.heap.size := by have := hgr1.size; simp at this; omega
  obtain ⟨hc1, hf1⟩ := gcell hgr1
  go_wp2_with fail
  refine (pick_any R zs p1 _ _ (rd_alloc hrd1 _) (by omega) (by omega) (by omega) (by omega)).mono ?_
  rintro e w2 ⟨v, rfl, v0, v1, hrd2, hgr2⟩
  have gA := grown_trans hgr1 (grown_trans (grown_alloc (grown_refl w1 (some R)) (Obj.cells #[Value.int IntKind.i64 a, Value.int IntKind.i64 b] 29)) hgr2)
  have hz2 := hgr2.size
  simp at hz2
  have k0 : w2.cell? ⟨w1.heap.size, 0, none⟩ = some (.int .i64 a) := grown_cell hgr2 hne1 (by simp)
  have k1 : w2.cell? ⟨w1.heap.size, 1, none⟩ = some (.int .i64 b) := grown_cell hgr2 hne1 (by simp)
  have f0 : w2.frozen? ⟨w1.heap.size, 0, none⟩ = false := ((gcell hgr2).2 _ _ (by simp) hne1).trans (by simp)
  have f1 : w2.frozen? ⟨w1.heap.size, 1, none⟩ = false := ((gcell hgr2).2 _ _ (by simp) hne1).trans (by simp)
  have r0 : w2.cell? ⟨w.heap.size, 0, none⟩ = some (.int .i64 0) := grown_cell gA hne (by simp)
  have r1 : w2.cell? ⟨w.heap.size, 1, none⟩ = some (.int .i64 0) := grown_cell gA hne (by simp)
  have s0 : w2.frozen? ⟨w.heap.size, 0, none⟩ = false := ((gcell gA).2 _ _ (by simp) hne).trans (by simp)
  have s1 : w2.frozen? ⟨w.heap.size, 1, none⟩ = false := ((gcell gA).2 _ _ (by simp) hne).trans (by simp)
  have hdiff : w.heap.size ≠ w1.heap.size := by omega
  have hdiff' : w1.heap.size ≠ w.heap.size := by omega
  have HG := Lib.hid (grown_trans (grown_alloc (grown_refl w (some R)) _) gA)
  have HR := Lib.hid hrd2
  clear hc1 hf1 hgr1 hgr2 gA hrd1 hrd2 h
  by_cases e0 : v = 0
  · subst e0
    go_wp2
    refine bodyPost_ret (v := .agg #[.int .i64 a, .int .i64 a]) (by simp [results, Try.results106, go_sem, r0, r1]) rfl ?_
    exact ⟨a, a, rfl, by omega, p1 + 1, by omega, by omega, (by repeat (first | exact HR.out | refine rd_set ?_ (by omega) _)), (by repeat (first | exact HG.out | refine grown_set_new ?_ (by omega) _))⟩
  · have e0' : (v == 0) = false := by simpa using e0
    clear e0
    by_cases e1 : v = 1
    · subst e1
      go_wp2_with fail
      refine (one_any R w2.heap.size 2 zs [-1, 100] _ _ (rd_alloc HR.out _) (by omega) (by omega) (by simp) (by simp) (by omega) (by
        intro i hi
        match i, hi with
        | 0, _ => simp
        | 1, _ => simp)).mono ?_
      rintro e w3 ⟨t, rfl, ht, hrd3, hgr3⟩
      have ht' : -1 ≤ t ∧ t ≤ 100 := by simp at ht; omega
      have gB := grown_trans (grown_alloc (grown_refl w2 (some R)) _) hgr3
      have l0 : w3.cell? ⟨w1.heap.size, 0, none⟩ = some (.int .i64 a) := grown_cell gB hne1 k0
      have l1 : w3.cell? ⟨w1.heap.size, 1, none⟩ = some (.int .i64 b) := grown_cell gB hne1 k1
      have q0 : w3.cell? ⟨w.heap.size, 0, none⟩ = some (.int .i64 0) := grown_cell gB hne r0
      have q1 : w3.cell? ⟨w.heap.size, 1, none⟩ = some (.int .i64 0) := grown_cell gB hne r1
      have g0 : w3.frozen? ⟨w1.heap.size, 0, none⟩ = false := ((gcell gB).2 _ _ (by omega) hne1).trans f0
      have g1 : w3.frozen? ⟨w1.heap.size, 1, none⟩ = false := ((gcell gB).2 _ _ (by omega) hne1).trans f1
      have t0 : w3.frozen? ⟨w.heap.size, 0, none⟩ = false := ((gcell gB).2 _ _ (by omega) hne).trans s0
      have t1 : w3.frozen? ⟨w.heap.size, 1, none⟩ = false := ((gcell gB).2 _ _ (by omega) hne).trans s1
      have HG' := Lib.hid (grown_trans HG.out gB)
      have HR' := Lib.hid hrd3
      clear gB hgr3 hrd3 ht k0 k1 r0 r1 f0 f1 s0 s1
      go_wp2
      refine bodyPost_ret (v := .agg #[.int .i64 t, .int .i64 b]) (by simp [results, Try.results106, go_sem, q0, q1]) rfl ?_
      exact ⟨t, b, rfl, by omega, p1 + 1 + 1, by omega, by omega, (by repeat (first | exact HR'.out | refine rd_set ?_ (by omega) _)), (by repeat (first | exact HG'.out | refine grown_set_new ?_ (by omega) _))⟩
    · have e1' : (v == 1) = false := by simpa using e1
      clear e1
      by_cases e2 : v = 2
      · subst e2
        go_wp2
        refine bodyPost_ret (v := .agg #[.int .i64 a, .int .i64 101]) (by simp [results, Try.results106, go_sem, r0, r1]) rfl ?_
        exact ⟨a, 101, rfl, by omega, p1 + 1, by omega, by omega, (by repeat (first | exact HR.out | refine rd_set ?_ (by omega) _)), (by repeat (first | exact HG.out | refine grown_set_new ?_ (by omega) _))⟩
      · have e2' : (v == 2) = false := by simpa using e2
        clear e2
        go_wp2
        refine bodyPost_ret (v := .agg #[.int .i64 a, .int .i64 b]) (by simp [results, Try.results106, go_sem, r0, r1]) rfl ?_
        exact ⟨a, b, rfl, by omega, p1 + 1, by omega, by omega, (by repeat (first | exact HR.out | refine rd_set ?_ (by omega) _)), (by repeat (first | exact HG.out | refine grown_set_new ?_ (by omega) _))⟩

/-- A reader of a code, at its start. -/
def Opened (w : World) (e : Ending) (w' : World) : Prop :=
  ∃ zs, e = .returned (.pointer (some ⟨w.heap.size, 0, none⟩)) ∧ Rd w' w.heap.size zs 0 ∧ Below w.heap.size w w'

theorem bytes_alloc {w : World} {A : Option Addr} {zs : List Int} (h : Bytes w w.heap.size A zs) (o : Obj) : Bytes (w.alloc o) w.heap.size A zs :=
  ⟨h.1, fun hn => by
    obtain ⟨b, off, e, hlt, hc⟩ := h.2 hn
    exact ⟨b, off, e, hlt, fun i hi => (World.cell?_alloc_lt w o ⟨b, off + i, none⟩ hlt).trans (hc i hi)⟩⟩
theorem bytes_take {w : World} {B : Nat} {A : Option Addr} {zs : List Int} (h : Bytes w B A zs) (n : Nat) : Bytes w B A (zs.take n) :=
  ⟨fun z hz => h.1 z (List.mem_of_mem_take hz), fun hn => by
    obtain ⟨b, off, e, hlt, hc⟩ := h.2 (by simp at hn; omega)
    refine ⟨b, off, e, hlt, fun i hi => ?_⟩
    have hi' : i < n ∧ i < zs.length := by simp at hi; omega
    rw [hc i hi'.2]
    simp [hi'.1]⟩

set_option maxHeartbeats 1000000 in
theorem l20Open_any (A : Option Addr) (cap : Nat) (zs : List Int) (w : World) (h : Bytes w w.heap.size A zs) (hc : zs.length ≤ cap) (hm : cap ≤ maxLen) :
    Calls Try.prog 56 #[.slice A zs.length cap] w (Opened w) := by
  unfold maxLen at hm
  by_cases hl : zs.length ≤ 2000
  · go_enter Try.func56, Try.ntmps56
    go_wp2
    go_ret
    refine ⟨zs, rfl, ⟨A, cap, by simp, by simp, by simp, hl, bytes_alloc h _⟩, (Below.refl _ _).alloc (Nat.le_refl _) _⟩
  · have hn : 0 < zs.length := by omega
    obtain ⟨b, off, rfl, _⟩ := h.2 hn
    have Hh := Lib.hid h
    clear h
    go_enter Try.func56, Try.ntmps56
    go_wp2
    go_ret
    have hlen : (zs.take 2000).length = 2000 := by simp; omega
    exact ⟨zs.take 2000, rfl, ⟨some ⟨b, off, none⟩, cap, by rw [hlen]; simp, by simp, by simp, by omega, bytes_alloc (bytes_take Hh.out 2000) _⟩, (Below.refl _ _).alloc (Nat.le_refl _) _⟩
end Go.Proofs.Ytphinkcfmdnpfaa
