/-
  Walks: when a table is ok, as the model has it.
-/
import Derived.Test.YtphinkcfmdnpfaaRowT
import Derived.Laws.StructEq
namespace Go.Proofs.Ytphinkcfmdnpfaa
open Go.RowKit

set_option maxRecDepth 100000 in
set_option maxHeartbeats 1000000 in
theorem during_any (r : RowV) (c d : Int) (w : World) :
    Calls Try.prog 128 #[.agg #[.string r.k, .string r.t, .int .i64 r.f, .int .i64 r.e], .agg #[.int .i64 c, .int .i64 d]] w fun e w' => e = .returned (.agg #[.string r.k, .string r.t, .int .i64 c, .int .i64 d]) ∧ Below w.heap.size w w' := by
  go_enter Try.func128, Try.ntmps128
  go_wp2
  refine bodyPost_ret (v := .agg #[.string r.k, .string r.t, .int .i64 c, .int .i64 d]) (by simp [results, Try.results128, go_sem]) rfl ⟨rfl, ?_⟩
  repeat (first | exact Below.refl _ _ | refine Below.setCell ?_ (by simp; try omega) _ | refine Below.alloc ?_ (by simp; try omega) _)

def joinB (a b : RowV) : Bool := (a.k.toList == b.k.toList) && (a.t.toList == b.t.toList) && decide (a.e = b.f)

set_option maxRecDepth 100000 in
theorem eqSpan_run (d : Nat) (f e f' e' : Int) (w : World) :
    (Op.equalIn (d + 1 + 1) 29 (.agg #[.int .i64 f, .int .i64 e]) (.agg #[.int .i64 f', .int .i64 e'])).run Try.prog w = .ok ((f == f') && (e == e')) w := by
  have u3 := Try.underlying3
  have a3 := Try.isAgg3
  have z3 := Try.sizeOf3
  have hS' : Try.prog.underlying 29 = some (.struct (Try.prog.fieldsOf 29)) := by kernel_rfl
  have hp' : Try.prog.stoodInHeld 29 = false := by kernel_rfl
  rw [run_equalIn_agg w (d + 1) 29 _ _ hS' hp']
  clear hS' hp'
  simp only [Program.fieldsOf, Try.underlying29]
  go_simp
  by_cases h1 : f = f' <;> by_cases h2 : e = e' <;> simp [h1, h2]

set_option maxRecDepth 100000 in
theorem eqRow_run3 (d : Nat) (k k' t t' : ByteArray) (f e f' e' : Int) (w : World) :
    (Op.equalIn (d + 1 + 1 + 1) 70 (.agg #[.string k, .string t, .int .i64 f, .int .i64 e]) (.agg #[.string k', .string t', .int .i64 f', .int .i64 e'])).run Try.prog w = .ok ((k.toList == k'.toList) && ((t.toList == t'.toList) && ((f == f') && (e == e')))) w := by
  have u9 := Try.underlying9
  have a9 := Try.isAgg9
  have z9 := Try.sizeOf9
  have a28 := Try.isAgg29
  have z28 := Try.sizeOf29
  have hS' : Try.prog.underlying 70 = some (.struct (Try.prog.fieldsOf 70)) := by kernel_rfl
  have hp' : Try.prog.stoodInHeld 70 = false := by kernel_rfl
  have hs := fun w => eqSpan_run d f e f' e' w
  rw [run_equalIn_agg w (d + 1 + 1) 70 _ _ hS' hp']
  clear hS' hp'
  simp only [Program.fieldsOf, Try.underlying70]
  go_simp
  cases h1 : (k.toList == k'.toList) <;> cases h2 : (t.toList == t'.toList) <;> cases h3 : (f == f') <;> cases h4 : (e == e') <;> simp_all
theorem eqRow_run (k k' t t' : ByteArray) (f e : Int) (w : World) :
    (Op.equalIn 10000 70 (.agg #[.string k, .string t, .int .i64 f, .int .i64 e]) (.agg #[.string k', .string t', .int .i64 f, .int .i64 e])).run Try.prog w = .ok ((k.toList == k'.toList) && (t.toList == t'.toList)) w := by
  have h := eqRow_run3 9997 k k' t t' f e f e w
  rw [beq_self_eq_true, beq_self_eq_true, Bool.and_true, Bool.and_true] at h
  exact h

set_option maxRecDepth 100000 in
set_option maxHeartbeats 2000000 in
theorem joined_no (a b : RowV) (w : World) (h : ((b.k.toList == a.k.toList) && (b.t.toList == a.t.toList)) = false) :
    Calls Try.prog 120 #[.agg #[.string a.k, .string a.t, .int .i64 a.f, .int .i64 a.e], .agg #[.string b.k, .string b.t, .int .i64 b.f, .int .i64 b.e]] w fun e w' => (∃ r : RowV, (joinB a b = true → r = ⟨a.k, a.t, a.f, b.e⟩) ∧ e = .returned (.tuple #[.agg #[.string r.k, .string r.t, .int .i64 r.f, .int .i64 r.e], .bool (joinB a b)])) ∧ Below w.heap.size w w' := by
    have HJ := Lib.hid (show joinB a b = false from by
      have h' : ((a.k.toList == b.k.toList) && (a.t.toList == b.t.toList)) = false := by rw [← h, Bool.beq_comm, @Bool.beq_comm _ _ _ a.t.toList]
      rw [joinB, h', Bool.false_and])
    have hE : ∀ W, (Op.equalIn 10000 70 (.agg #[.string b.k, .string b.t, .int .i64 b.f, .int .i64 b.e]) (.agg #[.string a.k, .string a.t, .int .i64 b.f, .int .i64 b.e])).run Try.prog W = .ok false W := fun W => by rw [eqRow_run, h]
    clear h
    go_enter Try.func120, Try.ntmps120
    go_wp2_with fail
    generalize hW : ((w.alloc _).alloc _).alloc _ = W
    have a0 : W.cell? ⟨w.heap.size, 0, none⟩ = some (.string a.k) := by rw [← hW]; simp [go_sem]
    have a1 : W.cell? ⟨w.heap.size, 1, none⟩ = some (.string a.t) := by rw [← hW]; simp [go_sem]
    have a2 : W.cell? ⟨w.heap.size, 2, none⟩ = some (.int .i64 a.f) := by rw [← hW]; simp [go_sem]
    have a3 : W.cell? ⟨w.heap.size, 3, none⟩ = some (.int .i64 a.e) := by rw [← hW]; simp [go_sem]
    have b0 : W.cell? ⟨w.heap.size + 1, 0, none⟩ = some (.string b.k) := by rw [← hW]; simp [go_sem]
    have b1 : W.cell? ⟨w.heap.size + 1, 1, none⟩ = some (.string b.t) := by rw [← hW]; simp [go_sem]
    have b2 : W.cell? ⟨w.heap.size + 1, 2, none⟩ = some (.int .i64 b.f) := by rw [← hW]; simp [go_sem]
    have b3 : W.cell? ⟨w.heap.size + 1, 3, none⟩ = some (.int .i64 b.e) := by rw [← hW]; simp [go_sem]
    have r0 : W.cell? ⟨w.heap.size + 1 + 1, 0, none⟩ = some (.string ⟨#[]⟩) := by rw [← hW]; simp [go_sem]
    have r1 : W.cell? ⟨w.heap.size + 1 + 1, 1, none⟩ = some (.string ⟨#[]⟩) := by rw [← hW]; simp [go_sem]
    have r2 : W.cell? ⟨w.heap.size + 1 + 1, 2, none⟩ = some (.int .i64 0) := by rw [← hW]; simp [go_sem]
    have r3 : W.cell? ⟨w.heap.size + 1 + 1, 3, none⟩ = some (.int .i64 0) := by rw [← hW]; simp [go_sem]
    have fr : ∀ o, W.frozen? ⟨w.heap.size + 1 + 1, o, none⟩ = false := by intro o; rw [← hW]; simp [go_sem]
    have la : w.heap.size < W.heap.size := by rw [← hW]; simp; omega
    have lb : w.heap.size + 1 < W.heap.size := by rw [← hW]; simp
    have lc : w.heap.size + 1 + 1 < W.heap.size := by rw [← hW]; simp
    have BW := Lib.hid (show Below w.heap.size w W from by rw [← hW]; exact (((Below.refl _ _).alloc (Nat.le_refl _) _).alloc (by simp) _).alloc (by simp; omega) _)
    clear hW
    refine wp_region_later (by kernel_rfl) (by kernel_rfl) ?_
    intro f hf1 hf2 hfc
    repeat (go_big_quiet_step ((go_at_call 128; exact calls_later hf1 hf2 (during_any _ _ _ _))))
    refine wpQuiet_nil ?_
    rintro _ ⟨v, rfl⟩
    have hbf := hf1.out v
    replace a0 := cellBelow hbf la a0
    replace a1 := cellBelow hbf la a1
    replace a2 := cellBelow hbf la a2
    replace a3 := cellBelow hbf la a3
    replace b0 := cellBelow hbf lb b0
    replace b1 := cellBelow hbf lb b1
    replace b2 := cellBelow hbf lb b2
    replace b3 := cellBelow hbf lb b3
    replace r0 := cellBelow hbf lc r0
    replace r1 := cellBelow hbf lc r1
    replace r2 := cellBelow hbf lc r2
    replace r3 := cellBelow hbf lc r3
    replace fr : ∀ o, (f v).frozen? ⟨w.heap.size + 1 + 1, o, none⟩ = false := fun o => (hbf.frozen (p := ⟨w.heap.size + 1 + 1, o, none⟩) lc).trans (fr o)
    replace la := Nat.lt_of_lt_of_le la hbf.size
    replace lb := Nat.lt_of_lt_of_le lb hbf.size
    replace lc := Nat.lt_of_lt_of_le lc hbf.size
    have BF := Lib.hid (BW.out.trans (hbf.mono BW.out.size))
    clear hbf hfc hf1 hf2 BW
    generalize f v = W1 at *
    clear v f
    go_wp2
    refine bodyPost_ret (v := .tuple #[.agg #[.string ⟨#[]⟩, .string ⟨#[]⟩, .int .i64 0, .int .i64 0], .bool false]) (by simp [results, Try.results120, go_sem, r0, r1, r2, r3]) rfl ⟨⟨row0, (fun h => by rw [HJ.out] at h; cases h), by rw [HJ.out]; rfl⟩, ?_⟩
    repeat (first | exact BF.out | refine Below.setCell ?_ (by simp; try omega) _)

set_option maxRecDepth 100000 in
set_option maxHeartbeats 2000000 in
theorem joined_far (a b : RowV) (w : World) (h : ((b.k.toList == a.k.toList) && (b.t.toList == a.t.toList)) = true) (hf : (a.e != b.f) = true) :
    Calls Try.prog 120 #[.agg #[.string a.k, .string a.t, .int .i64 a.f, .int .i64 a.e], .agg #[.string b.k, .string b.t, .int .i64 b.f, .int .i64 b.e]] w fun e w' => (∃ r : RowV, (joinB a b = true → r = ⟨a.k, a.t, a.f, b.e⟩) ∧ e = .returned (.tuple #[.agg #[.string r.k, .string r.t, .int .i64 r.f, .int .i64 r.e], .bool (joinB a b)])) ∧ Below w.heap.size w w' := by
    have HJ := Lib.hid (show joinB a b = false from by
      have : decide (a.e = b.f) = false := by simpa using hf
      rw [joinB, this, Bool.and_false])
    have hE : ∀ W, (Op.equalIn 10000 70 (.agg #[.string b.k, .string b.t, .int .i64 b.f, .int .i64 b.e]) (.agg #[.string a.k, .string a.t, .int .i64 b.f, .int .i64 b.e])).run Try.prog W = .ok true W := fun W => by rw [eqRow_run, h]
    clear h
    go_enter Try.func120, Try.ntmps120
    go_wp2_with fail
    generalize hW : ((w.alloc _).alloc _).alloc _ = W
    have a0 : W.cell? ⟨w.heap.size, 0, none⟩ = some (.string a.k) := by rw [← hW]; simp [go_sem]
    have a1 : W.cell? ⟨w.heap.size, 1, none⟩ = some (.string a.t) := by rw [← hW]; simp [go_sem]
    have a2 : W.cell? ⟨w.heap.size, 2, none⟩ = some (.int .i64 a.f) := by rw [← hW]; simp [go_sem]
    have a3 : W.cell? ⟨w.heap.size, 3, none⟩ = some (.int .i64 a.e) := by rw [← hW]; simp [go_sem]
    have b0 : W.cell? ⟨w.heap.size + 1, 0, none⟩ = some (.string b.k) := by rw [← hW]; simp [go_sem]
    have b1 : W.cell? ⟨w.heap.size + 1, 1, none⟩ = some (.string b.t) := by rw [← hW]; simp [go_sem]
    have b2 : W.cell? ⟨w.heap.size + 1, 2, none⟩ = some (.int .i64 b.f) := by rw [← hW]; simp [go_sem]
    have b3 : W.cell? ⟨w.heap.size + 1, 3, none⟩ = some (.int .i64 b.e) := by rw [← hW]; simp [go_sem]
    have r0 : W.cell? ⟨w.heap.size + 1 + 1, 0, none⟩ = some (.string ⟨#[]⟩) := by rw [← hW]; simp [go_sem]
    have r1 : W.cell? ⟨w.heap.size + 1 + 1, 1, none⟩ = some (.string ⟨#[]⟩) := by rw [← hW]; simp [go_sem]
    have r2 : W.cell? ⟨w.heap.size + 1 + 1, 2, none⟩ = some (.int .i64 0) := by rw [← hW]; simp [go_sem]
    have r3 : W.cell? ⟨w.heap.size + 1 + 1, 3, none⟩ = some (.int .i64 0) := by rw [← hW]; simp [go_sem]
    have fr : ∀ o, W.frozen? ⟨w.heap.size + 1 + 1, o, none⟩ = false := by intro o; rw [← hW]; simp [go_sem]
    have la : w.heap.size < W.heap.size := by rw [← hW]; simp; omega
    have lb : w.heap.size + 1 < W.heap.size := by rw [← hW]; simp
    have lc : w.heap.size + 1 + 1 < W.heap.size := by rw [← hW]; simp
    have BW := Lib.hid (show Below w.heap.size w W from by rw [← hW]; exact (((Below.refl _ _).alloc (Nat.le_refl _) _).alloc (by simp) _).alloc (by simp; omega) _)
    clear hW
    refine wp_region_later (by kernel_rfl) (by kernel_rfl) ?_
    intro f hf1 hf2 hfc
    repeat (go_big_quiet_step ((go_at_call 128; exact calls_later hf1 hf2 (during_any _ _ _ _))))
    refine wpQuiet_nil ?_
    rintro _ ⟨v, rfl⟩
    have hbf := hf1.out v
    replace a0 := cellBelow hbf la a0
    replace a1 := cellBelow hbf la a1
    replace a2 := cellBelow hbf la a2
    replace a3 := cellBelow hbf la a3
    replace b0 := cellBelow hbf lb b0
    replace b1 := cellBelow hbf lb b1
    replace b2 := cellBelow hbf lb b2
    replace b3 := cellBelow hbf lb b3
    replace r0 := cellBelow hbf lc r0
    replace r1 := cellBelow hbf lc r1
    replace r2 := cellBelow hbf lc r2
    replace r3 := cellBelow hbf lc r3
    replace fr : ∀ o, (f v).frozen? ⟨w.heap.size + 1 + 1, o, none⟩ = false := fun o => (hbf.frozen (p := ⟨w.heap.size + 1 + 1, o, none⟩) lc).trans (fr o)
    replace la := Nat.lt_of_lt_of_le la hbf.size
    replace lb := Nat.lt_of_lt_of_le lb hbf.size
    replace lc := Nat.lt_of_lt_of_le lc hbf.size
    have BF := Lib.hid (BW.out.trans (hbf.mono BW.out.size))
    clear hbf hfc hf1 hf2 BW
    generalize f v = W1 at *
    clear v f
    go_wp2
    refine bodyPost_ret (v := .tuple #[.agg #[.string ⟨#[]⟩, .string ⟨#[]⟩, .int .i64 0, .int .i64 0], .bool false]) (by simp [results, Try.results120, go_sem, r0, r1, r2, r3]) rfl ⟨⟨row0, (fun h => by rw [HJ.out] at h; cases h), by rw [HJ.out]; rfl⟩, ?_⟩
    repeat (first | exact BF.out | refine Below.setCell ?_ (by simp; try omega) _)

set_option maxRecDepth 100000 in
set_option maxHeartbeats 2000000 in
theorem joined_yes (a b : RowV) (w : World) (h : ((b.k.toList == a.k.toList) && (b.t.toList == a.t.toList)) = true) (hf : (a.e != b.f) = false) :
    Calls Try.prog 120 #[.agg #[.string a.k, .string a.t, .int .i64 a.f, .int .i64 a.e], .agg #[.string b.k, .string b.t, .int .i64 b.f, .int .i64 b.e]] w fun e w' => (∃ r : RowV, (joinB a b = true → r = ⟨a.k, a.t, a.f, b.e⟩) ∧ e = .returned (.tuple #[.agg #[.string r.k, .string r.t, .int .i64 r.f, .int .i64 r.e], .bool (joinB a b)])) ∧ Below w.heap.size w w' := by
    have HJ := Lib.hid (show joinB a b = true from by
      have h' : ((a.k.toList == b.k.toList) && (a.t.toList == b.t.toList)) = true := by rw [← h, Bool.beq_comm, @Bool.beq_comm _ _ _ a.t.toList]
      have : decide (a.e = b.f) = true := by simpa using hf
      rw [joinB, h', this]; rfl)
    have hE : ∀ W, (Op.equalIn 10000 70 (.agg #[.string b.k, .string b.t, .int .i64 b.f, .int .i64 b.e]) (.agg #[.string a.k, .string a.t, .int .i64 b.f, .int .i64 b.e])).run Try.prog W = .ok true W := fun W => by rw [eqRow_run, h]
    clear h
    go_enter Try.func120, Try.ntmps120
    go_wp2_with fail
    generalize hW : ((w.alloc _).alloc _).alloc _ = W
    have a0 : W.cell? ⟨w.heap.size, 0, none⟩ = some (.string a.k) := by rw [← hW]; simp [go_sem]
    have a1 : W.cell? ⟨w.heap.size, 1, none⟩ = some (.string a.t) := by rw [← hW]; simp [go_sem]
    have a2 : W.cell? ⟨w.heap.size, 2, none⟩ = some (.int .i64 a.f) := by rw [← hW]; simp [go_sem]
    have a3 : W.cell? ⟨w.heap.size, 3, none⟩ = some (.int .i64 a.e) := by rw [← hW]; simp [go_sem]
    have b0 : W.cell? ⟨w.heap.size + 1, 0, none⟩ = some (.string b.k) := by rw [← hW]; simp [go_sem]
    have b1 : W.cell? ⟨w.heap.size + 1, 1, none⟩ = some (.string b.t) := by rw [← hW]; simp [go_sem]
    have b2 : W.cell? ⟨w.heap.size + 1, 2, none⟩ = some (.int .i64 b.f) := by rw [← hW]; simp [go_sem]
    have b3 : W.cell? ⟨w.heap.size + 1, 3, none⟩ = some (.int .i64 b.e) := by rw [← hW]; simp [go_sem]
    have r0 : W.cell? ⟨w.heap.size + 1 + 1, 0, none⟩ = some (.string ⟨#[]⟩) := by rw [← hW]; simp [go_sem]
    have r1 : W.cell? ⟨w.heap.size + 1 + 1, 1, none⟩ = some (.string ⟨#[]⟩) := by rw [← hW]; simp [go_sem]
    have r2 : W.cell? ⟨w.heap.size + 1 + 1, 2, none⟩ = some (.int .i64 0) := by rw [← hW]; simp [go_sem]
    have r3 : W.cell? ⟨w.heap.size + 1 + 1, 3, none⟩ = some (.int .i64 0) := by rw [← hW]; simp [go_sem]
    have fr : ∀ o, W.frozen? ⟨w.heap.size + 1 + 1, o, none⟩ = false := by intro o; rw [← hW]; simp [go_sem]
    have la : w.heap.size < W.heap.size := by rw [← hW]; simp; omega
    have lb : w.heap.size + 1 < W.heap.size := by rw [← hW]; simp
    have lc : w.heap.size + 1 + 1 < W.heap.size := by rw [← hW]; simp
    have BW := Lib.hid (show Below w.heap.size w W from by rw [← hW]; exact (((Below.refl _ _).alloc (Nat.le_refl _) _).alloc (by simp) _).alloc (by simp; omega) _)
    clear hW
    refine wp_region_later (by kernel_rfl) (by kernel_rfl) ?_
    intro f hf1 hf2 hfc
    repeat (go_big_quiet_step ((go_at_call 128; exact calls_later hf1 hf2 (during_any _ _ _ _))))
    refine wpQuiet_nil ?_
    rintro _ ⟨v, rfl⟩
    have hbf := hf1.out v
    replace a0 := cellBelow hbf la a0
    replace a1 := cellBelow hbf la a1
    replace a2 := cellBelow hbf la a2
    replace a3 := cellBelow hbf la a3
    replace b0 := cellBelow hbf lb b0
    replace b1 := cellBelow hbf lb b1
    replace b2 := cellBelow hbf lb b2
    replace b3 := cellBelow hbf lb b3
    replace r0 := cellBelow hbf lc r0
    replace r1 := cellBelow hbf lc r1
    replace r2 := cellBelow hbf lc r2
    replace r3 := cellBelow hbf lc r3
    replace fr : ∀ o, (f v).frozen? ⟨w.heap.size + 1 + 1, o, none⟩ = false := fun o => (hbf.frozen (p := ⟨w.heap.size + 1 + 1, o, none⟩) lc).trans (fr o)
    replace la := Nat.lt_of_lt_of_le la hbf.size
    replace lb := Nat.lt_of_lt_of_le lb hbf.size
    replace lc := Nat.lt_of_lt_of_le lc hbf.size
    have BF := Lib.hid (BW.out.trans (hbf.mono BW.out.size))
    clear hbf hfc hf1 hf2 BW
    generalize f v = W1 at *
    clear v f
    go_wp2_with fail
    refine (during_any _ _ _ _).mono ?_
    rintro e w2 ⟨rfl, hb2⟩
    replace r0 := cellBelow hb2 lc r0
    replace r1 := cellBelow hb2 lc r1
    replace r2 := cellBelow hb2 lc r2
    replace r3 := cellBelow hb2 lc r3
    replace fr : ∀ o, w2.frozen? ⟨w.heap.size + 1 + 1, o, none⟩ = false := fun o => (hb2.frozen (p := ⟨w.heap.size + 1 + 1, o, none⟩) lc).trans (fr o)
    have B2 := Lib.hid (BF.out.trans (hb2.mono BF.out.size))
    clear hb2 BF a0 a1 a2 a3 b0 b1 b2 b3
    go_wp2
    refine bodyPost_ret (v := .tuple #[.agg #[.string a.k, .string a.t, .int .i64 a.f, .int .i64 b.e], .bool true]) (by simp [results, Try.results120, go_sem, r0, r1, r2, r3]) rfl ⟨⟨⟨a.k, a.t, a.f, b.e⟩, (fun _ => rfl), by rw [HJ.out]⟩, ?_⟩
    repeat (first | exact B2.out | refine Below.setCell ?_ (by simp; try omega) _)

def JoinPost (a b : RowV) (w : World) (e : Ending) (w' : World) : Prop := (∃ r : RowV, (joinB a b = true → r = ⟨a.k, a.t, a.f, b.e⟩) ∧ e = .returned (.tuple #[.agg #[.string r.k, .string r.t, .int .i64 r.f, .int .i64 r.e], .bool (joinB a b)])) ∧ Below w.heap.size w w'
theorem joined_any (a b : RowV) (w : World) : Calls Try.prog 120 #[.agg #[.string a.k, .string a.t, .int .i64 a.f, .int .i64 a.e], .agg #[.string b.k, .string b.t, .int .i64 b.f, .int .i64 b.e]] w (JoinPost a b w) := by
  cases h : ((b.k.toList == a.k.toList) && (b.t.toList == a.t.toList))
  · exact joined_no a b w h
  · cases hf : (a.e != b.f)
    · exact joined_yes a b w h hf
    · exact joined_far a b w h hf

set_option maxRecDepth 100000 in
set_option maxHeartbeats 2000000 in
theorem leads_any (a b : RowV) (w : World) :
    Calls Try.prog 68 #[.agg #[.string a.k, .string a.t, .int .i64 a.f, .int .i64 a.e], .agg #[.string b.k, .string b.t, .int .i64 b.f, .int .i64 b.e]] w fun e w' => e = .returned (.bool (leadB a b)) ∧ Below w.heap.size w w' := by
  cases h1 : (a.k.toList == b.k.toList)
  · have HL := Lib.hid (show leadB a b = Op.bytesLess a.k.toList b.k.toList from by rw [leadB, if_neg (by rw [h1]; simp)])
    go_enter Try.func68, Try.ntmps68
    go_wp2
    go_ret
    exact ⟨ret_bool HL.out.symm, ((Below.refl _ _).alloc (Nat.le_refl _) _).alloc (by simp) _⟩
  · have HL := Lib.hid (show leadB a b = (decide (a.e ≤ b.f) && !joinB a b) from by rw [leadB, if_pos h1, joinB, h1, Bool.true_and])
    go_enter Try.func68, Try.ntmps68
    go_wp2_with fail
    generalize hW : (w.alloc _).alloc _ = W
    have a2 : W.cell? ⟨w.heap.size, 3, none⟩ = some (.int .i64 a.e) := by rw [← hW]; simp [go_sem]
    have b2 : W.cell? ⟨w.heap.size + 1, 2, none⟩ = some (.int .i64 b.f) := by rw [← hW]; simp [go_sem]
    have la : w.heap.size < W.heap.size := by rw [← hW]; simp; omega
    have lb : w.heap.size + 1 < W.heap.size := by rw [← hW]; simp
    have BW := Lib.hid (show Below w.heap.size w W from by rw [← hW]; exact ((Below.refl _ _).alloc (Nat.le_refl _) _).alloc (by simp) _)
    clear hW
    refine (joined_any a b _).mono ?_
    rintro e w1 ⟨⟨r, _, rfl⟩, hb⟩
    replace a2 := cellBelow hb la a2
    replace b2 := cellBelow hb lb b2
    replace la := Nat.lt_of_lt_of_le la hb.size
    replace lb := Nat.lt_of_lt_of_le lb hb.size
    have B1 := Lib.hid (BW.out.trans (hb.mono BW.out.size))
    clear hb BW h1
    obtain ⟨jb, hjb⟩ : ∃ jb, joinB a b = jb := ⟨_, rfl⟩
    rw [hjb] at HL ⊢
    clear hjb
    by_cases hle : a.e ≤ b.f
    · cases jb
      · go_wp2
        go_ret
        exact ⟨ret_bool (by rw [HL.out]; simp [hle]), (B1.out.alloc B1.out.size _)⟩
      · go_wp2
        go_ret
        exact ⟨ret_bool (by rw [HL.out]; simp), (B1.out.alloc B1.out.size _)⟩
    · go_wp2
      go_ret
      exact ⟨ret_bool (by rw [HL.out]; simp; omega), (B1.out.alloc B1.out.size _)⟩

set_option maxRecDepth 100000 in
set_option maxHeartbeats 2000000 in
theorem l2Less_any (a b : RowV) (w : World) :
    Calls Try.prog 117 #[.agg #[.string a.k, .string a.t, .int .i64 a.f, .int .i64 a.e], .agg #[.string b.k, .string b.t, .int .i64 b.f, .int .i64 b.e]] w fun e w' => e = .returned (.bool (lessB a b)) ∧ Below w.heap.size w w' := by
  cases h1 : Op.bytesLess a.k.toList b.k.toList
  · cases h2 : (a.k.toList == b.k.toList)
    · have HL := Lib.hid (show lessB a b = false from by rw [lessB, h1, h2]; rfl)
      go_enter Try.func117, Try.ntmps117
      go_wp2
      go_ret
      exact ⟨ret_bool HL.out.symm, ((Below.refl _ _).alloc (Nat.le_refl _) _).alloc (by simp) _⟩
    · have HL := Lib.hid (show lessB a b = decide (a.f < b.f) from by rw [lessB, h1, h2]; simp)
      go_enter Try.func117, Try.ntmps117
      go_wp2
      go_ret
      exact ⟨ret_bool HL.out.symm, ((Below.refl _ _).alloc (Nat.le_refl _) _).alloc (by simp) _⟩
  · have HL := Lib.hid (show lessB a b = true from by rw [lessB, h1]; rfl)
    go_enter Try.func117, Try.ntmps117
    go_wp2
    go_ret
    exact ⟨ret_bool HL.out.symm, ((Below.refl _ _).alloc (Nat.le_refl _) _).alloc (by simp) _⟩
end Go.Proofs.Ytphinkcfmdnpfaa
namespace Go.Proofs.Ytphinkcfmdnpfaa
open Go.RowKit

theorem rowOkM_val (r : RowV) (w : World) (v : Bool) (hk : r.k.size ≤ maxLen) (ht : r.t.size ≤ maxLen) (h : rowOk r = v) :
    Calls Try.prog 67 #[.agg #[.string r.k, .string r.t, .int .i64 r.f, .int .i64 r.e]] w fun e w' => e = .returned (.bool v) ∧ Below w.heap.size w w' := by
  subst h; exact rowOkM_any r w hk ht
theorem l2RowOk_val (r : RowV) (w : World) (v : Bool) (hk : r.k.size ≤ maxLen) (ht : r.t.size ≤ maxLen) (h : rowOk r = v) :
    Calls Try.prog 116 #[.agg #[.string r.k, .string r.t, .int .i64 r.f, .int .i64 r.e]] w fun e w' => e = .returned (.bool v) ∧ Below w.heap.size w w' := by
  subst h; exact l2RowOk_any r w hk ht
theorem leads_val (a b : RowV) (w : World) (v : Bool) (h : leadB a b = v) :
    Calls Try.prog 68 #[.agg #[.string a.k, .string a.t, .int .i64 a.f, .int .i64 a.e], .agg #[.string b.k, .string b.t, .int .i64 b.f, .int .i64 b.e]] w fun e w' => e = .returned (.bool v) ∧ Below w.heap.size w w' := by
  subst h; exact leads_any a b w
theorem l2Less_val (a b : RowV) (w : World) (v : Bool) (h : lessB a b = v) :
    Calls Try.prog 117 #[.agg #[.string a.k, .string a.t, .int .i64 a.f, .int .i64 a.e], .agg #[.string b.k, .string b.t, .int .i64 b.f, .int .i64 b.e]] w fun e w' => e = .returned (.bool v) ∧ Below w.heap.size w w' := by
  subst h; exact l2Less_any a b w

theorem relAt_of {zs : List RowV} {k : Nat} {x : RowV} (hx : zs[k]? = some x) (h0 : k = 0) : relAt zs k = rowOk x := by
  have : (k == 0) = true := by simp [h0]
  rw [relAt, getD_of hx, this, Bool.true_or, Bool.and_true]
theorem relAt_of2 {zs : List RowV} {k : Nat} {x y : RowV} (hx : zs[k]? = some x) (h0 : k ≠ 0) (hy : zs[k - 1]? = some y) : relAt zs k = (rowOk x && leadB y x) := by
  have : (k == 0) = false := by simp [h0]
  rw [relAt, getD_of hx, getD_of hy, this, Bool.false_or]

set_option maxRecDepth 100000 in
set_option maxHeartbeats 4000000 in
theorem RelOk_any (A : Option Addr) (cap : Nat) (zs : List RowV) (w : World) (hz : RowsA w A zs) (hl : zs.length ≤ 1048577) (hs : ∀ r ∈ zs, r.k.size ≤ maxLen ∧ r.t.size ≤ maxLen) :
    Calls Try.prog 17 #[.slice A zs.length cap] w fun e w' => e = .returned (.bool (relOk zs)) ∧ Below w.heap.size w w' := by
  have HZ := Lib.hid hz
  have HS := Lib.hid hs
  clear hz hs
  by_cases hlen : 24 < zs.length
  · have HL := Lib.hid (relOk_long hlen)
    go_enter Try.func17, Try.ntmps17
    go_wp2
    go_ret
    exact ⟨ret_bool HL.out.symm, Below.refl _ _⟩
  · go_enter Try.func17, Try.ntmps17
    go_wp2
    go_loopw [10] (fun i wr => ∃ k : Nat, k ≤ zs.length ∧ i = .int .i64 k ∧ (∀ j, j < k → relAt zs j = true) ∧ Below w.heap.size w wr) (fun i _ => zs.length - (intOf i).toNat)
    case atStart => exact ⟨0, Nat.zero_le _, rfl, fun j hj => absurd hj (by omega), Below.refl _ _⟩
    case round =>
      obtain ⟨k, hk, rfl, hall, hbr⟩ := hrel
      have Hall := Lib.hid hall
      clear hall
      by_cases hlt : k < zs.length
      · obtain ⟨b, off, x, rfl, hb, hx, c0, c1, c2, c3⟩ := (HZ.out.below hbr).at_ hlt
        have hm := HS.out x (List.mem_of_getElem? hx)
        have HX := Lib.hid hx
        clear hx
        go_upto_region 6 with fail
        generalize hW : wr.alloc _ = W
        have q0 : W.cell? ⟨wr.heap.size, 0, none⟩ = some (.string x.k) := by rw [← hW]; simp [go_sem]
        have q1 : W.cell? ⟨wr.heap.size, 1, none⟩ = some (.string x.t) := by rw [← hW]; simp [go_sem]
        have q2 : W.cell? ⟨wr.heap.size, 2, none⟩ = some (.int .i64 x.f) := by rw [← hW]; simp [go_sem]
        have q3 : W.cell? ⟨wr.heap.size, 3, none⟩ = some (.int .i64 x.e) := by rw [← hW]; simp [go_sem]
        replace c0 : W.cell? ⟨b, off + k * 4, none⟩ = some (.string x.k) := by rw [← hW]; exact (World.cell?_alloc_lt _ _ _ hb).trans c0
        replace c1 : W.cell? ⟨b, off + k * 4 + 1, none⟩ = some (.string x.t) := by rw [← hW]; exact (World.cell?_alloc_lt _ _ _ hb).trans c1
        replace c2 : W.cell? ⟨b, off + k * 4 + 2, none⟩ = some (.int .i64 x.f) := by rw [← hW]; exact (World.cell?_alloc_lt _ _ _ hb).trans c2
        replace c3 : W.cell? ⟨b, off + k * 4 + 3, none⟩ = some (.int .i64 x.e) := by rw [← hW]; exact (World.cell?_alloc_lt _ _ _ hb).trans c3
        have lw : wr.heap.size < W.heap.size := by rw [← hW]; simp
        have lb : b < W.heap.size := Nat.lt_trans hb lw
        have BW := Lib.hid (show Below w.heap.size w W from by rw [← hW]; exact hbr.alloc hbr.size _)
        clear hW
        cases h1 : rowOk x
        · have H1 := Lib.hid h1
          have HN := Lib.hid (show relAt zs k = false from by rw [relAt, getD_of HX.out, H1.out]; rfl)
          clear h1
          refine wp_region_later (by kernel_rfl) (by kernel_rfl) ?_
          intro f hf1 hf2 hfc
          repeat (go_big_quiet_step ((go_at_call 67; exact calls_later hf1 hf2 (rowOkM_val _ _ _ hm.1 hm.2 H1.out))))
          refine wpQuiet_nil ?_
          rintro _ ⟨v, rfl⟩
          have Hv := Lib.hid (BW.out.trans ((hf1.out v).mono BW.out.size))
          clear hfc
          go_wp2
          go_ret
          exact ⟨ret_bool (relOk_no hlt HN.out).symm, Hv.out⟩
        · have H1 := Lib.hid h1
          clear h1
          by_cases hk0 : k = 0
          · have HA := Lib.hid (show relAt zs k = true from by rw [relAt_of HX.out hk0, H1.out])
            have hkd : decide ((0 : Int) < (k : Int)) = false := by simp; omega
            have hke : decide (0 < k) = false := by simp; omega
            have H0 := Lib.hid hk0
            clear hk0
            refine wp_region_later (by kernel_rfl) (by kernel_rfl) ?_
            intro f hf1 hf2 hfc
            repeat (go_big_quiet_step ((go_at_call 67; exact calls_later hf1 hf2 (rowOkM_val _ _ _ hm.1 hm.2 H1.out))))
            refine wpQuiet_nil ?_
            rintro _ ⟨v, rfl⟩
            have Hv := Lib.hid (BW.out.trans ((hf1.out v).mono BW.out.size))
            clear hfc
            go_wp2
            go_roundw
            case rel => exact ⟨k + 1, by omega, by go_num, fun j hj => by
              by_cases e : j = k
              · subst e; exact HA.out
              · exact Hall.out j (by omega), Hv.out⟩
            case measure => simp [intOf]; omega
          · obtain ⟨b', off', y, e1, hb', hy, d0, d1, d2, d3⟩ := (HZ.out.below BW.out).at_ (show k - 1 < zs.length by omega)
            injection e1 with e1
            injection e1 with e1 e2 e3
            subst e1 e2
            have hkd : decide ((0 : Int) < (k : Int)) = true := by simp; omega
            have hke : decide (0 < k) = true := by simp; omega
            have hke' : 0 < k := by omega
            have hkp : (0 : Int) < (k : Int) := by omega
            have hkp1 : (0 : Int) ≤ (k : Int) - 1 := by omega
            have hkp2 : (k : Int) - 1 < (zs.length : Int) := by omega
            have hkn : ((k : Int) - 1).toNat = k - 1 := by omega
            have HA := Lib.hid (relAt_of2 HX.out hk0 hy)
            clear hy hk0
            cases h2 : leadB y x
            · have H2 := Lib.hid h2
              clear h2
              refine wp_region_later (by kernel_rfl) (by kernel_rfl) ?_
              intro f hf1 hf2 hfc
              repeat (go_big_quiet_step ((first | (go_at_call 67; exact calls_later hf1 hf2 (rowOkM_val _ _ _ hm.1 hm.2 H1.out)) | (go_at_call 68; exact calls_later hf1 hf2 (leads_val _ _ _ _ H2.out)))))
              refine wpQuiet_nil ?_
              rintro _ ⟨v, rfl⟩
              have Hv := Lib.hid (BW.out.trans ((hf1.out v).mono BW.out.size))
              clear hfc
              go_wp2
              go_ret
              exact ⟨ret_bool (relOk_no hlt (by rw [HA.out, H1.out, H2.out]; rfl)).symm, Hv.out⟩
            · have H2 := Lib.hid h2
              clear h2
              refine wp_region_later (by kernel_rfl) (by kernel_rfl) ?_
              intro f hf1 hf2 hfc
              repeat (go_big_quiet_step ((first | (go_at_call 67; exact calls_later hf1 hf2 (rowOkM_val _ _ _ hm.1 hm.2 H1.out)) | (go_at_call 68; exact calls_later hf1 hf2 (leads_val _ _ _ _ H2.out)))))
              refine wpQuiet_nil ?_
              rintro _ ⟨v, rfl⟩
              have Hv := Lib.hid (BW.out.trans ((hf1.out v).mono BW.out.size))
              clear hfc
              go_wp2
              go_roundw
              case rel => exact ⟨k + 1, by omega, by go_num, fun j hj => by
                by_cases e : j = k
                · subst e; rw [HA.out, H1.out, H2.out]; rfl
                · exact Hall.out j (by omega), Hv.out⟩
              case measure => simp [intOf]; omega
      · have HL := Lib.hid (relOk_yes (zs := zs) (by omega) fun j hj => Hall.out j (by omega))
        go_wp2
        go_ret
        exact ⟨ret_bool HL.out.symm, hbr⟩
end Go.Proofs.Ytphinkcfmdnpfaa
namespace Go.Proofs.Ytphinkcfmdnpfaa
open Go.RowKit

theorem below_drewN {w w' : World} {B : Nat} (h : Below B w w') (n : Nat) : Below B w (w'.drewN n) := by
  induction n with
  | zero => exact h
  | succ n ih => exact ih.drew

set_option maxRecDepth 100000 in
set_option maxHeartbeats 8000000 in
theorem l2Ok_any (A : Option Addr) (cap : Nat) (zs : List RowV) (w : World) (hz : RowsA w A zs) (hl : zs.length ≤ 1048577) (hs : ∀ r ∈ zs, r.k.size ≤ maxLen ∧ r.t.size ≤ maxLen) :
    Calls Try.prog 64 #[.slice A zs.length cap] w fun e w' => e = .returned (.bool (relOk zs)) ∧ Below w.heap.size w w' := by
  have HZ := Lib.hid hz
  have HS := Lib.hid hs
  clear hz hs
  go_enter Try.func64, Try.ntmps64
  go_wp2
  go_loopw [3] (fun i wr => ∃ k : Nat, k ≤ zs.length ∧ i = .int .i64 k ∧ (∀ j, j < k → relAt zs j = true) ∧ Below w.heap.size w wr) (fun i _ => zs.length - (intOf i).toNat)
  case atStart => exact ⟨0, Nat.zero_le _, rfl, fun j hj => absurd hj (by omega), Below.refl _ _⟩
  case round =>
    obtain ⟨k, hk, rfl, hall, hbr⟩ := hrel
    have Hall := Lib.hid hall
    clear hall
    by_cases hlt : k < zs.length
    · obtain ⟨b, off, x, rfl, hb, hx, c0, c1, c2, c3⟩ := (HZ.out.below hbr).at_ hlt
      have hm := HS.out x (List.mem_of_getElem? hx)
      have HX := Lib.hid hx
      clear hx
      cases h1 : rowOk x
      · have H1 := Lib.hid h1
        have HN := Lib.hid (show relAt zs k = false from by rw [relAt, getD_of HX.out, H1.out]; rfl)
        clear h1
        go_wp2_with fail
        refine wp_region_later (by kernel_rfl) (by kernel_rfl) ?_
        intro f hf1 hf2 hfc
        repeat (go_big_quiet_step ((go_at_call 116; exact calls_later hf1 hf2 (l2RowOk_val _ _ _ hm.1 hm.2 H1.out))))
        refine wpQuiet_nil ?_
        rintro _ ⟨v, rfl⟩
        have hbf := hf1.out v
        replace c0 := cellBelow hbf hb c0
        replace c1 := cellBelow hbf hb c1
        replace c2 := cellBelow hbf hb c2
        replace c3 := cellBelow hbf hb c3
        replace hb := Nat.lt_of_lt_of_le hb hbf.size
        have BW := Lib.hid (hbr.trans (hbf.mono hbr.size))
        clear hbf hfc hf1 hf2
        generalize f v = W at *
        clear v f
        go_wp2
        go_ret
        exact ⟨ret_bool (relOk_no hlt HN.out).symm, BW.out⟩
      · have H1 := Lib.hid h1
        clear h1
        by_cases hk0 : k = 0
        · have HA := Lib.hid (show relAt zs k = true from by rw [relAt_of HX.out hk0, H1.out])
          have hkd : decide ((0 : Int) < (k : Int)) = false := by simp; omega
          have hke : decide (0 < k) = false := by simp; omega
          have H0 := Lib.hid hk0
          clear hk0
          go_wp2_with fail
          refine wp_region_later (by kernel_rfl) (by kernel_rfl) ?_
          intro f hf1 hf2 hfc
          repeat (go_big_quiet_step ((go_at_call 116; exact calls_later hf1 hf2 (l2RowOk_val _ _ _ hm.1 hm.2 H1.out))))
          refine wpQuiet_nil ?_
          rintro _ ⟨v, rfl⟩
          have hbf := hf1.out v
          replace c0 := cellBelow hbf hb c0
          replace c1 := cellBelow hbf hb c1
          replace c2 := cellBelow hbf hb c2
          replace c3 := cellBelow hbf hb c3
          replace hb := Nat.lt_of_lt_of_le hb hbf.size
          have BW := Lib.hid (hbr.trans (hbf.mono hbr.size))
          clear hbf hfc hf1 hf2
          generalize f v = W at *
          clear v f
          go_wp2_with fail
          go_quiet (fail)
          go_wp2
          go_roundw
          case rel => exact ⟨k + 1, by omega, by go_num, (fun j hj => by
            by_cases e : j = k
            · subst e; exact HA.out
            · exact Hall.out j (by omega)), below_drewN BW.out _⟩
          case measure => simp [intOf]; omega
        · obtain ⟨b', off', y, e1, hb', hy, d0, d1, d2, d3⟩ := (HZ.out.below hbr).at_ (show k - 1 < zs.length by omega)
          injection e1 with e1
          injection e1 with e1 e2 e3
          subst e1 e2
          have hkd : decide ((0 : Int) < (k : Int)) = true := by simp; omega
          have hke : decide (0 < k) = true := by simp; omega
          have hke' : 0 < k := by omega
          have hkp : (0 : Int) < (k : Int) := by omega
          have hkp1 : (0 : Int) ≤ (k : Int) - 1 := by omega
          have hkp2 : (k : Int) - 1 < (zs.length : Int) := by omega
          have hkn : ((k : Int) - 1).toNat = k - 1 := by omega
          have HA := Lib.hid (relAt_of2 HX.out hk0 hy)
          have HL := Lib.hid (show leadB y x = (lessB y x && !clashB y x) from by
            refine lead_eq y x ?_
            have h := Hall.out (k - 1) (by omega)
            rw [relAt, getD_of hy, Bool.and_eq_true] at h
            have h2 := h.1
            simp only [rowOk, okSpan, Bool.and_eq_true, decide_eq_true_eq] at h2
            exact h2.2.2.1)
          clear hy hk0
          cases h2 : lessB y x
          · have H2 := Lib.hid h2
            clear h2
            go_wp2_with fail
            refine wp_region_later (by kernel_rfl) (by kernel_rfl) ?_
            intro f hf1 hf2 hfc
            repeat (go_big_quiet_step ((first | (go_at_call 116; exact calls_later hf1 hf2 (l2RowOk_val _ _ _ hm.1 hm.2 H1.out)) | (go_at_call 117; exact calls_later hf1 hf2 (l2Less_val _ _ _ _ H2.out)))))
            refine wpQuiet_nil ?_
            rintro _ ⟨v, rfl⟩
            have hbf := hf1.out v
            replace c0 := cellBelow hbf hb c0
            replace c1 := cellBelow hbf hb c1
            replace c2 := cellBelow hbf hb c2
            replace c3 := cellBelow hbf hb c3
            replace d0 := cellBelow hbf hb d0
            replace d1 := cellBelow hbf hb d1
            replace d2 := cellBelow hbf hb d2
            replace d3 := cellBelow hbf hb d3
            replace hb := Nat.lt_of_lt_of_le hb hbf.size
            have BW := Lib.hid (hbr.trans (hbf.mono hbr.size))
            clear hbf hfc hf1 hf2
            generalize f v = W at *
            clear v f
            go_wp2
            go_ret
            exact ⟨ret_bool (relOk_no hlt (by rw [HA.out, H1.out, HL.out, H2.out]; rfl)).symm, BW.out⟩
          · have H2 := Lib.hid h2
            clear h2
            go_wp2_with fail
            refine wp_region_later (by kernel_rfl) (by kernel_rfl) ?_
            intro f hf1 hf2 hfc
            repeat (go_big_quiet_step ((first | (go_at_call 116; exact calls_later hf1 hf2 (l2RowOk_val _ _ _ hm.1 hm.2 H1.out)) | (go_at_call 117; exact calls_later hf1 hf2 (l2Less_val _ _ _ _ H2.out)))))
            refine wpQuiet_nil ?_
            rintro _ ⟨v, rfl⟩
            have hbf := hf1.out v
            replace c0 := cellBelow hbf hb c0
            replace c1 := cellBelow hbf hb c1
            replace c2 := cellBelow hbf hb c2
            replace c3 := cellBelow hbf hb c3
            replace d0 := cellBelow hbf hb d0
            replace d1 := cellBelow hbf hb d1
            replace d2 := cellBelow hbf hb d2
            replace d3 := cellBelow hbf hb d3
            replace hb := Nat.lt_of_lt_of_le hb hbf.size
            have BW := Lib.hid (hbr.trans (hbf.mono hbr.size))
            clear hbf hfc hf1 hf2
            generalize f v = W at *
            clear v f
            cases hkey : (y.k.toList == x.k.toList)
            · have HC := Lib.hid (show clashB y x = false from by unfold clashB; rw [hkey]; rfl)
              go_wp2_with fail
              go_quiet (fail)
              go_wp2
              go_roundw
              case rel => exact ⟨k + 1, by omega, by go_num, (fun j hj => by
                by_cases e : j = k
                · subst e; rw [HA.out, H1.out, HL.out, H2.out, HC.out]; rfl
                · exact Hall.out j (by omega)), below_drewN BW.out _⟩
              case measure => simp [intOf]; omega
            · cases hlt1 : decide (x.f < y.e)
              · cases heq : decide (x.f = y.e)
                · have heq' : (x.f == y.e) = false := by simpa using heq
                  have HC := Lib.hid (show clashB y x = false from by unfold clashB; rw [hkey, hlt1, heq]; rfl)
                  go_wp2_with fail
                  go_quiet (fail)
                  go_wp2
                  go_roundw
                  case rel => exact ⟨k + 1, by omega, by go_num, (fun j hj => by
                    by_cases e : j = k
                    · subst e; rw [HA.out, H1.out, HL.out, H2.out, HC.out]; rfl
                    · exact Hall.out j (by omega)), below_drewN BW.out _⟩
                  case measure => simp [intOf]; omega
                · have heq' : (x.f == y.e) = true := by simpa using heq
                  cases htx : (x.t.toList == y.t.toList)
                  · have HC := Lib.hid (show clashB y x = false from by unfold clashB; rw [hkey, hlt1, heq, htx]; rfl)
                    go_wp2_with fail
                    go_quiet (fail)
                    go_wp2
                    go_roundw
                    case rel => exact ⟨k + 1, by omega, by go_num, (fun j hj => by
                      by_cases e : j = k
                      · subst e; rw [HA.out, H1.out, HL.out, H2.out, HC.out]; rfl
                      · exact Hall.out j (by omega)), below_drewN BW.out _⟩
                    case measure => simp [intOf]; omega
                  · have HC := Lib.hid (show clashB y x = true from by unfold clashB; rw [hkey, hlt1, heq, htx]; rfl)
                    go_wp2_with fail
                    go_quiet (fail)
                    go_wp2
                    go_ret
                    exact ⟨ret_bool (relOk_no hlt (by rw [HA.out, H1.out, HL.out, H2.out, HC.out]; rfl)).symm, below_drewN BW.out _⟩
              · have HC := Lib.hid (show clashB y x = true from by unfold clashB; rw [hkey, hlt1]; rfl)
                go_wp2_with fail
                go_quiet (fail)
                go_wp2
                go_ret
                exact ⟨ret_bool (relOk_no hlt (by rw [HA.out, H1.out, HL.out, H2.out, HC.out]; rfl)).symm, below_drewN BW.out _⟩
    · go_wp2
      go_ret
      refine ⟨ret_bool ?_, hbr⟩
      by_cases hlen : zs.length ≤ 24
      · rw [relOk_yes hlen fun j hj => Hall.out j (by omega)]
        simp; omega
      · rw [relOk_long (by omega)]
        simp; omega

end Go.Proofs.Ytphinkcfmdnpfaa
