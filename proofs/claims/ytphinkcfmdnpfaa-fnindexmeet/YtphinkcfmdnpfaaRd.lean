/-
  Plain lemmas on what a reader of bytes holds. No program is named here.
-/
import Derived.WalkKit
import Derived.Below
import Derived.Laws.BitsAllLaws
import Derived.Deep.Draws
import Derived.IntWalk
namespace Go.Proofs.Ytphinkcfmdnpfaa
open Go.RowKit

theorem i64_xor_nat (a b : Nat) (ha : a < 4611686018427387904) (hb : b < 4611686018427387904) : bits .xor .i64 (a : Int) (b : Int) = ((a ^^^ b : Nat) : Int) := by
  have hx : a ^^^ b < 2 ^ 62 := Nat.xor_lt_two_pow (by omega) (by omega)
  have h1 : (BitVec.ofInt 64 (a : Int)).toNat = a := by
    rw [BitVec.ofInt_natCast, BitVec.toNat_ofNat]; exact Nat.mod_eq_of_lt (by omega)
  have h2 : (BitVec.ofInt 64 (b : Int)).toNat = b := by
    rw [BitVec.ofInt_natCast, BitVec.toNat_ofNat]; exact Nat.mod_eq_of_lt (by omega)
  show IntKind.i64.wrap ((BitVec.ofInt 64 (a : Int) ^^^ BitVec.ofInt 64 (b : Int)).toNat : Int) = _
  rw [BitVec.toNat_xor, h1, h2]
  simp [IntKind.wrap, IntKind.bits, IntKind.signed]
  omega
theorem i64_xor_nn (a b : Int) (h0 : 0 ≤ a) (h1 : a < 4611686018427387904) (h2 : 0 ≤ b) (h3 : b < 4611686018427387904) : 0 ≤ bits .xor .i64 a b := by
  obtain ⟨x, rfl⟩ := Int.eq_ofNat_of_zero_le h0
  obtain ⟨y, rfl⟩ := Int.eq_ofNat_of_zero_le h2
  rw [i64_xor_nat x y (by omega) (by omega)]
  exact Int.natCast_nonneg _

theorem pick_x (z y k l : Int) (z0 : 0 ≤ z) (z1 : z ≤ 255) (y0 : 0 ≤ y) (y1 : y ≤ 255) (k0 : 0 ≤ k) (k1 : k ≤ 1000000) (l0 : 0 < l) :
    ∃ X, wrap64 (z * 131 + y * 1117 + k * 29 + wrap64 (wrap64 (k / l) * 53)) = X ∧ 0 ≤ X ∧ X ≤ 1000000000 := by
  have h1 : 0 ≤ k / l := Int.ediv_nonneg k0 (by omega)
  have h2 : k / l ≤ k := Int.ediv_le_self _ k0
  generalize k / l = q at *
  rw [IntWalk.wrap64_in q (by omega), IntWalk.wrap64_in (q * 53) (by omega), IntWalk.wrap64_in _ (by omega)]
  exact ⟨_, rfl, by omega, by omega⟩
theorem pick_v (X n : Int) (h0 : 0 ≤ X) (h1 : X ≤ 1000000000) (hn : 1 ≤ n) :
    0 ≤ (bits BinOp.xor IntKind.i64 X (wrap64 (X.tdiv 64))).tmod n ∧ (bits BinOp.xor IntKind.i64 X (wrap64 (X.tdiv 64))).tmod n < n := by
  have hd : X.tdiv 64 = X / 64 := Int.tdiv_eq_ediv_of_nonneg h0
  rw [hd, IntWalk.wrap64_in _ (by omega)]
  have hx := i64_xor_nn X (X / 64) h0 (by omega) (by omega) (by omega)
  generalize bits BinOp.xor IntKind.i64 X (X / 64) = v at *
  exact ⟨Int.tmod_nonneg _ hx, Int.tmod_lt_of_pos _ (by omega)⟩

/-- The slice's bytes. -/
def Bytes (w : World) (B : Nat) (A : Option Addr) (zs : List Int) : Prop :=
  (∀ z ∈ zs, 0 ≤ z ∧ z ≤ 255) ∧ (0 < zs.length → ∃ b off, A = some ⟨b, off, none⟩ ∧ b < B ∧ ∀ i, i < zs.length → w.cell? ⟨b, off + i, none⟩ = some (.int .u8 (zs.getD i 0)))

/-- What a reader holds: the bytes, and how many have been read. -/
def Rd (w : World) (R : Nat) (zs : List Int) (p : Int) : Prop :=
  ∃ A cap, w.cell? ⟨R, 0, none⟩ = some (.slice A zs.length cap) ∧ w.cell? ⟨R, 1, none⟩ = some (.int .i64 p) ∧ w.frozen? ⟨R, 1, none⟩ = false ∧ zs.length ≤ 2000 ∧ Bytes w R A zs

theorem grown_trans {a b c : World} {r : Nat} (h : a.grownBy b (some r)) (k : b.grownBy c (some r)) : a.grownBy c (some r) :=
  ⟨k.os.trans h.os, k.tape.trans h.tape, k.output.trans h.output, Nat.le_trans h.size k.size, fun j hj hne => (k.block j (Nat.lt_of_lt_of_le hj h.size) hne).trans (h.block j hj hne)⟩
theorem grown_of_below {a b : World} {r : Nat} (h : Below a.heap.size a b) : a.grownBy b (some r) := ⟨h.os, h.tape, h.output, h.size, fun j hj _ => h.block j hj⟩
theorem grown_set {w : World} {r o : Nat} (u : Value) : w.grownBy (w.setCell ⟨r, o, none⟩ u) (some r) :=
  ⟨rfl, rfl, rfl, by simp [World.setCell], fun j _ hne => Below.heap_setCell _ _ _ _ (fun e => hne (by rw [e]))⟩
theorem grown_drewN {w w' : World} {r : Option Nat} (h : w.grownBy w' r) (n : Nat) : w.grownBy (w'.drewN n) r := ⟨h.os, h.tape, h.output, h.size, h.block⟩
theorem grown_refl (w : World) (r : Option Nat) : w.grownBy w r := ⟨rfl, rfl, rfl, Nat.le_refl _, fun _ _ _ => rfl⟩
theorem grown_alloc {w w' : World} {r : Option Nat} (h : w.grownBy w' r) (o : Obj) : w.grownBy (w'.alloc o) r :=
  ⟨h.os, h.tape, h.output, Nat.le_trans h.size (by simp), fun j hj hne => (Below.heap_alloc _ _ _ (Nat.lt_of_lt_of_le hj h.size)).trans (h.block j hj hne)⟩
theorem grown_cell {w w' : World} {r b o : Nat} {v : Value} (h : w.grownBy w' (some r)) (hne : b ≠ r) (hc : w.cell? ⟨b, o, none⟩ = some v) : w'.cell? ⟨b, o, none⟩ = some v :=
  (World.cell?_of_block (a := ⟨b, o, none⟩) (h.block b (World.block_lt_of_cell? w _ hc) (fun e => hne (by injection e)))).trans hc
theorem grown_below {w0 w w' : World} {r : Nat} (hb : Below w0.heap.size w0 w) (h : w.grownBy w' (some r)) (hr : w0.heap.size ≤ r) : Below w0.heap.size w0 w' :=
  hb.grown h hb.size (fun k e => by injection e with e; omega)

theorem Rd.lt {w : World} {R : Nat} {zs : List Int} {p : Int} (h : Rd w R zs p) : R < w.heap.size := by
  obtain ⟨A, cap, h0, _⟩ := h
  exact World.block_lt_of_cell? w _ h0
/-- What lies below the reader's block is as it was, and the reader's block too: it is kept. -/
theorem Rd.kept {w w' : World} {R : Nat} {zs : List Int} {p : Int} (h : Rd w R zs p) (hb : Below w.heap.size w w') : Rd w' R zs p := by
  have hR := h.lt
  obtain ⟨A, cap, h0, h1, h2, h3, h4, h5⟩ := h
  refine ⟨A, cap, (hb.cell (p := ⟨R, 0, none⟩) hR).trans h0, (hb.cell (p := ⟨R, 1, none⟩) hR).trans h1, (hb.frozen (p := ⟨R, 1, none⟩) hR).trans h2, h3, h4, fun hn => ?_⟩
  obtain ⟨b, off, e, hlt, hc⟩ := h5 hn
  exact ⟨b, off, e, hlt, fun i hi => (hb.cell (p := ⟨b, off + i, none⟩) (by show b < _; omega)).trans (hc i hi)⟩
end Go.Proofs.Ytphinkcfmdnpfaa
