/-
  Walks: what is drawn of a code: lists of spans.
-/
import Derived.Test.YtfolppahdmkaoaaDrawB
import Derived.Test.YtfolppahdmkaoaaAdd
namespace Go.Proofs.Ytfolppahdmkaoaa
open Go.RowKit

theorem grown_new {w a b : World} {R g : Nat} (h : w.grownBy a (some R)) (k : a.grownBy b (some g)) (hg : w.heap.size ≤ g) : w.grownBy b (some R) :=
  ⟨k.os.trans h.os, k.tape.trans h.tape, k.output.trans h.output, Nat.le_trans h.size k.size, fun j hj hne => (k.block j (Nat.lt_of_lt_of_le hj h.size) (fun e => by injection e with e; omega)).trans (h.block j hj hne)⟩
theorem rd_grown {a b : World} {R g : Nat} {zs : List Int} {p : Int} (h : Rd a R zs p) (k : a.grownBy b (some g)) (hg : R < g) : Rd b R zs p := by
  have hR := h.lt
  obtain ⟨A, cap, h0, h1, h2, h3, h4, h5⟩ := h
  refine ⟨A, cap, grown_cell k (by omega) h0, grown_cell k (by omega) h1, (World.frozen?_of_block (a := ⟨R, 1, none⟩) (k.block R hR (fun e => by injection e with e; omega))).trans h2, h3, h4, fun hn => ?_⟩
  obtain ⟨b, off, e, hlt, hc⟩ := h5 hn
  exact ⟨b, off, e, hlt, fun i hi => grown_cell k (by omega) (hc i hi)⟩

def DrawnList (w : World) (R : Nat) (bs : List Int) (p c : Int) (n : Nat) (e : Ending) (w' : World) : Prop :=
  ∃ zs g cap, e = .returned (.slice (some ⟨g, 0, none⟩) zs.length cap) ∧ zs.length ≤ n ∧ w'.ownsRow w.heap.size 43 2 (.slice (some ⟨g, 0, none⟩) zs.length cap) zs.length (flat zs) ∧
    ∃ p', p ≤ p' ∧ p' ≤ p + c ∧ Rd w' R bs p' ∧ w.grownBy w' (some R)

/-- Between two rounds. -/
def RelS (w : World) (R : Nat) (bs : List Int) (p : Int) (m : Nat) (v : Value) (wr : World) : Prop :=
  ∃ zs p', zs.length + m ≤ 6 ∧ wr.ownsRow w.heap.size 43 2 v zs.length (flat zs) ∧ v ≠ .slice none 0 0 ∧ p ≤ p' ∧ p' + 3 * m ≤ p + 19 ∧ Rd wr R bs p' ∧ w.grownBy wr (some R)

/-- Between two rounds of l20Set. -/
def RelT (w : World) (R : Nat) (bs : List Int) (p : Int) (k : Nat) (v : Value) (wr : World) : Prop :=
  ∃ zs, zs.length + 1 ≤ 2 ^ k ∧ wr.ownsRow w.heap.size 43 2 v zs.length (flat zs) ∧ v ≠ .slice none 0 0 ∧ Rd wr R bs p ∧ w.grownBy wr (some R)

theorem pow_step {k : Nat} (h : k < 6) : 2 ^ (k + 1) ≤ 64 := by
  have := Nat.pow_le_pow_right (show 0 < 2 by omega) (show k + 1 ≤ 6 by omega)
  simpa using this

end Go.Proofs.Ytfolppahdmkaoaa
