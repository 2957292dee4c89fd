/-
  Plain lemmas: slices of numbers and of what was known. No program is named here.
-/
import Derived.Test.YtmfpojminbkojaaRowD
namespace Go.Proofs.Ytmfpojminbkojaa
open Go.RowKit

def intC (n : Int) : List Value := [.int .i64 n]
theorem intC_len (n : Int) : (intC n).length = 1 := rfl
theorem intC_one (n : Int) : ∀ v ∈ intC n, v.oneCell' = true := by intro v h; simp [intC] at h; subst h; rfl
structure TraV where
  k : Int
  t : ByteArray
def traC (r : TraV) : List Value := [.int .i64 r.k, .string r.t]
def tra0 : TraV := ⟨0, ByteArray.empty⟩
theorem traC_len (r : TraV) : (traC r).length = 2 := rfl
theorem traC_one (r : TraV) : ∀ v ∈ traC r, v.oneCell' = true := by intro v h; simp [traC] at h; rcases h with rfl | rfl <;> rfl

/-- The slice holds these numbers, traces. -/
def IntsA (w : World) (A : Option Addr) (zs : List Int) : Prop := ElAt intC 1 w A zs
def TrasA (w : World) (A : Option Addr) (zs : List TraV) : Prop := ElAt traC 2 w A zs
theorem IntsA.below {w w' : World} {A : Option Addr} {l : List Int} (h : IntsA w A l) (hb : Below w.heap.size w w') : IntsA w' A l := ElAt.below h hb
theorem TrasA.below {w w' : World} {A : Option Addr} {l : List TraV} (h : TrasA w A l) (hb : Below w.heap.size w w') : TrasA w' A l := ElAt.below h hb
theorem IntsA.at_ {w : World} {A : Option Addr} {l : List Int} (h : IntsA w A l) {i : Nat} (hi : i < l.length) : ∃ b off x, A = some ⟨b, off, none⟩ ∧ b < w.heap.size ∧ l[i]? = some x ∧ w.cell? ⟨b, off + i, none⟩ = some (.int .i64 x) := by
  obtain ⟨b, off, e, hlt, hc⟩ := h (by omega)
  have hx : l[i]? = some l[i] := List.getElem?_eq_getElem hi
  have := hc i _ hx 0 _ rfl
  rw [Nat.mul_one, Nat.add_zero] at this
  exact ⟨b, off, _, e, hlt, hx, this⟩
theorem TrasA.at_ {w : World} {A : Option Addr} {l : List TraV} (h : TrasA w A l) {i : Nat} (hi : i < l.length) : ∃ b off x, A = some ⟨b, off, none⟩ ∧ b < w.heap.size ∧ l[i]? = some x ∧ w.cell? ⟨b, off + i * 2, none⟩ = some (.int .i64 x.k) ∧ w.cell? ⟨b, off + i * 2 + 1, none⟩ = some (.string x.t) := by
  obtain ⟨b, off, e, hlt, hc⟩ := h (by omega)
  have hx : l[i]? = some l[i] := List.getElem?_eq_getElem hi
  exact ⟨b, off, _, e, hlt, hx, hc i _ hx 0 _ rfl, hc i _ hx 1 _ rfl⟩
end Go.Proofs.Ytmfpojminbkojaa
