/-
  Plain lemmas: versions of rows, slices of them. No program is named here.
-/
import Derived.Test.YtacddgipcafdlaaRowD
namespace Go.Proofs.Ytacddgipcafdlaa
open Go.RowKit

/-- A version: a row, from which stamp on, and ahead of which. -/
structure VerV where
  r : RowV
  i : Int
  o : Int
def verC (x : VerV) : List Value := [.string x.r.k, .string x.r.t, .int .i64 x.r.f, .int .i64 x.r.e, .int .i64 x.i, .int .i64 x.o]
def ver0 : VerV := ⟨row0, 0, 0⟩
theorem verC_len (x : VerV) : (verC x).length = 6 := rfl
theorem verC_one (x : VerV) : ∀ v ∈ verC x, v.oneCell' = true := by intro v h; simp [verC] at h; rcases h with rfl | rfl | rfl | rfl | rfl | rfl <;> rfl
/-- The slice holds these versions. -/
def VersA (w : World) (A : Option Addr) (zs : List VerV) : Prop := ElAt verC 6 w A zs
theorem VersA.below {w w' : World} {A : Option Addr} {l : List VerV} (h : VersA w A l) (hb : Below w.heap.size w w') : VersA w' A l := ElAt.below h hb
theorem VersA.at_ {w : World} {A : Option Addr} {l : List VerV} (h : VersA w A l) {i : Nat} (hi : i < l.length) : ∃ b off x, A = some ⟨b, off, none⟩ ∧ b < w.heap.size ∧ l[i]? = some x ∧ w.cell? ⟨b, off + i * 6, none⟩ = some (.string x.r.k) ∧ w.cell? ⟨b, off + i * 6 + 1, none⟩ = some (.string x.r.t) ∧ w.cell? ⟨b, off + i * 6 + 2, none⟩ = some (.int .i64 x.r.f) ∧ w.cell? ⟨b, off + i * 6 + 3, none⟩ = some (.int .i64 x.r.e) ∧ w.cell? ⟨b, off + i * 6 + 4, none⟩ = some (.int .i64 x.i) ∧ w.cell? ⟨b, off + i * 6 + 5, none⟩ = some (.int .i64 x.o) := by
  obtain ⟨b, off, e, hlt, hc⟩ := h (by omega)
  have hx : l[i]? = some l[i] := List.getElem?_eq_getElem hi
  exact ⟨b, off, _, e, hlt, hx, hc i _ hx 0 _ rfl, hc i _ hx 1 _ rfl, hc i _ hx 2 _ rfl, hc i _ hx 3 _ rfl, hc i _ hx 4 _ rfl, hc i _ hx 5 _ rfl⟩
/-- Texts that are not too long. -/
def ShortV (zs : List VerV) : Prop := ∀ x ∈ zs, x.r.k.size ≤ maxLen ∧ x.r.t.size ≤ maxLen
end Go.Proofs.Ytacddgipcafdlaa
