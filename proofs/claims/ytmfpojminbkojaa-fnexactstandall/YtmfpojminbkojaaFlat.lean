/-
  Plain lemmas: a list of pairs as a row of cells; rows that a call owns. No program is named here.
-/
import Derived.WalkKit
import Derived.Below
namespace Go.Proofs.Ytmfpojminbkojaa
open Go.RowKit

/-- The slice's first cells hold these spans. -/
def Spans (w : World) (A : Option Addr) (zs : List (Int × Int)) : Prop :=
  0 < zs.length → ∃ b off, A = some ⟨b, off, none⟩ ∧ ∀ i, i < zs.length → w.cell? ⟨b, off + i * 2, none⟩ = some (.int .i64 (zs.getD i (0, 0)).1) ∧ w.cell? ⟨b, off + i * 2 + 1, none⟩ = some (.int .i64 (zs.getD i (0, 0)).2)

theorem cell_below {w w' : World} {n b o : Nat} {v : Value} (hb : Below n w w') (h : b < n) (hc : w.cell? ⟨b, o, none⟩ = some v) : w'.cell? ⟨b, o, none⟩ = some v :=
  (hb.cell (p := ⟨b, o, none⟩) h).trans hc

theorem Spans.below {w w' : World} {A : Option Addr} {zs : List (Int × Int)} (h : Spans w A zs) (hb : Below w.heap.size w w') : Spans w' A zs := fun hn => by
  obtain ⟨b, off, e, hc⟩ := h hn
  refine ⟨b, off, e, fun i hi => ?_⟩
  obtain ⟨h1, h2⟩ := hc i hi
  exact ⟨cell_below hb (World.block_lt_of_cell? _ _ h1) h1, cell_below hb (World.block_lt_of_cell? _ _ h2) h2⟩

def flat : List (Int × Int) → List Value
  | [] => []
  | p :: l => .int .i64 p.1 :: .int .i64 p.2 :: flat l

theorem flat_length : ∀ l : List (Int × Int), (flat l).length = l.length * 2
  | [] => rfl
  | p :: l => by simp [flat, flat_length l]; omega
theorem flat_append : ∀ l m : List (Int × Int), flat (l ++ m) = flat l ++ flat m
  | [], m => rfl
  | p :: l, m => by simp [flat, flat_append l m]
theorem flat_get0 : ∀ (l : List (Int × Int)) (i : Nat), i < l.length → (flat l)[i * 2]? = some (.int .i64 (l.getD i (0, 0)).1)
  | [], i, h => by simp at h
  | p :: l, 0, _ => by simp [flat]
  | p :: l, i + 1, h => by
    have := flat_get0 l i (by simpa using h)
    rw [show (i + 1) * 2 = i * 2 + 1 + 1 from by omega]
    simpa [flat] using this
theorem flat_get1 : ∀ (l : List (Int × Int)) (i : Nat), i < l.length → (flat l)[i * 2 + 1]? = some (.int .i64 (l.getD i (0, 0)).2)
  | [], i, h => by simp at h
  | p :: l, 0, _ => by simp [flat]
  | p :: l, i + 1, h => by
    have := flat_get1 l i (by simpa using h)
    rw [show (i + 1) * 2 + 1 = i * 2 + 1 + 1 + 1 from by omega]
    simpa [flat] using this
theorem flat_set : ∀ (l : List (Int × Int)) (i : Nat) (a b : Int), ((flat l).set (i * 2) (.int .i64 a)).set (i * 2 + 1) (.int .i64 b) = flat (l.set i (a, b))
  | [], i, a, b => by simp [flat]
  | p :: l, 0, a, b => by simp [flat]
  | p :: l, i + 1, a, b => by
    have := flat_set l i a b
    rw [show (i + 1) * 2 = i * 2 + 1 + 1 from by omega]
    simpa [flat] using this
theorem flat_one : ∀ (l : List (Int × Int)), ∀ u ∈ flat l, u.oneCell' = true
  | [], u, h => by simp [flat] at h
  | p :: l, u, h => by
    simp [flat] at h
    rcases h with rfl | rfl | h
    · rfl
    · rfl
    · exact flat_one l u h

theorem made_flat (n : Nat) : (madeCells (Value.agg #[.int .i64 0, .int .i64 0]).cells (n * 2)).toList = flat (List.replicate n (0, 0)) := by
  apply List.ext_getElem?
  intro j
  by_cases hj : j < n * 2
  · rcases Nat.mod_two_eq_zero_or_one j with h | h
    · obtain ⟨i, rfl⟩ : ∃ i, j = i * 2 := ⟨j / 2, by omega⟩
      rw [flat_get0 _ _ (by simp; omega)]
      have hi : i < n := by omega
      simp [madeCells, Value.cells, hj, hi]
    · obtain ⟨i, rfl⟩ : ∃ i, j = i * 2 + 1 := ⟨j / 2, by omega⟩
      rw [flat_get1 _ _ (by simp; omega)]
      have hi : i < n := by omega
      have hm : (i * 2 + 1) % 2 = 1 := by omega
      simp [madeCells, Value.cells, hj, hi, hm]
  · rw [List.getElem?_eq_none (by simp [madeCells]; omega), List.getElem?_eq_none (by simp [flat_length]; omega)]

theorem owns_below {w w' : World} {B base : Nat} {e : TypeId} {size g n cap : Nat} {xs : List Value} (h : w.ownsRow base e size (.slice (some ⟨g, 0, none⟩) n cap) n xs) (hb : Below B w w') (hg : g < B) :
    w'.ownsRow base e size (.slice (some ⟨g, 0, none⟩) n cap) n xs := by
  refine ⟨h.1, ?_⟩
  rcases h.2 with hn | ⟨g', cap', cur, he, hb', hgg, rest⟩
  · exact .inl hn
  · refine .inr ⟨g', cap', cur, he, hb', ?_, rest⟩
    have : g' = g := by injection he with h1; injection h1 with h1; injection h1 with h1; exact h1.symm
    subst this
    rw [hb.block _ hg]; exact hgg

theorem spans_of_owns {w : World} {base g n cap : Nat} {zs : List (Int × Int)} (h : w.ownsRow base 25 2 (.slice (some ⟨g, 0, none⟩) n cap) n (flat zs)) (hn : n = zs.length) : Spans w (some ⟨g, 0, none⟩) zs := fun _ => by
  subst hn
  refine ⟨g, 0, rfl, fun i hi => ?_⟩
  have c0 := h.cellAt (i * 2) (by omega)
  have c1 := h.cellAt (i * 2 + 1) (by omega)
  rw [flat_get0 zs i hi] at c0
  rw [flat_get1 zs i hi] at c1
  exact ⟨by simpa using c0, by simpa using c1⟩

def done (zs : List (Int × Int)) (k : Nat) : List (Int × Int) := zs.take k ++ List.replicate (zs.length - k) (0, 0)
theorem done_zero (zs : List (Int × Int)) : done zs 0 = List.replicate zs.length (0, 0) := by simp [done]
theorem done_all (zs : List (Int × Int)) : done zs zs.length = zs := by simp [done]
theorem done_length (zs : List (Int × Int)) (k : Nat) (hk : k ≤ zs.length) : (done zs k).length = zs.length := by simp [done]; omega
theorem done_set (zs : List (Int × Int)) (k : Nat) (hk : k < zs.length) : (done zs k).set k ((zs.getD k (0, 0)).1, (zs.getD k (0, 0)).2) = done zs (k + 1) := by
  have e : (zs.getD k (0, 0)) = zs[k] := by simp [hk]
  rw [e]
  unfold done
  rw [List.take_succ_eq_append_getElem hk, List.set_append_right _ _ (by simp; omega), List.length_take, Nat.min_eq_left (by omega), Nat.sub_self,
    show zs.length - k = (zs.length - (k + 1)) + 1 from by omega, List.replicate_succ]
  simp only [List.set_cons_zero, List.append_assoc, List.cons_append, List.nil_append]
end Go.Proofs.Ytmfpojminbkojaa
