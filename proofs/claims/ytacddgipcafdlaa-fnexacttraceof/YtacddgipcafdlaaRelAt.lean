/-
  Walks: all that holds at a point.
-/
import Derived.Test.YtacddgipcafdlaaRelS
import Derived.Test.YtacddgipcafdlaaHas
import Derived.StillTailTactics
import Derived.OwnWalk
namespace Go.Proofs.Ytacddgipcafdlaa
open Go.RowKit

def pairOf (x : RowV) : PairV := ⟨x.k, x.t⟩
def atTo (zs : List RowV) (c : Int) (k : Nat) : List PairV := ((zs.take k).filter fun x => hasB x.f x.e c).map pairOf
def relAtL (zs : List RowV) (c : Int) : List PairV := if relOk zs then atTo zs c zs.length else []
theorem atTo_succ {zs : List RowV} {c : Int} {k : Nat} {x : RowV} (hx : zs[k]? = some x) : atTo zs c (k + 1) = atTo zs c k ++ (if hasB x.f x.e c then [pairOf x] else []) := by
  obtain ⟨hk, hx⟩ := List.getElem?_eq_some_iff.1 hx
  subst hx
  unfold atTo
  rw [List.take_succ_eq_append_getElem hk, List.filter_append, List.map_append]
  by_cases h : hasB zs[k].f zs[k].e c = true <;> simp [h]
theorem atTo_len (zs : List RowV) (c : Int) (k : Nat) : (atTo zs c k).length ≤ k := by
  unfold atTo
  rw [List.length_map]
  have := List.length_filter_le (fun x : RowV => hasB x.f x.e c) (zs.take k)
  rw [List.length_take] at this
  omega
theorem relAtL_len (zs : List RowV) (c : Int) : (relAtL zs c).length ≤ 24 := by
  unfold relAtL
  by_cases h : relOk zs = true
  · rw [if_pos h]
    have := atTo_len zs c zs.length
    have := relOk_len h
    omega
  · rw [if_neg h]; simp

theorem newsTwo {w : World} {g : Nat} {f t : Value} (h0 : w.cell? ⟨g, 0, none⟩ = some f) (h1 : w.cell? ⟨g, 1, none⟩ = some t) : ∀ j u, [f, t][j]? = some u → w.cell? ((⟨g, 0, none⟩ : Addr).add j) = some u := by
  intro j u h
  match j, h with
  | 0, h => simp at h; subst h; simpa [Addr.add] using h0
  | 1, h => simp at h; subst h; simpa [Addr.add] using h1
  | j + 2, h => simp at h

theorem has_val (a b c : Int) (w : World) (v : Bool) (h : hasB a b c = v) : Calls Try.prog 115 #[.agg #[.int .i64 a, .int .i64 b], .int .i64 c] w fun e w' => e = .returned (.bool v) ∧ Below w.heap.size w w' := by
  subst h; exact has_any a b c w
theorem l1Has_val (a b c : Int) (w : World) (v : Bool) (h : hasB a b c = v) : Calls Try.prog 141 #[.agg #[.int .i64 a, .int .i64 b], .int .i64 c] w fun e w' => e = .returned (.bool v) ∧ Below w.heap.size w w' := by
  subst h; exact l1Has_any a b c w

theorem ownPairs {w : World} {base n : Nat} {v : Value} {o : List PairV} {x : PairV} {t : TypeId} (h : w.ownsRow base t 2 v n (flatOf pairC o ++ [.string x.k, .string x.t])) (hn : n = o.length + 1) : w.ownsRow base t 2 v (o ++ [x]).length (flatOf pairC (o ++ [x])) := by
  rw [flatOf_append, flatOf_one, List.length_append, List.length_singleton]
  subst hn
  exact h

end Go.Proofs.Ytacddgipcafdlaa
