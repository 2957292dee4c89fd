/-
  Plain lemmas: a span put into a list of spans. No program is named here.
-/
import Derived.Test.YtphinkcfmdnpfaaMeet
namespace Go.Proofs.Ytphinkcfmdnpfaa
open Go.RowKit

/-- What the first loop has gathered behind k rounds: the spans that end ahead of the span, and the span, grown. -/
def scan (zs : List (Int × Int)) (s : Int × Int) : Nat → List (Int × Int) × Int × Int
  | 0 => ([], s.1, s.2)
  | k + 1 =>
    if (zs.getD k (0, 0)).2 < (scan zs s k).2.1 then ((scan zs s k).1 ++ [((zs.getD k (0, 0)).1, (zs.getD k (0, 0)).2)], (scan zs s k).2.1, (scan zs s k).2.2)
    else if (zs.getD k (0, 0)).1 ≤ (scan zs s k).2.2 then
      ((scan zs s k).1, (if (zs.getD k (0, 0)).1 < (scan zs s k).2.1 then (zs.getD k (0, 0)).1 else (scan zs s k).2.1), (if (scan zs s k).2.2 < (zs.getD k (0, 0)).2 then (zs.getD k (0, 0)).2 else (scan zs s k).2.2))
    else scan zs s k

theorem scan_app {zs : List (Int × Int)} {s : Int × Int} {k : Nat} {o : List (Int × Int)} {x y f t : Int} (h : scan zs s k = (o, x, y)) (hf : (zs.getD k (0, 0)).1 = f) (ht : (zs.getD k (0, 0)).2 = t) (h1 : t < x) :
    scan zs s (k + 1) = (o ++ [(f, t)], x, y) := by rw [scan, h, hf, ht]; simp [h1]
theorem scan_skip {zs : List (Int × Int)} {s : Int × Int} {k : Nat} {o : List (Int × Int)} {x y f t : Int} (h : scan zs s k = (o, x, y)) (hf : (zs.getD k (0, 0)).1 = f) (ht : (zs.getD k (0, 0)).2 = t) (h1 : ¬ t < x) (h2 : ¬ f ≤ y) :
    scan zs s (k + 1) = (o, x, y) := by rw [scan, h, hf, ht]; simp [h1, h2]
theorem scan_grow {zs : List (Int × Int)} {s : Int × Int} {k : Nat} {o : List (Int × Int)} {x y f t x' y' : Int} (h : scan zs s k = (o, x, y)) (hf : (zs.getD k (0, 0)).1 = f) (ht : (zs.getD k (0, 0)).2 = t) (h1 : ¬ t < x) (h2 : f ≤ y)
    (hx : (if f < x then f else x) = x') (hy : (if y < t then t else y) = y') : scan zs s (k + 1) = (o, x', y') := by rw [scan, h, hf, ht]; simp [h1, h2, hx, hy]
theorem scan_len (zs : List (Int × Int)) (s : Int × Int) : ∀ k, (scan zs s k).1.length ≤ k
  | 0 => by simp [scan]
  | k + 1 => by
    have := scan_len zs s k
    rw [scan]
    split
    · simp; omega
    · split <;> (simp; omega)

/-- What the second loop has gathered behind k rounds. -/
def tailTo (zs : List (Int × Int)) (y : Int) : Nat → List (Int × Int)
  | 0 => []
  | k + 1 => if y < (zs.getD k (0, 0)).1 then tailTo zs y k ++ [((zs.getD k (0, 0)).1, (zs.getD k (0, 0)).2)] else tailTo zs y k
theorem tail_app {zs : List (Int × Int)} {y f t : Int} {k : Nat} (hf : (zs.getD k (0, 0)).1 = f) (ht : (zs.getD k (0, 0)).2 = t) (h : y < f) : tailTo zs y (k + 1) = tailTo zs y k ++ [(f, t)] := by
  rw [tailTo, hf, ht, if_pos h]
theorem tail_skip {zs : List (Int × Int)} {y f : Int} {k : Nat} (hf : (zs.getD k (0, 0)).1 = f) (h : ¬ y < f) : tailTo zs y (k + 1) = tailTo zs y k := by
  rw [tailTo, hf, if_neg h]
theorem tail_len (zs : List (Int × Int)) (y : Int) : ∀ k, (tailTo zs y k).length ≤ k
  | 0 => by simp [tailTo]
  | k + 1 => by
    have := tail_len zs y k
    rw [tailTo]
    split <;> (simp; omega)

/-- The list with the span put in. -/
def addL (zs : List (Int × Int)) (s : Int × Int) : List (Int × Int) :=
  (scan zs s zs.length).1 ++ [((scan zs s zs.length).2.1, (scan zs s zs.length).2.2)] ++ tailTo zs (scan zs s zs.length).2.2 zs.length
theorem addL_eq {zs : List (Int × Int)} {s : Int × Int} {o : List (Int × Int)} {x y : Int} (h : scan zs s zs.length = (o, x, y)) : o ++ [(x, y)] ++ tailTo zs y zs.length = addL zs s := by
  rw [addL, h]
theorem addL_len (zs : List (Int × Int)) (s : Int × Int) : (addL zs s).length ≤ 2 * zs.length + 1 := by
  have h1 := scan_len zs s zs.length
  have h2 := tail_len zs (scan zs s zs.length).2.2 zs.length
  simp [addL]
  omega

theorem flat_one_eq (f t : Int) : flat [(f, t)] = [.int .i64 f, .int .i64 t] := rfl
theorem owns_snoc {w : World} {base n : Nat} {v : Value} {o : List (Int × Int)} {f t : Int} (h : w.ownsRow base 29 2 v n (flat o ++ [.int .i64 f, .int .i64 t])) (hn : n = o.length + 1) :
    w.ownsRow base 29 2 v (o ++ [(f, t)]).length (flat (o ++ [(f, t)])) := by
  subst hn
  rw [flat_append, flat_one_eq]
  simpa using h
theorem news_two {w : World} {g : Nat} {f t : Value} (h0 : w.cell? ⟨g, 0, none⟩ = some f) (h1 : w.cell? ⟨g, 1, none⟩ = some t) : ∀ j u, [f, t][j]? = some u → w.cell? ((⟨g, 0, none⟩ : Addr).add j) = some u := by
  intro j u hj
  match j, hj with
  | 0, hj => simp at hj; subst hj; simpa [Addr.add] using h0
  | 1, hj => simp at hj; subst hj; simpa [Addr.add] using h1
end Go.Proofs.Ytphinkcfmdnpfaa
