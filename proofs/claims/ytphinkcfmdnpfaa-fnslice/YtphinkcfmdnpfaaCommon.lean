/-
  Walks: what is common to two iterators of spans.
-/
import Derived.Test.YtphinkcfmdnpfaaColl
namespace Go.Proofs.Ytphinkcfmdnpfaa
open Go.RowKit Go.Shelf

attribute [local go_sem] Oper.semAt_some

def meetOne (x : Int × Int) : List (Int × Int) → List (Int × Int)
  | [] => []
  | y :: ys => if mB x.1 x.2 y.1 y.2 then (mF x.1 x.2 y.1 y.2, mT x.1 x.2 y.1 y.2) :: meetOne x ys else meetOne x ys
def meetL (xs ys : List (Int × Int)) : List (Int × Int) := xs.flatMap fun x => meetOne x ys
theorem meetOne_snoc (x y : Int × Int) : ∀ l : List (Int × Int), meetOne x (l ++ [y]) = meetOne x l ++ (if mB x.1 x.2 y.1 y.2 then [(mF x.1 x.2 y.1 y.2, mT x.1 x.2 y.1 y.2)] else [])
  | [] => by simp [meetOne]
  | z :: l => by
    simp only [List.cons_append, meetOne, meetOne_snoc x y l]
    split <;> rfl
theorem meetL_snoc (xs ys : List (Int × Int)) (x : Int × Int) : meetL (xs ++ [x]) ys = meetL xs ys ++ meetOne x ys := by simp [meetL]

theorem meetOne_len (x : Int × Int) : ∀ l : List (Int × Int), (meetOne x l).length ≤ l.length
  | [] => by simp [meetOne]
  | z :: l => by
    have := meetOne_len x l
    simp only [meetOne]
    split <;> simp <;> omega
theorem meetL_len (ys : List (Int × Int)) : ∀ xs : List (Int × Int), (meetL xs ys).length ≤ xs.length * ys.length
  | [] => by simp [meetL]
  | x :: xs => by
    have h1 := meetL_len ys xs
    have h2 := meetOne_len x ys
    have e : meetL (x :: xs) ys = meetOne x ys ++ meetL xs ys := by simp [meetL]
    rw [e, List.length_append, List.length_cons, Nat.succ_mul]
    omega
theorem meet_bound {xs ys pre pre' : List (Int × Int)} (x : Int × Int) (h : pre.length < xs.length) (h' : pre'.length < ys.length) : (meetL pre ys ++ meetOne x pre').length < xs.length * ys.length := by
  have h1 := meetL_len ys pre
  have h2 := meetOne_len x pre'
  have h3 : (pre.length + 1) * ys.length ≤ xs.length * ys.length := Nat.mul_le_mul_right _ h
  rw [Nat.succ_mul] at h3
  rw [List.length_append]
  omega
theorem Foot.keeps {Φ Φ' : Nat → Prop} {A B : World} (h : Foot Φ Φ' A B) (n : Nat) (hF : ∀ k, Φ k → ∃ o : Obj, A.heap[k]? = some o ∧ o.isCells = true) : KeepsFrom n A B :=
  ⟨h.size, fun k o _ hk ho => (h.same k (Array.getElem?_eq_some_iff.1 hk).1 (fun hp => by
    obtain ⟨o', h1, h2⟩ := hF k hp
    rw [hk] at h1; cases h1; rw [ho] at h2; cases h2)).trans hk⟩

end Go.Proofs.Ytphinkcfmdnpfaa
