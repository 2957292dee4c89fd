/-
  What a function gives that makes a row of spans of its own.
-/
import Derived.Test.YtphinkcfmdnpfaaMeetS
import Derived.Test.YtphinkcfmdnpfaaMark
namespace Go.Proofs.Ytphinkcfmdnpfaa
open Go.RowKit

def Gets (w : World) (zs : List (Int × Int)) (e : Ending) (w' : World) : Prop :=
  ∃ A cap, e = .returned (.slice A zs.length cap) ∧ w'.ownsRow w.heap.size 29 2 (.slice A zs.length cap) zs.length (flat zs) ∧ Below w.heap.size w w'

theorem owns_slice {w : World} {base : Nat} {v : Value} {zs : List (Int × Int)} (h : w.ownsRow base 29 2 v zs.length (flat zs)) : ∃ A cap, v = .slice A zs.length cap := by
  rcases h.2 with ⟨rfl, h0⟩ | ⟨g, c, cur, rfl, _⟩
  · have hz : zs.length = 0 := by
      have := flat_length zs
      have h1 := h.1
      simp_all
    exact ⟨none, 0, by rw [hz]⟩
  · exact ⟨_, _, rfl⟩
theorem owns_spans {w : World} {base : Nat} {A : Option Addr} {cap : Nat} {zs : List (Int × Int)} (h : w.ownsRow base 29 2 (.slice A zs.length cap) zs.length (flat zs)) : Spans w A zs := by
  rcases h.2 with ⟨h0, h1⟩ | ⟨g, c, cur, e, _⟩
  · intro h2
    simp at h0
    omega
  · injection e with e1 e2 e3
    subst e1
    exact spans_of_owns h rfl
theorem owns_block {w : World} {base : Nat} {A : Option Addr} {n cap : Nat} {xs : List Value} (h : w.ownsRow base 29 2 (.slice A n cap) n xs) : ∀ b off, A = some ⟨b, off, none⟩ → b < w.heap.size := by
  rcases h.2 with ⟨h0, h1⟩ | ⟨g, c, cur, e, h2, h3, _⟩
  · intro b off e
    simp at h0
    rw [h0.1] at e
    cases e
  · injection e with e1 e2 e3
    subst e1
    intro b off e
    cases e
    exact (Array.getElem?_eq_some_iff.1 h3).1
theorem below_grown {w w' : World} (h : Below w.heap.size w w') (row : Option Nat) : w.grownBy w' row := ⟨h.os, h.tape, h.output, h.size, fun k hk _ => h.block k hk⟩
theorem owns_keep {w w' : World} {base n : Nat} {v : Value} {xs : List Value} (h : w.ownsRow base 29 2 v n xs) (hb : Below w.heap.size w w') : w'.ownsRow base 29 2 v n xs :=
  h.kept (below_grown hb none) (by by_cases e : v.ownBlock = none; exact .inl e; exact .inr e)
/-- Of two rows the one lies behind all that was when the other was there. -/
theorem owns_apart {w w' : World} {base base' n n' B : Nat} {v v' : Value} {xs xs' : List Value} (h : w.ownsRow base 29 2 v n xs) (hB : w.heap.size ≤ B) (hb : B ≤ base') (h' : w'.ownsRow base' 29 2 v' n' xs') : v.ownBlock = none ∨ v.ownBlock ≠ v'.ownBlock := by
  cases e : v.ownBlock with
  | none => exact .inl rfl
  | some k =>
    refine .inr fun e' => ?_
    have h1 := h.lt k e
    have h2 := h'.lt k e'.symm
    omega
theorem ap_sym {v v' : Value} (h : v.ownBlock = none ∨ v.ownBlock ≠ v'.ownBlock) : v'.ownBlock = none ∨ v'.ownBlock ≠ v.ownBlock := by
  rcases h with h | h
  · rw [h]
    cases e : v'.ownBlock with
    | none => exact .inl rfl
    | some k => exact .inr (by simp)
  · exact .inr (fun e => h e.symm)
theorem gets_of_made {w w' : World} {zs : List (Int × Int)} {e : Ending} (h : Made w zs e w') : Gets w zs e w' := by
  obtain ⟨g, cap, he, ho, hb⟩ := h
  exact ⟨_, cap, he, ho, hb⟩
theorem gets_of_coll {w w' : World} {zs : List (Int × Int)} {e : Ending} (h : Coll w zs e w') : Gets w zs e w' := by
  obtain ⟨v, he, ho, _, hb⟩ := h
  obtain ⟨A, cap, rfl⟩ := owns_slice ho
  exact ⟨A, cap, he, ho, hb⟩
theorem gets_after {w w1 w' : World} {zs : List (Int × Int)} {e : Ending} (h : Gets w1 zs e w') (hb : Below w.heap.size w w1) : Gets w zs e w' := by
  obtain ⟨A, cap, he, ho, hb'⟩ := h
  exact ⟨A, cap, he, owns_base ho hb.size, hb.trans (hb'.mono hb.size)⟩
theorem gets_nil (w w' : World) (hb : Below w.heap.size w w') : Gets w [] (.returned (.slice none 0 0)) w' := ⟨none, 0, rfl, World.ownsRow_nil _ _ _ _, hb⟩

theorem setMeetL_len (xs ys : List (Int × Int)) : (setMeetL xs ys).length ≤ 10000 := by
  unfold setMeetL
  by_cases h : (setOk xs && setOk ys) = true
  · rw [if_pos h]
    simp only [Bool.and_eq_true] at h
    have h1 := meetL_len ys xs
    have h2 : xs.length * ys.length ≤ 100 * 100 := Nat.mul_le_mul (setOk_len h.1) (setOk_len h.2)
    omega
  · rw [if_neg h]; simp
end Go.Proofs.Ytphinkcfmdnpfaa
