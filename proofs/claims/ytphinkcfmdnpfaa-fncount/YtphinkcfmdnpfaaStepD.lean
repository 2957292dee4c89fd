/-
  Plain: how many keys hold: steps of it; steps that touch with the same number become one.
-/
import Derived.Test.YtphinkcfmdnpfaaCombJ
namespace Go.Proofs.Ytphinkcfmdnpfaa
open Go.RowKit

/-- How many, and for how long. -/
structure StepV where
  m : Int
  f : Int
  e : Int
def stepC (x : StepV) : List Value := [.int .i64 x.m, .int .i64 x.f, .int .i64 x.e]
def step0 : StepV := ⟨0, 0, 0⟩
theorem stepC_len (x : StepV) : (stepC x).length = 3 := rfl
theorem stepC_one (x : StepV) : ∀ v ∈ stepC x, v.oneCell' = true := by intro v h; simp [stepC] at h; rcases h with rfl | rfl | rfl <;> rfl
/-- The slice holds these steps. -/
def StepsA (w : World) (A : Option Addr) (zs : List StepV) : Prop := ElAt stepC 3 w A zs
theorem StepsA.below {w w' : World} {A : Option Addr} {l : List StepV} (h : StepsA w A l) (hb : Below w.heap.size w w') : StepsA w' A l := ElAt.below h hb
theorem StepsA.at_ {w : World} {A : Option Addr} {l : List StepV} (h : StepsA w A l) {i : Nat} (hi : i < l.length) : ∃ b off x, A = some ⟨b, off, none⟩ ∧ b < w.heap.size ∧ l[i]? = some x ∧ w.cell? ⟨b, off + i * 3, none⟩ = some (.int .i64 x.m) ∧ w.cell? ⟨b, off + i * 3 + 1, none⟩ = some (.int .i64 x.f) ∧ w.cell? ⟨b, off + i * 3 + 2, none⟩ = some (.int .i64 x.e) := by
  obtain ⟨b, off, e, hlt, hc⟩ := h (by omega)
  have hx : l[i]? = some l[i] := List.getElem?_eq_getElem hi
  exact ⟨b, off, _, e, hlt, hx, hc i _ hx 0 _ rfl, hc i _ hx 1 _ rfl, hc i _ hx 2 _ rfl⟩

def joinSt (y x : StepV) : StepV := ⟨y.m, y.f, x.e⟩
def touchSt (y x : StepV) : Bool := decide (y.m = x.m) && decide (y.e = x.f)
def stepSt (out : List StepV) (x : StepV) : List StepV :=
  match out.getLast? with
  | none => [x]
  | some y => if touchSt y x = true then out.dropLast ++ [joinSt y x] else out ++ [x]
def joinSts (l : List StepV) : List StepV := l.foldl stepSt []
theorem stepSt_at (out : List StepV) (y x : StepV) : stepSt (out ++ [y]) x = if touchSt y x = true then out ++ [joinSt y x] else out ++ [y] ++ [x] := by
  unfold stepSt
  simp
theorem stepSt_len (out : List StepV) (x : StepV) : (stepSt out x).length ≤ out.length + 1 := by
  rcases List.eq_nil_or_concat out with h | ⟨o, y, h⟩
  · subst h; simp [stepSt]
  · rw [List.concat_eq_append] at h
    subst h
    rw [stepSt_at]
    by_cases h : touchSt y x = true
    · rw [if_pos h]; simp
    · rw [if_neg h]; simp
theorem joinSts_take {zs : List StepV} {k : Nat} {x : StepV} (hx : zs[k]? = some x) : joinSts (zs.take (k + 1)) = stepSt (joinSts (zs.take k)) x := by
  obtain ⟨hk, rfl⟩ := List.getElem?_eq_some_iff.1 hx
  unfold joinSts
  rw [List.take_succ_eq_append_getElem hk, List.foldl_append]
  rfl
theorem foldSt_len : ∀ (l out : List StepV), (l.foldl stepSt out).length ≤ out.length + l.length
  | [], out => by simp
  | x :: l, out => by
    have h1 := stepSt_len out x
    have h2 := foldSt_len l (stepSt out x)
    rw [List.foldl_cons, List.length_cons]
    omega
theorem joinSts_len (l : List StepV) : (joinSts l).length ≤ l.length := by
  have := foldSt_len l []
  rw [List.length_nil, Nat.zero_add] at this
  exact this

/-- What there is of a period. -/
def countOne (s : Int × Int) (ps _qs : List PairV) : List StepV := if ps.length = 0 then [] else [⟨ps.length, s.1, s.2⟩]
theorem countOne_len (s : Int × Int) (ps qs : List PairV) : (countOne s ps qs).length ≤ 1 := by
  unfold countOne
  split <;> simp
def countRaw (t : List RowV) (ss : List (Int × Int)) : List StepV := ss.flatMap fun s => countOne s (atR t s.1) []
def relCountL (t : List RowV) : List StepV := if relOk t = true then joinSts (countRaw t (stepsOf t)) else []
theorem countRaw_len (t : List RowV) : ∀ ss : List (Int × Int), (countRaw t ss).length ≤ ss.length
  | [] => by simp [countRaw]
  | s :: ss => by
    have h1 := countRaw_len t ss
    have h2 := countOne_len s (atR t s.1) []
    unfold countRaw at h1 ⊢
    rw [List.flatMap_cons, List.length_append, List.length_cons]
    omega
theorem countRaw_pair (t : List RowV) : (countRaw t (stepsOf t)).Pairwise fun x y => x.f < y.f := by
  unfold countRaw
  rw [List.pairwise_flatMap]
  constructor
  · intro s _
    unfold countOne
    split <;> simp
  · refine List.Pairwise.imp_of_mem ?_ (steps_pair (edges_pair t))
    intro s s' hs _ h x hx y hy
    have h1 := (step_bounds hs).1
    unfold countOne at hx hy
    by_cases e : (atR t s.1).length = 0
    · rw [if_pos e] at hx; cases hx
    · rw [if_neg e, List.mem_singleton] at hx
      by_cases e' : (atR t s'.1).length = 0
      · rw [if_pos e'] at hy; cases hy
      · rw [if_neg e', List.mem_singleton] at hy
        subst hx hy
        show s.1 < s'.1
        omega
/-- In order already: nothing else is in that order. -/
theorem sorted_sameT : ∀ (s l : List StepV), (s.Pairwise fun x y => ¬ y.f < x.f) → (l.Pairwise fun x y => x.f < y.f) → s.Perm l → s = l
  | [], l, _, _, hp => (List.nil_perm.1 hp).symm
  | x :: s, [], _, _, hp => absurd (List.Perm.length_eq hp) (by simp)
  | x :: s, y :: l, hs, hl, hp => by
    have hs' := List.pairwise_cons.1 hs
    have hl' := List.pairwise_cons.1 hl
    have hxy : x = y := by
      rcases List.mem_cons.1 (hp.subset (List.mem_cons_self ..)) with h | h
      · exact h
      · rcases List.mem_cons.1 (hp.symm.subset (List.mem_cons_self ..)) with h2 | h2
        · exact h2.symm
        · have h3 := hl'.1 x h
          have h4 := hs'.1 y h2
          omega
    subst hxy
    rw [sorted_sameT s l hs'.2 hl'.2 (List.Perm.cons_inv hp)]
theorem relCountL_len (t : List RowV) : (relCountL t).length ≤ 48 := by
  unfold relCountL
  by_cases h : relOk t = true
  · rw [if_pos h]
    have h1 := joinSts_len (countRaw t (stepsOf t))
    have h2 := countRaw_len t (stepsOf t)
    have h3 := stepsOf_len t
    have h4 := ((relOk_iff t).1 h).1
    omega
  · rw [if_neg h]; exact Nat.zero_le _
end Go.Proofs.Ytphinkcfmdnpfaa
