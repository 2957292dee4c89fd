/-
  Walks: how a span stands to another one.
-/
import Derived.Test.YtmfpojminbkojaaMeet
namespace Go.Proofs.Ytmfpojminbkojaa
open Go.RowKit

/-- How a span stands to another one, where a case holds as it lies. -/
def standB (a b c d : Int) : Int :=
  if a = c ∧ b = d then 7 else if b < c then 1 else if b = c then 2 else if a < c ∧ b < d then 3 else if a = c ∧ b < d then 4 else if c < a ∧ b = d then 5 else if c < a ∧ b < d then 6 else 0
/-- How a span stands to another one. -/
def standI (a b c d : Int) : Int := if standB a b c d = 0 then - standB c d a b else standB a b c d
theorem standI_of {a b c d v : Int} (h : standB a b c d = v) (hv : v ≠ 0) : standI a b c d = v := by rw [standI, h, if_neg hv]
theorem standI_turn {a b c d v : Int} (h : standB a b c d = 0) (h' : standB c d a b = v) : standI a b c d = -v := by rw [standI, h, if_pos rfl, h']

set_option maxRecDepth 10000 in
set_option maxHeartbeats 1000000 in
theorem stand_7 (a b : Int) (w : World) :
    Calls Try.prog 45 #[.agg #[.int .i64 a, .int .i64 b], .agg #[.int .i64 a, .int .i64 b]] w fun e w' => e = .returned (.int .i64 7) ∧ Below w.heap.size w w' := by
  go_enter Try.func45, Try.ntmps45
  go_wp2_with fail
  go_ret
  exact ⟨rfl, ((Below.refl _ _).alloc (Nat.le_refl _) _).alloc (by simp) _⟩

set_option maxRecDepth 10000 in
set_option maxHeartbeats 1000000 in
theorem stand_1 (a b c d : Int) (w : World) (h1 : a < b) (h2 : c < d) (h : b < c) :
    Calls Try.prog 45 #[.agg #[.int .i64 a, .int .i64 b], .agg #[.int .i64 c, .int .i64 d]] w fun e w' => e = .returned (.int .i64 1) ∧ Below w.heap.size w w' := by
  have e1 : a ≠ c := by omega
  have e2 : b ≠ d := by omega
  go_enter Try.func45, Try.ntmps45
  go_wp2_with fail
  go_ret
  exact ⟨rfl, ((Below.refl _ _).alloc (Nat.le_refl _) _).alloc (by simp) _⟩

set_option maxRecDepth 10000 in
set_option maxHeartbeats 1000000 in
theorem stand_2 (a b c d : Int) (w : World) (h1 : a < b) (h2 : c < d) (h : b = c) :
    Calls Try.prog 45 #[.agg #[.int .i64 a, .int .i64 b], .agg #[.int .i64 c, .int .i64 d]] w fun e w' => e = .returned (.int .i64 2) ∧ Below w.heap.size w w' := by
  have e1 : a ≠ c := by omega
  have e2 : b ≠ d := by omega
  have e3 : ¬ b < c := by omega
  go_enter Try.func45, Try.ntmps45
  go_wp2_with fail
  go_ret
  exact ⟨rfl, ((Below.refl _ _).alloc (Nat.le_refl _) _).alloc (by simp) _⟩

set_option maxRecDepth 10000 in
set_option maxHeartbeats 1000000 in
theorem stand_3 (a b c d : Int) (w : World) (h1 : a < c) (h2 : b < d) (h : c < b) :
    Calls Try.prog 45 #[.agg #[.int .i64 a, .int .i64 b], .agg #[.int .i64 c, .int .i64 d]] w fun e w' => e = .returned (.int .i64 3) ∧ Below w.heap.size w w' := by
  have e1 : a ≠ c := by omega
  have e2 : b ≠ d := by omega
  have e3 : ¬ b < c := by omega
  have e4 : b ≠ c := by omega
  go_enter Try.func45, Try.ntmps45
  go_wp2_with fail
  go_ret
  exact ⟨rfl, ((Below.refl _ _).alloc (Nat.le_refl _) _).alloc (by simp) _⟩

set_option maxRecDepth 10000 in
set_option maxHeartbeats 1000000 in
theorem stand_4 (a b c d : Int) (w : World) (h1 : a = c) (h2 : b < d) (h : c < b) :
    Calls Try.prog 45 #[.agg #[.int .i64 a, .int .i64 b], .agg #[.int .i64 c, .int .i64 d]] w fun e w' => e = .returned (.int .i64 4) ∧ Below w.heap.size w w' := by
  have e2 : b ≠ d := by omega
  have e3 : ¬ b < c := by omega
  have e4 : b ≠ c := by omega
  have e5 : ¬ a < c := by omega
  go_enter Try.func45, Try.ntmps45
  go_wp2_with fail
  go_ret
  exact ⟨rfl, ((Below.refl _ _).alloc (Nat.le_refl _) _).alloc (by simp) _⟩

set_option maxRecDepth 10000 in
set_option maxHeartbeats 1000000 in
theorem stand_5 (a b c d : Int) (w : World) (h1 : c < a) (h2 : b = d) (h : c < b) :
    Calls Try.prog 45 #[.agg #[.int .i64 a, .int .i64 b], .agg #[.int .i64 c, .int .i64 d]] w fun e w' => e = .returned (.int .i64 5) ∧ Below w.heap.size w w' := by
  have e1 : a ≠ c := by omega
  have e3 : ¬ b < c := by omega
  have e4 : b ≠ c := by omega
  have e5 : ¬ a < c := by omega
  go_enter Try.func45, Try.ntmps45
  go_wp2_with fail
  go_ret
  exact ⟨rfl, ((Below.refl _ _).alloc (Nat.le_refl _) _).alloc (by simp) _⟩

set_option maxRecDepth 10000 in
set_option maxHeartbeats 1000000 in
theorem stand_6 (a b c d : Int) (w : World) (h1 : c < a) (h2 : b < d) (h : c < b) :
    Calls Try.prog 45 #[.agg #[.int .i64 a, .int .i64 b], .agg #[.int .i64 c, .int .i64 d]] w fun e w' => e = .returned (.int .i64 6) ∧ Below w.heap.size w w' := by
  have e1 : a ≠ c := by omega
  have e2 : b ≠ d := by omega
  have e3 : ¬ b < c := by omega
  have e4 : b ≠ c := by omega
  have e5 : ¬ a < c := by omega
  go_enter Try.func45, Try.ntmps45
  go_wp2_with fail
  go_ret
  exact ⟨rfl, ((Below.refl _ _).alloc (Nat.le_refl _) _).alloc (by simp) _⟩

set_option maxRecDepth 10000 in
set_option maxHeartbeats 1000000 in
theorem stand_r1 (a b c d : Int) (w : World) (h1 : c < a) (h2 : d < b) (h : c < b) (v : Int) (hv : 0 ≤ v ∧ v ≤ 7) (hr : ∀ W : World, Calls Try.prog 45 #[.agg #[.int .i64 c, .int .i64 d], .agg #[.int .i64 a, .int .i64 b]] W fun e w' => e = .returned (.int .i64 v) ∧ Below W.heap.size W w') :
    Calls Try.prog 45 #[.agg #[.int .i64 a, .int .i64 b], .agg #[.int .i64 c, .int .i64 d]] w fun e w' => e = .returned (.int .i64 (-v)) ∧ Below w.heap.size w w' := by
  have e1 : a ≠ c := by omega
  have e2 : b ≠ d := by omega
  have e3 : ¬ b < c := by omega
  have e4 : b ≠ c := by omega
  have e5 : ¬ a < c := by omega
  have e6 : ¬ b < d := by omega
  have HR := Lib.hid hr
  clear hr
  go_enter Try.func45, Try.ntmps45
  go_wp2_with fail
  refine (HR.out _).mono ?_
  rintro e w2 ⟨rfl, hb⟩
  go_wp2_with fail
  go_ret
  exact ⟨rfl, (((Below.refl _ _).alloc (Nat.le_refl _) _).alloc (by simp) _).trans (hb.mono (by simp; omega))⟩

set_option maxRecDepth 10000 in
set_option maxHeartbeats 1000000 in
theorem stand_r2 (a b c d : Int) (w : World) (h1 : a = c) (h2 : d < b) (h : c < b) (v : Int) (hv : 0 ≤ v ∧ v ≤ 7) (hr : ∀ W : World, Calls Try.prog 45 #[.agg #[.int .i64 c, .int .i64 d], .agg #[.int .i64 a, .int .i64 b]] W fun e w' => e = .returned (.int .i64 v) ∧ Below W.heap.size W w') :
    Calls Try.prog 45 #[.agg #[.int .i64 a, .int .i64 b], .agg #[.int .i64 c, .int .i64 d]] w fun e w' => e = .returned (.int .i64 (-v)) ∧ Below w.heap.size w w' := by
  subst h1
  have e2 : b ≠ d := by omega
  have e3 : ¬ b < a := by omega
  have e4 : b ≠ a := by omega
  have e6 : ¬ b < d := by omega
  have HR := Lib.hid hr
  clear hr
  go_enter Try.func45, Try.ntmps45
  go_wp2_with fail
  refine (HR.out _).mono ?_
  rintro e w2 ⟨rfl, hb⟩
  go_wp2_with fail
  go_ret
  exact ⟨rfl, (((Below.refl _ _).alloc (Nat.le_refl _) _).alloc (by simp) _).trans (hb.mono (by simp; omega))⟩

set_option maxRecDepth 10000 in
set_option maxHeartbeats 1000000 in
theorem stand_r3 (a b c d : Int) (w : World) (h1 : a < c) (h2 : b = d) (h : c < b) (v : Int) (hv : 0 ≤ v ∧ v ≤ 7) (hr : ∀ W : World, Calls Try.prog 45 #[.agg #[.int .i64 c, .int .i64 d], .agg #[.int .i64 a, .int .i64 b]] W fun e w' => e = .returned (.int .i64 v) ∧ Below W.heap.size W w') :
    Calls Try.prog 45 #[.agg #[.int .i64 a, .int .i64 b], .agg #[.int .i64 c, .int .i64 d]] w fun e w' => e = .returned (.int .i64 (-v)) ∧ Below w.heap.size w w' := by
  subst h2
  have e1 : a ≠ c := by omega
  have e3 : ¬ b < c := by omega
  have e4 : b ≠ c := by omega
  have e7 : ¬ c < a := by omega
  have HR := Lib.hid hr
  clear hr
  go_enter Try.func45, Try.ntmps45
  go_wp2_with fail
  refine (HR.out _).mono ?_
  rintro e w2 ⟨rfl, hb⟩
  go_wp2_with fail
  go_ret
  exact ⟨rfl, (((Below.refl _ _).alloc (Nat.le_refl _) _).alloc (by simp) _).trans (hb.mono (by simp; omega))⟩

set_option maxRecDepth 10000 in
set_option maxHeartbeats 1000000 in
theorem stand_r4 (a b c d : Int) (w : World) (h1 : a < c) (h2 : d < b) (h : c < b) (v : Int) (hv : 0 ≤ v ∧ v ≤ 7) (hr : ∀ W : World, Calls Try.prog 45 #[.agg #[.int .i64 c, .int .i64 d], .agg #[.int .i64 a, .int .i64 b]] W fun e w' => e = .returned (.int .i64 v) ∧ Below W.heap.size W w') :
    Calls Try.prog 45 #[.agg #[.int .i64 a, .int .i64 b], .agg #[.int .i64 c, .int .i64 d]] w fun e w' => e = .returned (.int .i64 (-v)) ∧ Below w.heap.size w w' := by
  have e1 : a ≠ c := by omega
  have e2 : b ≠ d := by omega
  have e3 : ¬ b < c := by omega
  have e4 : b ≠ c := by omega
  have e6 : ¬ b < d := by omega
  have e7 : ¬ c < a := by omega
  have HR := Lib.hid hr
  clear hr
  go_enter Try.func45, Try.ntmps45
  go_wp2_with fail
  refine (HR.out _).mono ?_
  rintro e w2 ⟨rfl, hb⟩
  go_wp2_with fail
  go_ret
  exact ⟨rfl, (((Below.refl _ _).alloc (Nat.le_refl _) _).alloc (by simp) _).trans (hb.mono (by simp; omega))⟩

set_option maxRecDepth 10000 in
set_option maxHeartbeats 1000000 in
theorem stand_any (a b c d : Int) (w : World) (h1 : a < b) (h2 : c < d) :
    Calls Try.prog 45 #[.agg #[.int .i64 a, .int .i64 b], .agg #[.int .i64 c, .int .i64 d]] w fun e w' => e = .returned (.int .i64 (standI a b c d)) ∧ Below w.heap.size w w' := by
  obtain ⟨v, hv⟩ : ∃ v, standI a b c d = v := ⟨_, rfl⟩
  rw [hv]
  rcases Int.lt_trichotomy b c with g | g | g
  · have : v = 1 := by rw [← hv]; exact standI_of (by unfold standB; repeat (first | rw [if_neg (by omega)] | rw [if_pos (by omega)])) (by decide)
    subst this
    exact stand_1 a b c d w h1 h2 g
  · have : v = 2 := by rw [← hv]; exact standI_of (by unfold standB; repeat (first | rw [if_neg (by omega)] | rw [if_pos (by omega)])) (by decide)
    subst this
    exact stand_2 a b c d w h1 h2 g
  rcases Int.lt_trichotomy d a with k | k | k
  · have : v = -1 := by rw [← hv]; exact standI_turn (by unfold standB; repeat (first | rw [if_neg (by omega)] | rw [if_pos (by omega)])) (by unfold standB; repeat (first | rw [if_neg (by omega)] | rw [if_pos (by omega)]))
    subst this
    exact stand_r1 a b c d w (by omega) (by omega) g 1 (by omega) fun W => stand_1 c d a b W h2 h1 k
  · have : v = -2 := by rw [← hv]; exact standI_turn (by unfold standB; repeat (first | rw [if_neg (by omega)] | rw [if_pos (by omega)])) (by unfold standB; repeat (first | rw [if_neg (by omega)] | rw [if_pos (by omega)]))
    subst this
    exact stand_r1 a b c d w (by omega) (by omega) g 2 (by omega) fun W => stand_2 c d a b W h2 h1 k
  rcases Int.lt_trichotomy a c with f | f | f <;> rcases Int.lt_trichotomy b d with q | q | q
  · have : v = 3 := by rw [← hv]; exact standI_of (by unfold standB; repeat (first | rw [if_neg (by omega)] | rw [if_pos (by omega)])) (by decide)
    subst this
    exact stand_3 a b c d w f q g
  · have : v = -5 := by rw [← hv]; exact standI_turn (by unfold standB; repeat (first | rw [if_neg (by omega)] | rw [if_pos (by omega)])) (by unfold standB; repeat (first | rw [if_neg (by omega)] | rw [if_pos (by omega)]))
    subst this
    exact stand_r3 a b c d w f q g 5 (by omega) fun W => stand_5 c d a b W f q.symm k
  · have : v = -6 := by rw [← hv]; exact standI_turn (by unfold standB; repeat (first | rw [if_neg (by omega)] | rw [if_pos (by omega)])) (by unfold standB; repeat (first | rw [if_neg (by omega)] | rw [if_pos (by omega)]))
    subst this
    exact stand_r4 a b c d w f q g 6 (by omega) fun W => stand_6 c d a b W f q k
  · have : v = 4 := by rw [← hv]; exact standI_of (by unfold standB; repeat (first | rw [if_neg (by omega)] | rw [if_pos (by omega)])) (by decide)
    subst this
    exact stand_4 a b c d w f q g
  · have : v = 7 := by rw [← hv]; unfold standI standB; repeat (first | rw [if_neg (by omega)] | rw [if_pos (by omega)])
    subst this f q
    exact stand_7 a b w
  · have : v = -4 := by rw [← hv]; exact standI_turn (by unfold standB; repeat (first | rw [if_neg (by omega)] | rw [if_pos (by omega)])) (by unfold standB; repeat (first | rw [if_neg (by omega)] | rw [if_pos (by omega)]))
    subst this
    exact stand_r2 a b c d w f q g 4 (by omega) fun W => stand_4 c d a b W f.symm q k
  · have : v = 6 := by rw [← hv]; exact standI_of (by unfold standB; repeat (first | rw [if_neg (by omega)] | rw [if_pos (by omega)])) (by decide)
    subst this
    exact stand_6 a b c d w f q g
  · have : v = 5 := by rw [← hv]; exact standI_of (by unfold standB; repeat (first | rw [if_neg (by omega)] | rw [if_pos (by omega)])) (by decide)
    subst this
    exact stand_5 a b c d w f q g
  · have : v = -3 := by rw [← hv]; exact standI_turn (by unfold standB; repeat (first | rw [if_neg (by omega)] | rw [if_pos (by omega)])) (by unfold standB; repeat (first | rw [if_neg (by omega)] | rw [if_pos (by omega)]))
    subst this
    exact stand_r1 a b c d w f q g 3 (by omega) fun W => stand_3 c d a b W f q k
end Go.Proofs.Ytmfpojminbkojaa
