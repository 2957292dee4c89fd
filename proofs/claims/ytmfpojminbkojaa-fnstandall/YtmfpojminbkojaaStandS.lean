/-
  Walks: how a span stands to another one: the model's side; both sides with what is not ok.
-/
import Derived.Test.YtmfpojminbkojaaMeet
namespace Go.Proofs.Ytmfpojminbkojaa
open Go.RowKit

/-- How a span stands to another one, where a case holds as it lies. -/
def standB (a b c d : Int) : Int :=
  if a = c ∧ b = d then 7 else if b < c then 1 else if b = c then 2 else if a < c ∧ b < d then 3 else if a = c ∧ b < d then 4 else if c < a ∧ b = d then 5 else if c < a ∧ b < d then 6 else 0
/-- How a span stands to another one. -/
def standI (a b c d : Int) : Int := if standB a b c d = 0 then - standB c d a b else standB a b c d
theorem standI_of {a b c d v : Int} (h : standB a b c d = v) (hv : v ≠ 0) : standI a b c d = v := by rw [standI, h, if_neg hv]
theorem standI_turn {a b c d v : Int} (h : standB a b c d = 0) (h' : standB c d a b = v) : standI a b c d = -v := by rw [standI, h, if_pos rfl, h']

set_option maxRecDepth 10000 in
set_option maxHeartbeats 1000000 in
theorem stand_7 (a b : Int) (w : World) :
    Calls Try.prog 45 #[.agg #[.int .i64 a, .int .i64 b], .agg #[.int .i64 a, .int .i64 b]] w fun e w' => e = .returned (.int .i64 7) ∧ Below w.heap.size w w' := by
  go_enter Try.func45, Try.ntmps45
  go_wp2_with fail
  go_ret
  exact ⟨rfl, ((Below.refl _ _).alloc (Nat.le_refl _) _).alloc (by simp) _⟩

set_option maxRecDepth 10000 in
set_option maxHeartbeats 1000000 in
theorem stand_1 (a b c d : Int) (w : World) (h1 : a < b) (h2 : c < d) (h : b < c) :
    Calls Try.prog 45 #[.agg #[.int .i64 a, .int .i64 b], .agg #[.int .i64 c, .int .i64 d]] w fun e w' => e = .returned (.int .i64 1) ∧ Below w.heap.size w w' := by
  have e1 : a ≠ c := by omega
  have e2 : b ≠ d := by omega
  go_enter Try.func45, Try.ntmps45
  go_wp2_with fail
  go_ret
  exact ⟨rfl, ((Below.refl _ _).alloc (Nat.le_refl _) _).alloc (by simp) _⟩

set_option maxRecDepth 10000 in
set_option maxHeartbeats 1000000 in
theorem stand_2 (a b c d : Int) (w : World) (h1 : a < b) (h2 : c < d) (h : b = c) :
    Calls Try.prog 45 #[.agg #[.int .i64 a, .int .i64 b], .agg #[.int .i64 c, .int .i64 d]] w fun e w' => e = .returned (.int .i64 2) ∧ Below w.heap.size w w' := by
  have e1 : a ≠ c := by omega
  have e2 : b ≠ d := by omega
  have e3 : ¬ b < c := by omega
  go_enter Try.func45, Try.ntmps45
  go_wp2_with fail
  go_ret
  exact ⟨rfl, ((Below.refl _ _).alloc (Nat.le_refl _) _).alloc (by simp) _⟩

set_option maxRecDepth 10000 in
set_option maxHeartbeats 1000000 in
theorem stand_3 (a b c d : Int) (w : World) (h1 : a < c) (h2 : b < d) (h : c < b) :
    Calls Try.prog 45 #[.agg #[.int .i64 a, .int .i64 b], .agg #[.int .i64 c, .int .i64 d]] w fun e w' => e = .returned (.int .i64 3) ∧ Below w.heap.size w w' := by
  have e1 : a ≠ c := by omega
  have e2 : b ≠ d := by omega
  have e3 : ¬ b < c := by omega
  have e4 : b ≠ c := by omega
  go_enter Try.func45, Try.ntmps45
  go_wp2_with fail
  go_ret
  exact ⟨rfl, ((Below.refl _ _).alloc (Nat.le_refl _) _).alloc (by simp) _⟩

set_option maxRecDepth 10000 in
set_option maxHeartbeats 1000000 in
theorem stand_4 (a b c d : Int) (w : World) (h1 : a = c) (h2 : b < d) (h : c < b) :
    Calls Try.prog 45 #[.agg #[.int .i64 a, .int .i64 b], .agg #[.int .i64 c, .int .i64 d]] w fun e w' => e = .returned (.int .i64 4) ∧ Below w.heap.size w w' := by
  have e2 : b ≠ d := by omega
  have e3 : ¬ b < c := by omega
  have e4 : b ≠ c := by omega
  have e5 : ¬ a < c := by omega
  go_enter Try.func45, Try.ntmps45
  go_wp2_with fail
  go_ret
  exact ⟨rfl, ((Below.refl _ _).alloc (Nat.le_refl _) _).alloc (by simp) _⟩

set_option maxRecDepth 10000 in
set_option maxHeartbeats 1000000 in
theorem stand_5 (a b c d : Int) (w : World) (h1 : c < a) (h2 : b = d) (h : c < b) :
    Calls Try.prog 45 #[.agg #[.int .i64 a, .int .i64 b], .agg #[.int .i64 c, .int .i64 d]] w fun e w' => e = .returned (.int .i64 5) ∧ Below w.heap.size w w' := by
  have e1 : a ≠ c := by omega
  have e3 : ¬ b < c := by omega
  have e4 : b ≠ c := by omega
  have e5 : ¬ a < c := by omega
  go_enter Try.func45, Try.ntmps45
  go_wp2_with fail
  go_ret
  exact ⟨rfl, ((Below.refl _ _).alloc (Nat.le_refl _) _).alloc (by simp) _⟩

set_option maxRecDepth 10000 in
set_option maxHeartbeats 1000000 in
theorem stand_6 (a b c d : Int) (w : World) (h1 : c < a) (h2 : b < d) (h : c < b) :
    Calls Try.prog 45 #[.agg #[.int .i64 a, .int .i64 b], .agg #[.int .i64 c, .int .i64 d]] w fun e w' => e = .returned (.int .i64 6) ∧ Below w.heap.size w w' := by
  have e1 : a ≠ c := by omega
  have e2 : b ≠ d := by omega
  have e3 : ¬ b < c := by omega
  have e4 : b ≠ c := by omega
  have e5 : ¬ a < c := by omega
  go_enter Try.func45, Try.ntmps45
  go_wp2_with fail
  go_ret
  exact ⟨rfl, ((Below.refl _ _).alloc (Nat.le_refl _) _).alloc (by simp) _⟩

set_option maxRecDepth 10000 in
set_option maxHeartbeats 1000000 in
theorem stand_r1 (a b c d : Int) (w : World) (h1 : c < a) (h2 : d < b) (h : c < b) (v : Int) (hv : 0 ≤ v ∧ v ≤ 7) (hr : ∀ W : World, Calls Try.prog 45 #[.agg #[.int .i64 c, .int .i64 d], .agg #[.int .i64 a, .int .i64 b]] W fun e w' => e = .returned (.int .i64 v) ∧ Below W.heap.size W w') :
    Calls Try.prog 45 #[.agg #[.int .i64 a, .int .i64 b], .agg #[.int .i64 c, .int .i64 d]] w fun e w' => e = .returned (.int .i64 (-v)) ∧ Below w.heap.size w w' := by
  have e1 : a ≠ c := by omega
  have e2 : b ≠ d := by omega
  have e3 : ¬ b < c := by omega
  have e4 : b ≠ c := by omega
  have e5 : ¬ a < c := by omega
  have e6 : ¬ b < d := by omega
  have HR := Lib.hid hr
  clear hr
  go_enter Try.func45, Try.ntmps45
  go_wp2_with fail
  refine (HR.out _).mono ?_
  rintro e w2 ⟨rfl, hb⟩
  go_wp2_with fail
  go_ret
  exact ⟨rfl, (((Below.refl _ _).alloc (Nat.le_refl _) _).alloc (by simp) _).trans (hb.mono (by simp; omega))⟩

set_option maxRecDepth 10000 in
set_option maxHeartbeats 1000000 in
theorem stand_r2 (a b c d : Int) (w : World) (h1 : a = c) (h2 : d < b) (h : c < b) (v : Int) (hv : 0 ≤ v ∧ v ≤ 7) (hr : ∀ W : World, Calls Try.prog 45 #[.agg #[.int .i64 c, .int .i64 d], .agg #[.int .i64 a, .int .i64 b]] W fun e w' => e = .returned (.int .i64 v) ∧ Below W.heap.size W w') :
    Calls Try.prog 45 #[.agg #[.int .i64 a, .int .i64 b], .agg #[.int .i64 c, .int .i64 d]] w fun e w' => e = .returned (.int .i64 (-v)) ∧ Below w.heap.size w w' := by
  subst h1
  have e2 : b ≠ d := by omega
  have e3 : ¬ b < a := by omega
  have e4 : b ≠ a := by omega
  have e6 : ¬ b < d := by omega
  have HR := Lib.hid hr
  clear hr
  go_enter Try.func45, Try.ntmps45
  go_wp2_with fail
  refine (HR.out _).mono ?_
  rintro e w2 ⟨rfl, hb⟩
  go_wp2_with fail
  go_ret
  exact ⟨rfl, (((Below.refl _ _).alloc (Nat.le_refl _) _).alloc (by simp) _).trans (hb.mono (by simp; omega))⟩

set_option maxRecDepth 10000 in
set_option maxHeartbeats 1000000 in
theorem stand_r3 (a b c d : Int) (w : World) (h1 : a < c) (h2 : b = d) (h : c < b) (v : Int) (hv : 0 ≤ v ∧ v ≤ 7) (hr : ∀ W : World, Calls Try.prog 45 #[.agg #[.int .i64 c, .int .i64 d], .agg #[.int .i64 a, .int .i64 b]] W fun e w' => e = .returned (.int .i64 v) ∧ Below W.heap.size W w') :
    Calls Try.prog 45 #[.agg #[.int .i64 a, .int .i64 b], .agg #[.int .i64 c, .int .i64 d]] w fun e w' => e = .returned (.int .i64 (-v)) ∧ Below w.heap.size w w' := by
  subst h2
  have e1 : a ≠ c := by omega
  have e3 : ¬ b < c := by omega
  have e4 : b ≠ c := by omega
  have e7 : ¬ c < a := by omega
  have HR := Lib.hid hr
  clear hr
  go_enter Try.func45, Try.ntmps45
  go_wp2_with fail
  refine (HR.out _).mono ?_
  rintro e w2 ⟨rfl, hb⟩
  go_wp2_with fail
  go_ret
  exact ⟨rfl, (((Below.refl _ _).alloc (Nat.le_refl _) _).alloc (by simp) _).trans (hb.mono (by simp; omega))⟩

set_option maxRecDepth 10000 in
set_option maxHeartbeats 1000000 in
theorem stand_r4 (a b c d : Int) (w : World) (h1 : a < c) (h2 : d < b) (h : c < b) (v : Int) (hv : 0 ≤ v ∧ v ≤ 7) (hr : ∀ W : World, Calls Try.prog 45 #[.agg #[.int .i64 c, .int .i64 d], .agg #[.int .i64 a, .int .i64 b]] W fun e w' => e = .returned (.int .i64 v) ∧ Below W.heap.size W w') :
    Calls Try.prog 45 #[.agg #[.int .i64 a, .int .i64 b], .agg #[.int .i64 c, .int .i64 d]] w fun e w' => e = .returned (.int .i64 (-v)) ∧ Below w.heap.size w w' := by
  have e1 : a ≠ c := by omega
  have e2 : b ≠ d := by omega
  have e3 : ¬ b < c := by omega
  have e4 : b ≠ c := by omega
  have e6 : ¬ b < d := by omega
  have e7 : ¬ c < a := by omega
  have HR := Lib.hid hr
  clear hr
  go_enter Try.func45, Try.ntmps45
  go_wp2_with fail
  refine (HR.out _).mono ?_
  rintro e w2 ⟨rfl, hb⟩
  go_wp2_with fail
  go_ret
  exact ⟨rfl, (((Below.refl _ _).alloc (Nat.le_refl _) _).alloc (by simp) _).trans (hb.mono (by simp; omega))⟩

set_option maxRecDepth 10000 in
set_option maxHeartbeats 1000000 in
theorem stand_any (a b c d : Int) (w : World) (h1 : a < b) (h2 : c < d) :
    Calls Try.prog 45 #[.agg #[.int .i64 a, .int .i64 b], .agg #[.int .i64 c, .int .i64 d]] w fun e w' => e = .returned (.int .i64 (standI a b c d)) ∧ Below w.heap.size w w' := by
  obtain ⟨v, hv⟩ : ∃ v, standI a b c d = v := ⟨_, rfl⟩
  rw [hv]
  rcases Int.lt_trichotomy b c with g | g | g
  · have : v = 1 := by rw [← hv]; exact standI_of (by unfold standB; repeat (first | rw [if_neg (by omega)] | rw [if_pos (by omega)])) (by decide)
    subst this
    exact stand_1 a b c d w h1 h2 g
  · have : v = 2 := by rw [← hv]; exact standI_of (by unfold standB; repeat (first | rw [if_neg (by omega)] | rw [if_pos (by omega)])) (by decide)
    subst this
    exact stand_2 a b c d w h1 h2 g
  rcases Int.lt_trichotomy d a with k | k | k
  · have : v = -1 := by rw [← hv]; exact standI_turn (by unfold standB; repeat (first | rw [if_neg (by omega)] | rw [if_pos (by omega)])) (by unfold standB; repeat (first | rw [if_neg (by omega)] | rw [if_pos (by omega)]))
    subst this
    exact stand_r1 a b c d w (by omega) (by omega) g 1 (by omega) fun W => stand_1 c d a b W h2 h1 k
  · have : v = -2 := by rw [← hv]; exact standI_turn (by unfold standB; repeat (first | rw [if_neg (by omega)] | rw [if_pos (by omega)])) (by unfold standB; repeat (first | rw [if_neg (by omega)] | rw [if_pos (by omega)]))
    subst this
    exact stand_r1 a b c d w (by omega) (by omega) g 2 (by omega) fun W => stand_2 c d a b W h2 h1 k
  rcases Int.lt_trichotomy a c with f | f | f <;> rcases Int.lt_trichotomy b d with q | q | q
  · have : v = 3 := by rw [← hv]; exact standI_of (by unfold standB; repeat (first | rw [if_neg (by omega)] | rw [if_pos (by omega)])) (by decide)
    subst this
    exact stand_3 a b c d w f q g
  · have : v = -5 := by rw [← hv]; exact standI_turn (by unfold standB; repeat (first | rw [if_neg (by omega)] | rw [if_pos (by omega)])) (by unfold standB; repeat (first | rw [if_neg (by omega)] | rw [if_pos (by omega)]))
    subst this
    exact stand_r3 a b c d w f q g 5 (by omega) fun W => stand_5 c d a b W f q.symm k
  · have : v = -6 := by rw [← hv]; exact standI_turn (by unfold standB; repeat (first | rw [if_neg (by omega)] | rw [if_pos (by omega)])) (by unfold standB; repeat (first | rw [if_neg (by omega)] | rw [if_pos (by omega)]))
    subst this
    exact stand_r4 a b c d w f q g 6 (by omega) fun W => stand_6 c d a b W f q k
  · have : v = 4 := by rw [← hv]; exact standI_of (by unfold standB; repeat (first | rw [if_neg (by omega)] | rw [if_pos (by omega)])) (by decide)
    subst this
    exact stand_4 a b c d w f q g
  · have : v = 7 := by rw [← hv]; unfold standI standB; repeat (first | rw [if_neg (by omega)] | rw [if_pos (by omega)])
    subst this f q
    exact stand_7 a b w
  · have : v = -4 := by rw [← hv]; exact standI_turn (by unfold standB; repeat (first | rw [if_neg (by omega)] | rw [if_pos (by omega)])) (by unfold standB; repeat (first | rw [if_neg (by omega)] | rw [if_pos (by omega)]))
    subst this
    exact stand_r2 a b c d w f q g 4 (by omega) fun W => stand_4 c d a b W f.symm q k
  · have : v = 6 := by rw [← hv]; exact standI_of (by unfold standB; repeat (first | rw [if_neg (by omega)] | rw [if_pos (by omega)])) (by decide)
    subst this
    exact stand_6 a b c d w f q g
  · have : v = 5 := by rw [← hv]; exact standI_of (by unfold standB; repeat (first | rw [if_neg (by omega)] | rw [if_pos (by omega)])) (by decide)
    subst this
    exact stand_5 a b c d w f q g
  · have : v = -3 := by rw [← hv]; exact standI_turn (by unfold standB; repeat (first | rw [if_neg (by omega)] | rw [if_pos (by omega)])) (by unfold standB; repeat (first | rw [if_neg (by omega)] | rw [if_pos (by omega)]))
    subst this
    exact stand_r1 a b c d w f q g 3 (by omega) fun W => stand_3 c d a b W f q k
end Go.Proofs.Ytmfpojminbkojaa
namespace Go.Proofs.Ytmfpojminbkojaa
open Go.RowKit

def sgn (x y : Int) : Int := if x < y then -1 else if y < x then 1 else 0

set_option maxHeartbeats 1000000 in
theorem l10Sign_any (x y : Int) (w : World) :
    Calls Try.prog 71 #[.int .i64 x, .int .i64 y] w fun e w' => e = .returned (.int .i64 (sgn x y)) ∧ w = w' := by
  rcases Int.lt_trichotomy x y with h | h | h
  · have HV := Lib.hid (show sgn x y = -1 by unfold sgn; rw [if_pos h])
    go_enter Try.func71, Try.ntmps71
    go_wp2
    go_ret
    exact ⟨by rw [HV.out]; rfl, rfl⟩
  · subst h
    have HV := Lib.hid (show sgn x x = 0 by unfold sgn; rw [if_neg (Int.lt_irrefl x), if_neg (Int.lt_irrefl x)])
    go_enter Try.func71, Try.ntmps71
    go_wp2
    go_ret
    exact ⟨by rw [HV.out]; rfl, rfl⟩
  · have h' : ¬ x < y := by omega
    have HV := Lib.hid (show sgn x y = 1 by unfold sgn; rw [if_neg h', if_pos h])
    go_enter Try.func71, Try.ntmps71
    go_wp2
    go_ret
    exact ⟨by rw [HV.out]; rfl, rfl⟩

set_option maxRecDepth 10000 in
set_option maxHeartbeats 4000000 in
theorem l10Of_any (a b c d : Int) (w : World) (h1 : a < b) (h2 : c < d) :
    Calls Try.prog 43 #[.agg #[.int .i64 a, .int .i64 b], .agg #[.int .i64 c, .int .i64 d]] w fun e w' => e = .returned (.int .i64 (standI a b c d)) ∧ Below w.heap.size w w' := by
  obtain ⟨v, hv⟩ : ∃ v, standI a b c d = v := ⟨_, rfl⟩
  rw [hv]
  rcases Int.lt_trichotomy b c with g | g | g
  · have : v = 1 := by rw [← hv]; exact standI_of (by unfold standB; repeat (first | rw [if_neg (by omega)] | rw [if_pos (by omega)])) (by decide)
    subst this
    clear hv
    have HF := Lib.hid (show sgn a c = -1 from by unfold sgn; rw [if_pos (by omega)])
    have HT := Lib.hid (show sgn b d = -1 from by unfold sgn; rw [if_pos (by omega)])
    go_enter Try.func43, Try.ntmps43
    go_wp2_with fail
    refine (l10Sign_any _ _ _).mono ?_
    rintro e w1 ⟨rfl, rfl⟩
    rw [HF.out]
    go_wp2_with fail
    refine (l10Sign_any _ _ _).mono ?_
    rintro e w1 ⟨rfl, rfl⟩
    rw [HT.out]
    go_wp2_with fail
    go_ret
    exact ⟨rfl, ((Below.refl _ _).alloc (Nat.le_refl _) _).alloc (by simp) _⟩
  · have : v = 2 := by rw [← hv]; exact standI_of (by unfold standB; repeat (first | rw [if_neg (by omega)] | rw [if_pos (by omega)])) (by decide)
    subst this
    clear hv
    subst g
    have HF := Lib.hid (show sgn a b = -1 from by unfold sgn; rw [if_pos (by omega)])
    have HT := Lib.hid (show sgn b d = -1 from by unfold sgn; rw [if_pos (by omega)])
    have z0 : ¬ b < b := by omega
    go_enter Try.func43, Try.ntmps43
    go_wp2_with fail
    refine (l10Sign_any _ _ _).mono ?_
    rintro e w1 ⟨rfl, rfl⟩
    rw [HF.out]
    go_wp2_with fail
    refine (l10Sign_any _ _ _).mono ?_
    rintro e w1 ⟨rfl, rfl⟩
    rw [HT.out]
    go_wp2_with fail
    go_ret
    exact ⟨rfl, ((Below.refl _ _).alloc (Nat.le_refl _) _).alloc (by simp) _⟩
  rcases Int.lt_trichotomy d a with k | k | k
  · have : v = -1 := by rw [← hv]; exact standI_turn (by unfold standB; repeat (first | rw [if_neg (by omega)] | rw [if_pos (by omega)])) (by unfold standB; repeat (first | rw [if_neg (by omega)] | rw [if_pos (by omega)]))
    subst this
    clear hv
    have HF := Lib.hid (show sgn a c = 1 from by unfold sgn; rw [if_neg (by omega), if_pos (by omega)])
    have HT := Lib.hid (show sgn b d = 1 from by unfold sgn; rw [if_neg (by omega), if_pos (by omega)])
    have z0 : ¬ b < c := by omega
    have z1 : b ≠ c := by omega
    go_enter Try.func43, Try.ntmps43
    go_wp2_with fail
    refine (l10Sign_any _ _ _).mono ?_
    rintro e w1 ⟨rfl, rfl⟩
    rw [HF.out]
    go_wp2_with fail
    refine (l10Sign_any _ _ _).mono ?_
    rintro e w1 ⟨rfl, rfl⟩
    rw [HT.out]
    go_wp2_with fail
    go_ret
    exact ⟨rfl, ((Below.refl _ _).alloc (Nat.le_refl _) _).alloc (by simp) _⟩
  · have : v = -2 := by rw [← hv]; exact standI_turn (by unfold standB; repeat (first | rw [if_neg (by omega)] | rw [if_pos (by omega)])) (by unfold standB; repeat (first | rw [if_neg (by omega)] | rw [if_pos (by omega)]))
    subst this
    clear hv
    subst k
    have HF := Lib.hid (show sgn d c = 1 from by unfold sgn; rw [if_neg (by omega), if_pos (by omega)])
    have HT := Lib.hid (show sgn b d = 1 from by unfold sgn; rw [if_neg (by omega), if_pos (by omega)])
    have z0 : ¬ b < c := by omega
    have z1 : b ≠ c := by omega
    have z2 : ¬ d < d := by omega
    go_enter Try.func43, Try.ntmps43
    go_wp2_with fail
    refine (l10Sign_any _ _ _).mono ?_
    rintro e w1 ⟨rfl, rfl⟩
    rw [HF.out]
    go_wp2_with fail
    refine (l10Sign_any _ _ _).mono ?_
    rintro e w1 ⟨rfl, rfl⟩
    rw [HT.out]
    go_wp2_with fail
    go_ret
    exact ⟨rfl, ((Below.refl _ _).alloc (Nat.le_refl _) _).alloc (by simp) _⟩
  rcases Int.lt_trichotomy a c with f | f | f <;> rcases Int.lt_trichotomy b d with q | q | q
  · have : v = 3 := by rw [← hv]; exact standI_of (by unfold standB; repeat (first | rw [if_neg (by omega)] | rw [if_pos (by omega)])) (by decide)
    subst this
    clear hv
    have HF := Lib.hid (show sgn a c = -1 from by unfold sgn; rw [if_pos (by omega)])
    have HT := Lib.hid (show sgn b d = -1 from by unfold sgn; rw [if_pos (by omega)])
    have z0 : ¬ b < c := by omega
    have z1 : b ≠ c := by omega
    have z2 : ¬ d < a := by omega
    have z3 : a ≠ d := by omega
    go_enter Try.func43, Try.ntmps43
    go_wp2_with fail
    refine (l10Sign_any _ _ _).mono ?_
    rintro e w1 ⟨rfl, rfl⟩
    rw [HF.out]
    go_wp2_with fail
    refine (l10Sign_any _ _ _).mono ?_
    rintro e w1 ⟨rfl, rfl⟩
    rw [HT.out]
    go_wp2_with fail
    go_ret
    exact ⟨rfl, ((Below.refl _ _).alloc (Nat.le_refl _) _).alloc (by simp) _⟩
  · have : v = -5 := by rw [← hv]; exact standI_turn (by unfold standB; repeat (first | rw [if_neg (by omega)] | rw [if_pos (by omega)])) (by unfold standB; repeat (first | rw [if_neg (by omega)] | rw [if_pos (by omega)]))
    subst this
    clear hv
    subst q
    have HF := Lib.hid (show sgn a c = -1 from by unfold sgn; rw [if_pos (by omega)])
    have HT := Lib.hid (show sgn b b = 0 from by unfold sgn; rw [if_neg (by omega), if_neg (by omega)])
    have z0 : ¬ b < c := by omega
    have z1 : b ≠ c := by omega
    have z2 : ¬ b < a := by omega
    have z3 : a ≠ b := by omega
    go_enter Try.func43, Try.ntmps43
    go_wp2_with fail
    refine (l10Sign_any _ _ _).mono ?_
    rintro e w1 ⟨rfl, rfl⟩
    rw [HF.out]
    go_wp2_with fail
    refine (l10Sign_any _ _ _).mono ?_
    rintro e w1 ⟨rfl, rfl⟩
    rw [HT.out]
    go_wp2_with fail
    go_ret
    exact ⟨rfl, ((Below.refl _ _).alloc (Nat.le_refl _) _).alloc (by simp) _⟩
  · have : v = -6 := by rw [← hv]; exact standI_turn (by unfold standB; repeat (first | rw [if_neg (by omega)] | rw [if_pos (by omega)])) (by unfold standB; repeat (first | rw [if_neg (by omega)] | rw [if_pos (by omega)]))
    subst this
    clear hv
    have HF := Lib.hid (show sgn a c = -1 from by unfold sgn; rw [if_pos (by omega)])
    have HT := Lib.hid (show sgn b d = 1 from by unfold sgn; rw [if_neg (by omega), if_pos (by omega)])
    have z0 : ¬ b < c := by omega
    have z1 : b ≠ c := by omega
    have z2 : ¬ d < a := by omega
    have z3 : a ≠ d := by omega
    go_enter Try.func43, Try.ntmps43
    go_wp2_with fail
    refine (l10Sign_any _ _ _).mono ?_
    rintro e w1 ⟨rfl, rfl⟩
    rw [HF.out]
    go_wp2_with fail
    refine (l10Sign_any _ _ _).mono ?_
    rintro e w1 ⟨rfl, rfl⟩
    rw [HT.out]
    go_wp2_with fail
    go_ret
    exact ⟨rfl, ((Below.refl _ _).alloc (Nat.le_refl _) _).alloc (by simp) _⟩
  · have : v = 4 := by rw [← hv]; exact standI_of (by unfold standB; repeat (first | rw [if_neg (by omega)] | rw [if_pos (by omega)])) (by decide)
    subst this
    clear hv
    subst f
    have HF := Lib.hid (show sgn a a = 0 from by unfold sgn; rw [if_neg (by omega), if_neg (by omega)])
    have HT := Lib.hid (show sgn b d = -1 from by unfold sgn; rw [if_pos (by omega)])
    have z0 : ¬ b < a := by omega
    have z1 : b ≠ a := by omega
    have z2 : ¬ d < a := by omega
    have z3 : a ≠ d := by omega
    go_enter Try.func43, Try.ntmps43
    go_wp2_with fail
    refine (l10Sign_any _ _ _).mono ?_
    rintro e w1 ⟨rfl, rfl⟩
    rw [HF.out]
    go_wp2_with fail
    refine (l10Sign_any _ _ _).mono ?_
    rintro e w1 ⟨rfl, rfl⟩
    rw [HT.out]
    go_wp2_with fail
    go_ret
    exact ⟨rfl, ((Below.refl _ _).alloc (Nat.le_refl _) _).alloc (by simp) _⟩
  · have : v = 7 := by rw [← hv]; exact standI_of (by unfold standB; repeat (first | rw [if_neg (by omega)] | rw [if_pos (by omega)])) (by decide)
    subst this
    clear hv
    subst f q
    have HF := Lib.hid (show sgn a a = 0 from by unfold sgn; rw [if_neg (by omega), if_neg (by omega)])
    have HT := Lib.hid (show sgn b b = 0 from by unfold sgn; rw [if_neg (by omega), if_neg (by omega)])
    have z0 : ¬ b < a := by omega
    have z1 : b ≠ a := by omega
    have z2 : ¬ b < a := by omega
    have z3 : a ≠ b := by omega
    go_enter Try.func43, Try.ntmps43
    go_wp2_with fail
    refine (l10Sign_any _ _ _).mono ?_
    rintro e w1 ⟨rfl, rfl⟩
    rw [HF.out]
    go_wp2_with fail
    refine (l10Sign_any _ _ _).mono ?_
    rintro e w1 ⟨rfl, rfl⟩
    rw [HT.out]
    go_wp2_with fail
    go_ret
    exact ⟨rfl, ((Below.refl _ _).alloc (Nat.le_refl _) _).alloc (by simp) _⟩
  · have : v = -4 := by rw [← hv]; exact standI_turn (by unfold standB; repeat (first | rw [if_neg (by omega)] | rw [if_pos (by omega)])) (by unfold standB; repeat (first | rw [if_neg (by omega)] | rw [if_pos (by omega)]))
    subst this
    clear hv
    subst f
    have HF := Lib.hid (show sgn a a = 0 from by unfold sgn; rw [if_neg (by omega), if_neg (by omega)])
    have HT := Lib.hid (show sgn b d = 1 from by unfold sgn; rw [if_neg (by omega), if_pos (by omega)])
    have z0 : ¬ b < a := by omega
    have z1 : b ≠ a := by omega
    have z2 : ¬ d < a := by omega
    have z3 : a ≠ d := by omega
    go_enter Try.func43, Try.ntmps43
    go_wp2_with fail
    refine (l10Sign_any _ _ _).mono ?_
    rintro e w1 ⟨rfl, rfl⟩
    rw [HF.out]
    go_wp2_with fail
    refine (l10Sign_any _ _ _).mono ?_
    rintro e w1 ⟨rfl, rfl⟩
    rw [HT.out]
    go_wp2_with fail
    go_ret
    exact ⟨rfl, ((Below.refl _ _).alloc (Nat.le_refl _) _).alloc (by simp) _⟩
  · have : v = 6 := by rw [← hv]; exact standI_of (by unfold standB; repeat (first | rw [if_neg (by omega)] | rw [if_pos (by omega)])) (by decide)
    subst this
    clear hv
    have HF := Lib.hid (show sgn a c = 1 from by unfold sgn; rw [if_neg (by omega), if_pos (by omega)])
    have HT := Lib.hid (show sgn b d = -1 from by unfold sgn; rw [if_pos (by omega)])
    have z0 : ¬ b < c := by omega
    have z1 : b ≠ c := by omega
    have z2 : ¬ d < a := by omega
    have z3 : a ≠ d := by omega
    go_enter Try.func43, Try.ntmps43
    go_wp2_with fail
    refine (l10Sign_any _ _ _).mono ?_
    rintro e w1 ⟨rfl, rfl⟩
    rw [HF.out]
    go_wp2_with fail
    refine (l10Sign_any _ _ _).mono ?_
    rintro e w1 ⟨rfl, rfl⟩
    rw [HT.out]
    go_wp2_with fail
    go_ret
    exact ⟨rfl, ((Below.refl _ _).alloc (Nat.le_refl _) _).alloc (by simp) _⟩
  · have : v = 5 := by rw [← hv]; exact standI_of (by unfold standB; repeat (first | rw [if_neg (by omega)] | rw [if_pos (by omega)])) (by decide)
    subst this
    clear hv
    subst q
    have HF := Lib.hid (show sgn a c = 1 from by unfold sgn; rw [if_neg (by omega), if_pos (by omega)])
    have HT := Lib.hid (show sgn b b = 0 from by unfold sgn; rw [if_neg (by omega), if_neg (by omega)])
    have z0 : ¬ b < c := by omega
    have z1 : b ≠ c := by omega
    have z2 : ¬ b < a := by omega
    have z3 : a ≠ b := by omega
    go_enter Try.func43, Try.ntmps43
    go_wp2_with fail
    refine (l10Sign_any _ _ _).mono ?_
    rintro e w1 ⟨rfl, rfl⟩
    rw [HF.out]
    go_wp2_with fail
    refine (l10Sign_any _ _ _).mono ?_
    rintro e w1 ⟨rfl, rfl⟩
    rw [HT.out]
    go_wp2_with fail
    go_ret
    exact ⟨rfl, ((Below.refl _ _).alloc (Nat.le_refl _) _).alloc (by simp) _⟩
  · have : v = -3 := by rw [← hv]; exact standI_turn (by unfold standB; repeat (first | rw [if_neg (by omega)] | rw [if_pos (by omega)])) (by unfold standB; repeat (first | rw [if_neg (by omega)] | rw [if_pos (by omega)]))
    subst this
    clear hv
    have HF := Lib.hid (show sgn a c = 1 from by unfold sgn; rw [if_neg (by omega), if_pos (by omega)])
    have HT := Lib.hid (show sgn b d = 1 from by unfold sgn; rw [if_neg (by omega), if_pos (by omega)])
    have z0 : ¬ b < c := by omega
    have z1 : b ≠ c := by omega
    have z2 : ¬ d < a := by omega
    have z3 : a ≠ d := by omega
    go_enter Try.func43, Try.ntmps43
    go_wp2_with fail
    refine (l10Sign_any _ _ _).mono ?_
    rintro e w1 ⟨rfl, rfl⟩
    rw [HF.out]
    go_wp2_with fail
    refine (l10Sign_any _ _ _).mono ?_
    rintro e w1 ⟨rfl, rfl⟩
    rw [HT.out]
    go_wp2_with fail
    go_ret
    exact ⟨rfl, ((Below.refl _ _).alloc (Nat.le_refl _) _).alloc (by simp) _⟩

theorem okB_lt {a b : Int} (h : okB a b = true) : a < b := by simp only [okB, decide_eq_true_eq] at h; omega

/-- How a span stands to another one; nought if one is not ok. -/
def standL (a b c d : Int) : Int := if okB a b && okB c d then standI a b c d else 0

set_option maxRecDepth 10000 in
set_option maxHeartbeats 1000000 in
theorem StandOf_any (a b c d : Int) (w : World) :
    Calls Try.prog 14 #[.agg #[.int .i64 a, .int .i64 b], .agg #[.int .i64 c, .int .i64 d]] w fun e w' => e = .returned (.int .i64 (standL a b c d)) ∧ Below w.heap.size w w' := by
  obtain ⟨x, hx⟩ : ∃ x, okB a b = x := ⟨_, rfl⟩
  obtain ⟨y, hy⟩ : ∃ x, okB c d = x := ⟨_, rfl⟩
  obtain ⟨v, hv⟩ : ∃ v, standL a b c d = v := ⟨_, rfl⟩
  have Hx := Lib.hid hx
  have Hy := Lib.hid hy
  have Hv := Lib.hid hv
  rw [hv]
  clear hx hy hv
  go_enter Try.func14, Try.ntmps14
  go_wp2_with fail
  refine (ok_any _ _ _).mono ?_
  rintro e w1 ⟨rfl, hb1⟩
  obtain ⟨hc1, hf1⟩ := bcell hb1
  have hz1 : w.heap.size + 1 < w1.heap.size := by have := hb1.size; simp at this; omega
  have HB1 := Lib.hid ((((Below.refl w.heap.size w).alloc (Nat.le_refl _) (.cells #[.int .i64 a, .int .i64 b] 25)).alloc (by simp) (.cells #[.int .i64 c, .int .i64 d] 25)).trans (hb1.mono (by simp; omega)))
  have q0 : w1.cell? ⟨w.heap.size, 0, none⟩ = some (.int .i64 a) := (hc1 _ _ (by simp; omega)).trans (by simp [go_sem])
  have q1 : w1.cell? ⟨w.heap.size, 1, none⟩ = some (.int .i64 b) := (hc1 _ _ (by simp; omega)).trans (by simp [go_sem])
  have q2 : w1.cell? ⟨w.heap.size + 1, 0, none⟩ = some (.int .i64 c) := (hc1 _ _ (by simp)).trans (by simp [go_sem])
  have q3 : w1.cell? ⟨w.heap.size + 1, 1, none⟩ = some (.int .i64 d) := (hc1 _ _ (by simp)).trans (by simp [go_sem])
  clear hb1 hc1 hf1
  rw [Hx.out]
  cases x
  · have e0 := Lib.hid (show (0 : Int) = v from by rw [← Hv.out, standL, Hx.out]; rfl)
    go_wp2_with fail
    go_ret
    exact ⟨by rw [e0.out]; rfl, HB1.out⟩
  · go_wp2_with fail
    refine (ok_any _ _ _).mono ?_
    rintro e w2 ⟨rfl, hb2⟩
    replace q0 := (hb2.cell (p := ⟨w.heap.size, 0, none⟩) (show w.heap.size < w1.heap.size by omega)).trans q0
    replace q1 := (hb2.cell (p := ⟨w.heap.size, 1, none⟩) (show w.heap.size < w1.heap.size by omega)).trans q1
    replace q2 := (hb2.cell (p := ⟨w.heap.size + 1, 0, none⟩) hz1).trans q2
    replace q3 := (hb2.cell (p := ⟨w.heap.size + 1, 1, none⟩) hz1).trans q3
    have HB2 := Lib.hid (HB1.out.trans (hb2.mono HB1.out.size))
    clear hb2 HB1
    rw [Hy.out]
    cases y
    · have e0 := Lib.hid (show (0 : Int) = v from by rw [← Hv.out, standL, Hx.out, Hy.out]; rfl)
      go_wp2_with fail
      go_ret
      exact ⟨by rw [e0.out]; rfl, HB2.out⟩
    · have e0 := Lib.hid (show standI a b c d = v from by rw [← Hv.out, standL, Hx.out, Hy.out]; rfl)
      go_wp2_with fail
      refine (stand_any _ _ _ _ _ (okB_lt Hx.out) (okB_lt Hy.out)).mono ?_
      rintro e w3 ⟨rfl, hb3⟩
      have HB3 := Lib.hid (HB2.out.trans (hb3.mono HB2.out.size))
      clear hb3
      rw [e0.out]
      go_wp2_with fail
      go_ret
      exact ⟨rfl, HB3.out⟩
set_option maxRecDepth 10000 in
set_option maxHeartbeats 1000000 in
theorem sStandOf_any (a b c d : Int) (w : World) :
    Calls Try.prog 12 #[.agg #[.int .i64 a, .int .i64 b], .agg #[.int .i64 c, .int .i64 d]] w fun e w' => e = .returned (.int .i64 (standL a b c d)) ∧ Below w.heap.size w w' := by
  obtain ⟨x, hx⟩ : ∃ x, okB a b = x := ⟨_, rfl⟩
  obtain ⟨y, hy⟩ : ∃ x, okB c d = x := ⟨_, rfl⟩
  obtain ⟨v, hv⟩ : ∃ v, standL a b c d = v := ⟨_, rfl⟩
  have Hx := Lib.hid hx
  have Hy := Lib.hid hy
  have Hv := Lib.hid hv
  rw [hv]
  clear hx hy hv
  go_enter Try.func12, Try.ntmps12
  go_wp2_with fail
  refine (l1Ok_any _ _ _).mono ?_
  rintro e w1 ⟨rfl, hb1⟩
  obtain ⟨hc1, hf1⟩ := bcell hb1
  have hz1 : w.heap.size + 1 < w1.heap.size := by have := hb1.size; simp at this; omega
  have HB1 := Lib.hid ((((Below.refl w.heap.size w).alloc (Nat.le_refl _) (.cells #[.int .i64 a, .int .i64 b] 25)).alloc (by simp) (.cells #[.int .i64 c, .int .i64 d] 25)).trans (hb1.mono (by simp; omega)))
  have q0 : w1.cell? ⟨w.heap.size, 0, none⟩ = some (.int .i64 a) := (hc1 _ _ (by simp; omega)).trans (by simp [go_sem])
  have q1 : w1.cell? ⟨w.heap.size, 1, none⟩ = some (.int .i64 b) := (hc1 _ _ (by simp; omega)).trans (by simp [go_sem])
  have q2 : w1.cell? ⟨w.heap.size + 1, 0, none⟩ = some (.int .i64 c) := (hc1 _ _ (by simp)).trans (by simp [go_sem])
  have q3 : w1.cell? ⟨w.heap.size + 1, 1, none⟩ = some (.int .i64 d) := (hc1 _ _ (by simp)).trans (by simp [go_sem])
  clear hb1 hc1 hf1
  rw [Hx.out]
  cases x
  · have e0 := Lib.hid (show (0 : Int) = v from by rw [← Hv.out, standL, Hx.out]; rfl)
    go_wp2_with fail
    go_ret
    exact ⟨by rw [e0.out]; rfl, HB1.out⟩
  · go_wp2_with fail
    refine (l1Ok_any _ _ _).mono ?_
    rintro e w2 ⟨rfl, hb2⟩
    replace q0 := (hb2.cell (p := ⟨w.heap.size, 0, none⟩) (show w.heap.size < w1.heap.size by omega)).trans q0
    replace q1 := (hb2.cell (p := ⟨w.heap.size, 1, none⟩) (show w.heap.size < w1.heap.size by omega)).trans q1
    replace q2 := (hb2.cell (p := ⟨w.heap.size + 1, 0, none⟩) hz1).trans q2
    replace q3 := (hb2.cell (p := ⟨w.heap.size + 1, 1, none⟩) hz1).trans q3
    have HB2 := Lib.hid (HB1.out.trans (hb2.mono HB1.out.size))
    clear hb2 HB1
    rw [Hy.out]
    cases y
    · have e0 := Lib.hid (show (0 : Int) = v from by rw [← Hv.out, standL, Hx.out, Hy.out]; rfl)
      go_wp2_with fail
      go_ret
      exact ⟨by rw [e0.out]; rfl, HB2.out⟩
    · have e0 := Lib.hid (show standI a b c d = v from by rw [← Hv.out, standL, Hx.out, Hy.out]; rfl)
      go_wp2_with fail
      refine (l10Of_any _ _ _ _ _ (okB_lt Hx.out) (okB_lt Hy.out)).mono ?_
      rintro e w3 ⟨rfl, hb3⟩
      have HB3 := Lib.hid (HB2.out.trans (hb3.mono HB2.out.size))
      clear hb3
      rw [e0.out]
      go_wp2_with fail
      go_ret
      exact ⟨rfl, HB3.out⟩
end Go.Proofs.Ytmfpojminbkojaa
