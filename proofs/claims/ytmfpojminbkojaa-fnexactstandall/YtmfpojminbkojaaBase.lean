/-
  Walks over the smallest functions: spans by value.
-/
import Derived.Test.YtmfpojminbkojaaRows
import Derived.WalkKit
import Derived.WalkSpells
import Derived.WalkLawsBesides
import Derived.Lib.Hide
namespace Go.Proofs.Ytmfpojminbkojaa
open Go.RowKit

def okB (a b : Int) : Bool := decide (0 ≤ a ∧ a < b ∧ b ≤ 100)
def inB (n l h : Int) : Bool := decide (l ≤ n ∧ n ≤ h)

theorem ret_bool {a b : Bool} (h : a = b) : Ending.returned (.bool a) = .returned (.bool b) := by rw [h]

theorem bcell {W w1 : World} {n : Nat} (hb : Below n W w1) : (∀ b o, b < n → w1.cell? ⟨b, o, none⟩ = W.cell? ⟨b, o, none⟩) ∧ (∀ b o, b < n → w1.frozen? ⟨b, o, none⟩ = W.frozen? ⟨b, o, none⟩) :=
  ⟨fun b o h => hb.cell (p := ⟨b, o, none⟩) h, fun b o h => hb.frozen (p := ⟨b, o, none⟩) h⟩

set_option maxHeartbeats 400000 in
theorem ok_any (a b : Int) (w : World) :
    Calls Try.prog 44 #[.agg #[.int .i64 a, .int .i64 b]] w fun e w' => e = .returned (.bool (okB a b)) ∧ Below w.heap.size w w' := by
  go_enter Try.func44, Try.ntmps44
  go_wp2
  all_goals go_ret
  all_goals refine ⟨ret_bool ?_, (Below.refl _ _).alloc (Nat.le_refl _) _⟩
  · unfold okB; rw [decide_eq_decide]; omega
  · unfold okB; rw [eq_comm, decide_eq_false_iff_not]; omega
  · unfold okB; rw [eq_comm, decide_eq_false_iff_not]; omega

set_option maxHeartbeats 400000 in
theorem in_any (n l h : Int) (w : World) :
    Calls Try.prog 46 #[.int .i64 n, .int .i64 l, .int .i64 h] w fun e w' => e = .returned (.bool (inB n l h)) ∧ w = w' := by
  go_enter Try.func46, Try.ntmps46
  go_wp2
  all_goals go_ret
  all_goals refine ⟨ret_bool ?_, rfl⟩
  · unfold inB; rw [decide_eq_decide]; omega
  · unfold inB; rw [eq_comm, decide_eq_false_iff_not]; omega

set_option maxHeartbeats 400000 in
theorem l1Ok_any (a b : Int) (w : World) :
    Calls Try.prog 42 #[.agg #[.int .i64 a, .int .i64 b]] w fun e w' => e = .returned (.bool (okB a b)) ∧ Below w.heap.size w w' := by
  by_cases h : 0 ≤ a ∧ a ≤ 99
  · obtain ⟨ha, ha'⟩ := h
    have h1 : inB a 0 99 = true := by unfold inB; rw [decide_eq_true_iff]; omega
    have h2 : okB a b = inB b (a + 1) 100 := by unfold inB okB; rw [decide_eq_decide]; omega
    have H1 := Lib.hid h1
    have H2 := Lib.hid h2
    clear h1 h2
    go_enter Try.func42, Try.ntmps42
    go_wp2_with fail
    refine (in_any _ _ _ _).mono ?_
    rintro e w' ⟨rfl, rfl⟩
    rw [H1.out]
    go_wp2_with fail
    refine (in_any _ _ _ _).mono ?_
    rintro e w' ⟨rfl, rfl⟩
    go_wp2_with fail
    go_ret
    exact ⟨ret_bool H2.out.symm, (Below.refl _ _).alloc (Nat.le_refl _) _⟩
  · have h1 : inB a 0 99 = false := by unfold inB; rw [decide_eq_false_iff_not]; omega
    have h2 : okB a b = false := by unfold okB; rw [decide_eq_false_iff_not]; omega
    have H1 := Lib.hid h1
    have H2 := Lib.hid h2
    clear h1 h2
    go_enter Try.func42, Try.ntmps42
    go_wp2_with fail
    refine (in_any _ _ _ _).mono ?_
    rintro e w' ⟨rfl, rfl⟩
    rw [H1.out]
    go_wp2_with fail
    go_ret
    exact ⟨ret_bool H2.out.symm, (Below.refl _ _).alloc (Nat.le_refl _) _⟩

set_option maxHeartbeats 400000 in
theorem SpanOk_any (a b : Int) (w : World) :
    Calls Try.prog 38 #[.agg #[.int .i64 a, .int .i64 b]] w fun e w' => e = .returned (.bool (okB a b)) ∧ Below w.heap.size w w' := by
  go_enter Try.func38, Try.ntmps38
  go_wp2_with fail
  refine (ok_any _ _ _).mono ?_
  rintro e w' ⟨rfl, hb⟩
  go_wp2_with fail
  go_ret
  exact ⟨rfl, ((Below.refl _ _).alloc (Nat.le_refl _) _).trans (hb.mono (by simp))⟩

set_option maxHeartbeats 400000 in
theorem toSpan_any (a b : Int) (w : World) :
    Calls Try.prog 13 #[.agg #[.int .i64 a, .int .i64 b]] w fun e w' => e = .returned (.agg #[.int .i64 a, .int .i64 b]) ∧ Below w.heap.size w w' := by
  go_enter Try.func13, Try.ntmps13
  go_wp2
  refine bodyPost_ret (v := .agg #[.int .i64 a, .int .i64 b]) (by simp [results, Try.results13, go_sem]) rfl ⟨rfl, ?_⟩
  repeat (first | exact Below.refl _ _ | refine Below.setCell ?_ (by simp; try omega) _ | refine Below.alloc ?_ (by simp; try omega) _)

def mB (a b c d : Int) : Bool := decide (max a c < min b d)
def mF (a b c d : Int) : Int := if max a c < min b d then max a c else 0
def mT (a b c d : Int) : Int := if max a c < min b d then min b d else 0

theorem m_yes {a b c d x y : Int} (hx : x = max a c) (hy : y = min b d) (h : x < y) : true = mB a b c d ∧ x = mF a b c d ∧ y = mT a b c d := by
  subst hx hy; simp [mB, mF, mT, h]
theorem m_no {a b c d : Int} (h : ¬ max a c < min b d) : false = mB a b c d ∧ 0 = mF a b c d ∧ 0 = mT a b c d := by
  simp [mB, mF, mT, h]
theorem m_raw {a b c d x y : Int} (hx : x = max a c) (hy : y = min b d) : decide (x < y) = mB a b c d ∧ x = max a c ∧ y = min b d := by
  subst hx hy; simp [mB]

theorem ret_meet {x y x' y' : Int} {b b' : Bool} (h : b = b' ∧ x = x' ∧ y = y') :
    Ending.returned (.tuple #[.agg #[.int .i64 x, .int .i64 y], .bool b]) = .returned (.tuple #[.agg #[.int .i64 x', .int .i64 y'], .bool b']) := by
  obtain ⟨rfl, rfl, rfl⟩ := h; rfl

set_option maxHeartbeats 400000 in
theorem meet_any (a b c d : Int) (w : World) :
    Calls Try.prog 63 #[.agg #[.int .i64 a, .int .i64 b], .agg #[.int .i64 c, .int .i64 d]] w fun e w' =>
      e = .returned (.tuple #[.agg #[.int .i64 (mF a b c d), .int .i64 (mT a b c d)], .bool (mB a b c d)]) ∧ Below w.heap.size w w' := by
  by_cases h1 : a < c <;> by_cases h2 : d < b
  all_goals
    go_enter Try.func63, Try.ntmps63
    go_wp2
    all_goals (refine bodyPost_ret (by simp [results, Try.results63, go_sem]; exact ⟨⟨rfl, rfl⟩, rfl⟩) rfl ⟨ret_meet ?_, ?_⟩)
    any_goals (repeat (first | exact Below.refl _ _ | refine Below.setCell ?_ (by simp; try omega) _ | refine Below.alloc ?_ (by simp; try omega) _))
    · exact m_no (by omega)
    · exact m_yes (by omega) (by omega) (by omega)

set_option maxHeartbeats 400000 in
theorem l1Meet_any (a b c d : Int) (w : World) :
    Calls Try.prog 120 #[.agg #[.int .i64 a, .int .i64 b], .agg #[.int .i64 c, .int .i64 d]] w fun e w' =>
      e = .returned (.tuple #[.agg #[.int .i64 (max a c), .int .i64 (min b d)], .bool (mB a b c d)]) ∧ Below w.heap.size w w' := by
  go_enter Try.func120, Try.ntmps120
  go_wp2
  all_goals go_region
  all_goals go_wp2
  all_goals (refine bodyPost_ret (by simp [results, Try.results120, go_sem]; exact ⟨⟨rfl, rfl⟩, Iff.rfl⟩) rfl ⟨ret_meet (m_raw (by omega) (by omega)), ?_⟩)
  all_goals (repeat (first | exact Below.refl _ _ | refine Below.drew ?_ | refine Below.setCell ?_ (by simp; try omega) _ | refine Below.alloc ?_ (by simp; try omega) _))

end Go.Proofs.Ytmfpojminbkojaa
