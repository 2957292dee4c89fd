/-
  Walks: what is to be done, by value: sizes, copies; when it is ok.
-/
import Derived.Test.YtgclmldhdjmababRowW
import Derived.Test.YtgclmldhdjmababRowT
namespace Go.Proofs.Ytgclmldhdjmabab
open Go.RowKit

def inTab (t : Int) : Bool := decide (0 ≤ t ∧ t ≤ 1)
def delOk (r : RowV) : Bool := wordB r.k && decide (r.t.size = 0) && okSpan r.f r.e
def opOk (k t : Int) (r : RowV) : Bool := inTab t && (if k = 2 then delOk r else decide (k = 1 ∨ k = 3 ∨ k = 4) && rowOk r)
theorem opOk_no {k t : Int} {r : RowV} (h : inTab t = false) : opOk k t r = false := by simp [opOk, h]
theorem opOk_del {k t : Int} {r : RowV} (h : inTab t = true) (hk : k = 2) : opOk k t r = delOk r := by simp [opOk, h, hk]
theorem opOk_row {k t : Int} {r : RowV} (h : inTab t = true) (hk : k = 1 ∨ k = 3 ∨ k = 4) : opOk k t r = rowOk r := by
  have : ¬ k = 2 := by omega
  simp [opOk, h, hk, this]
theorem opOk_none {k t : Int} {r : RowV} (h1 : ¬ k = 1) (h2 : ¬ k = 2) (h3 : ¬ k = 3) (h4 : ¬ k = 4) : opOk k t r = false := by simp [opOk, h1, h2, h3, h4]

/-- What szRow tells of a row. -/
def szL (r : RowV) (left : Int) : Int := if left - r.k.size < 0 then -1 else if left - r.k.size - r.t.size < 0 then -1 else left - r.k.size - r.t.size
theorem szL_or (r : RowV) (left : Int) : szL r left = -1 ∨ (0 ≤ szL r left ∧ szL r left ≤ left) := by
  unfold szL
  split
  · exact .inl rfl
  · split
    · exact .inl rfl
    · exact .inr ⟨by omega, by omega⟩

set_option maxHeartbeats 1000000 in
theorem szOp_any (k t : Int) (r : RowV) (left : Int) (w : World) (h0 : 0 ≤ left) (h1 : left ≤ 1048576) (hk : r.k.size ≤ maxLen) (ht : r.t.size ≤ maxLen) :
    Calls Try.prog 19 #[.agg #[.int .i64 k, .int .i64 t, .string r.k, .string r.t, .int .i64 r.f, .int .i64 r.e], .int .i64 left] w fun e w' => e = .returned (.int .i64 (szL r left)) ∧ Below w.heap.size w w' := by
  have hor := szL_or r left
  obtain ⟨u, hu⟩ : ∃ u, szL r left = u := ⟨_, rfl⟩
  rw [hu] at hor ⊢
  have HU := Lib.hid hu
  clear hu
  go_enter Try.func19, Try.ntmps19
  go_wp2_with fail
  refine (szRow_any r left _ h0 h1 hk ht).mono ?_
  rintro e w1 ⟨rfl, hb⟩
  rw [show (if left - (r.k.size : Int) < 0 then (-1 : Int) else if left - (r.k.size : Int) - r.t.size < 0 then -1 else left - r.k.size - r.t.size) = u from HU.out]
  have HB := Lib.hid (((Below.refl _ _).alloc (Nat.le_refl _) _).trans (hb.mono (by simp)))
  clear hb
  rcases hor with rfl | ⟨hu0, hu1⟩
  · go_wp2
    go_ret
    exact ⟨rfl, HB.out⟩
  · go_wp2
    go_ret
    exact ⟨rfl, HB.out⟩

theorem tabOk_any (t : Int) (w : World) : Calls Try.prog 59 #[.int .i64 t] w fun e w' => e = .returned (.bool (inTab t)) ∧ w = w' := by
  go_enter Try.func59, Try.ntmps59
  go_wp2
  all_goals go_ret
  all_goals refine ⟨ret_bool ?_, rfl⟩
  all_goals (unfold inTab; first | (rw [decide_eq_decide]; omega) | (rw [eq_comm, decide_eq_true_iff]; omega) | (rw [eq_comm, decide_eq_false_iff_not]; omega) | (rw [Bool.eq_iff_iff]; simp; omega))

theorem empty_text {s : ByteArray} (h : ¬ s.size = 0) : (s.toList == (⟨#[]⟩ : ByteArray).toList) = false ∧ s.toList.isEmpty = false := by
  have h1 : (s.toList == (⟨#[]⟩ : ByteArray).toList) = false := by
    cases he : (s.toList == (⟨#[]⟩ : ByteArray).toList) with
    | false => rfl
    | true =>
      rw [beq_iff_eq, ByteArray.toList_eq, ByteArray.toList_eq] at he
      have h4 : s = ⟨#[]⟩ := by rw [ByteArray.ext_iff]; exact Array.ext' he
      exact absurd (by rw [h4]; rfl) h
  refine ⟨h1, ?_⟩
  cases he : s.toList with
  | nil => rw [he] at h1; simp [go_sem] at h1
  | cons a l => rfl
theorem size_nil {s : ByteArray} (h : s.size = 0) : s = ⟨#[]⟩ := by
  cases s with
  | mk d => simp [ByteArray.size] at h; subst h; rfl

set_option maxHeartbeats 1000000 in
theorem delOkM_any (r : RowV) (w : World) (hk : r.k.size ≤ maxLen) :
    Calls Try.prog 159 #[.agg #[.string r.k, .string r.t, .int .i64 r.f, .int .i64 r.e]] w fun e w' => e = .returned (.bool (delOk r)) ∧ Below w.heap.size w w' := by
  cases h1 : wordB r.k
  · have H := Lib.hid (show delOk r = false from by simp [delOk, h1])
    have H1 := Lib.hid h1
    clear h1
    go_enter Try.func159, Try.ntmps159
    go_wp2_with fail
    refine (word_val _ _ _ hk H1.out).mono ?_
    rintro e w1 ⟨rfl, rfl⟩
    go_wp2
    go_ret
    exact ⟨ret_bool H.out.symm, (Below.refl _ _).alloc (Nat.le_refl _) _⟩
  · by_cases h2 : r.t.size = 0
    · have H := Lib.hid (show delOk r = okB r.f r.e from by rw [okSpan_eq]; simp [delOk, h1, h2])
      have H1 := Lib.hid h1
      have h3 := size_nil h2
      clear h1 h2
      obtain ⟨rk, rt, rf, re⟩ := r
      simp only at h3 hk H H1 ⊢
      subst h3
      go_enter Try.func159, Try.ntmps159
      go_wp2_with fail
      refine (word_val _ _ _ hk H1.out).mono ?_
      rintro e w1 ⟨rfl, rfl⟩
      go_wp2_with fail
      refine (ok_any _ _ _).mono ?_
      rintro e w1 ⟨rfl, hb⟩
      go_wp2
      go_ret
      exact ⟨ret_bool H.out.symm, ((Below.refl _ _).alloc (Nat.le_refl _) _).trans (hb.mono (by simp))⟩
    · have H := Lib.hid (show delOk r = false from by simp [delOk, h2])
      have H1 := Lib.hid h1
      obtain ⟨h3, h4⟩ := empty_text h2
      clear h1 h2
      go_enter Try.func159, Try.ntmps159
      go_wp2_with fail
      refine (word_val _ _ _ hk H1.out).mono ?_
      rintro e w1 ⟨rfl, rfl⟩
      go_wp2
      go_ret
      exact ⟨ret_bool H.out.symm, (Below.refl _ _).alloc (Nat.le_refl _) _⟩

theorem in_val (t : Int) (w : World) (v : Bool) (h : inTab t = v) :
    Calls Try.prog 92 #[.int .i64 t, .int .i64 0, .int .i64 1] w fun e w' => e = .returned (.bool v) ∧ w = w' := by
  subst h; exact in_any t 0 1 w
theorem tab_val (t : Int) (w : World) (v : Bool) (h : inTab t = v) :
    Calls Try.prog 59 #[.int .i64 t] w fun e w' => e = .returned (.bool v) ∧ w = w' := by
  subst h; exact tabOk_any t w
theorem rowS_val (r : RowV) (w : World) (v : Bool) (hk : r.k.size ≤ maxLen) (ht : r.t.size ≤ maxLen) (h : rowOk r = v) :
    Calls Try.prog 95 #[.agg #[.string r.k, .string r.t, .int .i64 r.f, .int .i64 r.e]] w fun e w' => e = .returned (.bool v) ∧ Below w.heap.size w w' := by
  subst h; exact l2RowOk_any r w hk ht

set_option maxHeartbeats 4000000 in
theorem l6OpOk_any (k t : Int) (r : RowV) (w : World) (hk : r.k.size ≤ maxLen) (ht : r.t.size ≤ maxLen) :
    Calls Try.prog 56 #[.agg #[.int .i64 k, .int .i64 t, .string r.k, .string r.t, .int .i64 r.f, .int .i64 r.e]] w fun e w' => e = .returned (.bool (opOk k t r)) ∧ Below w.heap.size w w' := by
  by_cases hk4 : k = 1 ∨ k = 3 ∨ k = 4
  · cases h1 : inTab t
    · have H := Lib.hid (opOk_no (k := k) (r := r) h1)
      have H1 := Lib.hid h1
      clear h1
      rcases hk4 with rfl | rfl | rfl
      all_goals
        go_enter Try.func56, Try.ntmps56
        go_wp2_with fail
        refine (in_val _ _ _ H1.out).mono ?_
        rintro e w1 ⟨rfl, rfl⟩
        go_wp2
        go_ret
        exact ⟨ret_bool H.out.symm, (Below.refl _ _).alloc (Nat.le_refl _) _⟩
    · have H := Lib.hid (opOk_row (r := r) h1 hk4)
      have H1 := Lib.hid h1
      clear h1
      obtain ⟨o, ho⟩ : ∃ o, rowOk r = o := ⟨_, rfl⟩
      have HO := Lib.hid ho
      rw [ho] at H
      clear ho
      rcases hk4 with rfl | rfl | rfl
      all_goals
        go_enter Try.func56, Try.ntmps56
        go_wp2_with fail
        refine (in_val _ _ _ H1.out).mono ?_
        rintro e w1 ⟨rfl, rfl⟩
        go_wp2_with fail
        refine (rowS_val r _ _ hk ht HO.out).mono ?_
        rintro e w1 ⟨rfl, hb⟩
        go_wp2
        go_ret
        exact ⟨ret_bool H.out.symm, ((Below.refl _ _).alloc (Nat.le_refl _) _).trans (hb.mono (by simp))⟩
  · by_cases hk2 : k = 2
    · subst hk2
      cases h1 : inTab t
      · have H := Lib.hid (opOk_no (k := 2) (r := r) h1)
        have H1 := Lib.hid h1
        clear h1
        go_enter Try.func56, Try.ntmps56
        go_wp2_with fail
        refine (in_val _ _ _ H1.out).mono ?_
        rintro e w1 ⟨rfl, rfl⟩
        go_wp2
        go_ret
        exact ⟨ret_bool H.out.symm, (Below.refl _ _).alloc (Nat.le_refl _) _⟩
      · have H0 := Lib.hid (opOk_del (r := r) h1 rfl)
        have H1 := Lib.hid h1
        clear h1
        cases h2 : wordB r.k
        · have H := Lib.hid (show opOk 2 t r = false from by rw [H0.out]; simp [delOk, h2])
          have H2 := Lib.hid h2
          clear h2
          go_enter Try.func56, Try.ntmps56
          go_wp2_with fail
          refine (in_val _ _ _ H1.out).mono ?_
          rintro e w1 ⟨rfl, rfl⟩
          go_wp2_with fail
          refine (l2Word_val _ _ _ hk H2.out).mono ?_
          rintro e w1 ⟨rfl, rfl⟩
          go_wp2
          go_ret
          exact ⟨ret_bool H.out.symm, (Below.refl _ _).alloc (Nat.le_refl _) _⟩
        · by_cases h3 : r.t.size = 0
          · have H := Lib.hid (show opOk 2 t r = okB r.f r.e from by rw [H0.out, okSpan_eq]; simp [delOk, h2, h3])
            have H2 := Lib.hid h2
            have h4 := size_nil h3
            clear h2 h3 H0
            obtain ⟨rk, rt, rf, re⟩ := r
            simp only at h4 hk ht H H2 ⊢
            subst h4
            go_enter Try.func56, Try.ntmps56
            go_wp2_with fail
            refine (in_val _ _ _ H1.out).mono ?_
            rintro e w1 ⟨rfl, rfl⟩
            go_wp2_with fail
            refine (l2Word_val _ _ _ hk H2.out).mono ?_
            rintro e w1 ⟨rfl, rfl⟩
            go_wp2_with fail
            refine (l1Ok_any _ _ _).mono ?_
            rintro e w1 ⟨rfl, hb⟩
            go_wp2
            go_ret
            exact ⟨ret_bool H.out.symm, ((Below.refl _ _).alloc (Nat.le_refl _) _).trans (hb.mono (by simp))⟩
          · have H := Lib.hid (show opOk 2 t r = false from by rw [H0.out]; simp [delOk, h3])
            have H2 := Lib.hid h2
            obtain ⟨h4, h5⟩ := empty_text h3
            clear h2 h3
            go_enter Try.func56, Try.ntmps56
            go_wp2_with fail
            refine (in_val _ _ _ H1.out).mono ?_
            rintro e w1 ⟨rfl, rfl⟩
            go_wp2_with fail
            refine (l2Word_val _ _ _ hk H2.out).mono ?_
            rintro e w1 ⟨rfl, rfl⟩
            go_wp2
            go_ret
            exact ⟨ret_bool H.out.symm, (Below.refl _ _).alloc (Nat.le_refl _) _⟩
    · have k1 : ¬ k = 1 := by omega
      have k3 : ¬ k = 3 := by omega
      have k4 : ¬ k = 4 := by omega
      have H := Lib.hid (opOk_none (t := t) (r := r) k1 hk2 k3 k4)
      have b1 : (k == 1) = false := by simpa using k1
      have b2 : (k == 2) = false := by simpa using hk2
      have b3 : (k == 3) = false := by simpa using k3
      have b4 : (k == 4) = false := by simpa using k4
      clear hk4
      go_enter Try.func56, Try.ntmps56
      go_wp2
      go_ret
      exact ⟨ret_bool H.out.symm, (Below.refl _ _).alloc (Nat.le_refl _) _⟩

set_option maxHeartbeats 1000000 in
theorem sOpOk_any (k t : Int) (r : RowV) (w : World) (hk : r.k.size ≤ maxLen) (ht : r.t.size ≤ maxLen) :
    Calls Try.prog 20 #[.agg #[.int .i64 k, .int .i64 t, .string r.k, .string r.t, .int .i64 r.f, .int .i64 r.e]] w fun e w' => e = .returned (.bool (opOk k t r)) ∧ Below w.heap.size w w' := by
  go_enter Try.func20, Try.ntmps20
  go_wp2_with fail
  refine (l6OpOk_any k t r _ hk ht).mono ?_
  rintro e w1 ⟨rfl, hb⟩
  go_wp2
  go_ret
  exact ⟨rfl, ((Below.refl _ _).alloc (Nat.le_refl _) _).trans (hb.mono (by simp))⟩
end Go.Proofs.Ytgclmldhdjmabab
