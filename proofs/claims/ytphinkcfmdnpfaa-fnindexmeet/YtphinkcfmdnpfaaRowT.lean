/-
  Walk: a row copied by value.
-/
import Derived.Test.YtphinkcfmdnpfaaRowD
import Derived.Test.YtphinkcfmdnpfaaMeet
import Derived.Deep.RegionWith
import Derived.Deep.QuietTactic
import Derived.BigQuiet
namespace Go.Proofs.Ytphinkcfmdnpfaa
open Go.RowKit

theorem okSpan_eq (a b : Int) : okB a b = okSpan a b := rfl

set_option maxHeartbeats 400000 in
theorem szRow_any (r : RowV) (left : Int) (w : World) (h0 : 0 ≤ left) (h1 : left ≤ 1048576) (hk : r.k.size ≤ maxLen) (ht : r.t.size ≤ maxLen) :
    Calls Try.prog 84 #[.agg #[.string r.k, .string r.t, .int .i64 r.f, .int .i64 r.e], .int .i64 left] w fun e w' => e = .returned (.int .i64 (if left - r.k.size < 0 then -1 else if left - r.k.size - r.t.size < 0 then -1 else left - r.k.size - r.t.size)) ∧ Below w.heap.size w w' := by
  unfold maxLen at hk ht
  by_cases h : left - r.k.size < 0
  · rw [if_pos h]
    go_enter Try.func84, Try.ntmps84
    go_wp2
    go_ret
    exact ⟨rfl, (Below.refl _ _).alloc (Nat.le_refl _) _⟩
  · rw [if_neg h]
    by_cases h2 : left - r.k.size - r.t.size < 0
    · rw [if_pos h2]
      go_enter Try.func84, Try.ntmps84
      go_wp2
      go_ret
      exact ⟨rfl, (Below.refl _ _).alloc (Nat.le_refl _) _⟩
    · rw [if_neg h2]
      go_enter Try.func84, Try.ntmps84
      go_wp2
      go_ret
      exact ⟨rfl, (Below.refl _ _).alloc (Nat.le_refl _) _⟩


set_option maxHeartbeats 1000000 in
theorem eqRow_same (r : RowV) (w : World) :
    Calls Try.prog 91 #[.agg #[.string r.k, .string r.t, .int .i64 r.f, .int .i64 r.e], .agg #[.string r.k, .string r.t, .int .i64 r.f, .int .i64 r.e]] w fun e w' => e = .returned (.bool true) ∧ Below w.heap.size w w' := by
  go_enter Try.func91, Try.ntmps91
  go_wp2_with fail
  refine (eqSpan_same _ _ _).mono ?_
  rintro e w1 ⟨rfl, hb⟩
  go_wp2
  go_ret
  exact ⟨rfl, (((Below.refl _ _).alloc (Nat.le_refl _) _).alloc (by simp) _).trans (hb.mono (by simp; omega))⟩

set_option maxHeartbeats 1000000 in
theorem letterOk_any (c : Int) (w : World) (h0 : 0 ≤ c) (h1 : c ≤ 255) :
    Calls Try.prog 150 #[.int .u8 c] w fun e w' => e = .returned (.bool (letB c)) ∧ w = w' := by
  go_enter Try.func150, Try.ntmps150
  go_wp2
  all_goals go_ret
  all_goals refine ⟨ret_bool ?_, rfl⟩
  all_goals (unfold letB; first | (rw [decide_eq_decide]; omega) | (rw [eq_comm, decide_eq_true_iff]; omega) | (rw [eq_comm, decide_eq_false_iff_not]; omega) | (rw [Bool.eq_iff_iff]; simp; omega) | go_show)

theorem letter_val (c : Int) (w : World) (v : Bool) (h0 : 0 ≤ c) (h1 : c ≤ 255) (h : letB c = v) :
    Calls Try.prog 150 #[.int .u8 c] w fun e w' => e = .returned (.bool v) ∧ w = w' := by
  subst h; exact letterOk_any c w h0 h1

theorem byte_le (s : ByteArray) (i : Nat) (h : i < s.size) : ((s[i]'h).toNat : Int) ≤ 255 := by
  have := (s[i]'h).toNat_lt
  omega

set_option maxHeartbeats 1000000 in
theorem wordOk_any (s : ByteArray) (w : World) (hs : s.size ≤ maxLen) :
    Calls Try.prog 119 #[.string s] w fun e w' => e = .returned (.bool (wordB s)) ∧ w = w' := by
  unfold maxLen at hs
  by_cases hlen : 1 ≤ s.size ∧ s.size ≤ 9
  · obtain ⟨hl1, hl2⟩ := hlen
    have hw := Lib.hid (show wordB s = lettersB s from by simp [wordB, hl1, hl2])
    go_enter Try.func119, Try.ntmps119
    go_wp2
    go_loop [14] (fun i => ∃ k : Nat, k ≤ s.size ∧ i = .int .i64 k ∧ (∀ j, j < k → letAt s j = true)) (fun i => s.size - (intOf i).toNat)
    case atStart => exact ⟨0, Nat.zero_le _, rfl, fun j hj => absurd hj (by omega)⟩
    case round =>
      obtain ⟨k, hk, rfl, hall⟩ := hrel
      have Hall := Lib.hid hall
      clear hall
      by_cases hlt : k < s.size
      · have hb := byte_le s k hlt
        have hat := Lib.hid (letAt_at hlt)
        cases hv : letB (s[k]'hlt).toNat
        · have HV := Lib.hid hv
          clear hv
          go_wp2_with (go_at_call 150; refine (letter_val _ _ _ (by omega) hb HV.out).mono ?_; rintro e w' ⟨rfl, rfl⟩)
          go_ret
          exact ⟨ret_bool (by rw [hw.out, letters_no hlt HV.out]), rfl⟩
        · have HV := Lib.hid hv
          clear hv
          go_wp2_with (go_at_call 150; refine (letter_val _ _ _ (by omega) hb HV.out).mono ?_; rintro e w' ⟨rfl, rfl⟩)
          go_round
          case rel => exact ⟨k + 1, by omega, by go_num, fun j hj => by
            by_cases e : j = k
            · subst e; rw [hat.out, HV.out]
            · exact Hall.out j (by omega)⟩
          case measure => simp [intOf]; omega
      · go_wp2
        go_ret
        exact ⟨ret_bool (by rw [hw.out, letters_yes fun j hj => Hall.out j (by omega)]), rfl⟩
  · have hw := Lib.hid (show wordB s = false from by
      have : decide (1 ≤ s.size ∧ s.size ≤ 9) = false := by rw [decide_eq_false_iff_not]; exact hlen
      rw [wordB, this, Bool.false_and])
    by_cases hl1 : 1 ≤ s.size
    · have hl2 : 9 < s.size := by omega
      clear hlen
      go_enter Try.func119, Try.ntmps119
      go_wp2
      go_ret
      exact ⟨ret_bool hw.out.symm, rfl⟩
    · have hl2 : s.size = 0 := by omega
      clear hlen
      go_enter Try.func119, Try.ntmps119
      go_wp2
      go_ret
      exact ⟨ret_bool hw.out.symm, rfl⟩
theorem word_val (s : ByteArray) (w : World) (v : Bool) (hs : s.size ≤ maxLen) (h : wordB s = v) :
    Calls Try.prog 119 #[.string s] w fun e w' => e = .returned (.bool v) ∧ w = w' := by
  subst h; exact wordOk_any s w hs

set_option maxHeartbeats 1000000 in
theorem rowOkM_any (r : RowV) (w : World) (hk : r.k.size ≤ maxLen) (ht : r.t.size ≤ maxLen) :
    Calls Try.prog 67 #[.agg #[.string r.k, .string r.t, .int .i64 r.f, .int .i64 r.e]] w fun e w' => e = .returned (.bool (rowOk r)) ∧ Below w.heap.size w w' := by
  cases h1 : wordB r.k
  · have H := Lib.hid (show rowOk r = false from by simp [rowOk, h1])
    have H1 := Lib.hid h1
    clear h1
    go_enter Try.func67, Try.ntmps67
    go_wp2_with fail
    refine (word_val _ _ _ hk H1.out).mono ?_
    rintro e w1 ⟨rfl, rfl⟩
    go_wp2
    go_ret
    exact ⟨ret_bool H.out.symm, (Below.refl _ _).alloc (Nat.le_refl _) _⟩
  · cases h2 : wordB r.t
    · have H := Lib.hid (show rowOk r = false from by simp [rowOk, h2])
      have H1 := Lib.hid h1
      have H2 := Lib.hid h2
      clear h1 h2
      go_enter Try.func67, Try.ntmps67
      go_wp2_with fail
      refine (word_val _ _ _ hk H1.out).mono ?_
      rintro e w1 ⟨rfl, rfl⟩
      go_wp2_with fail
      refine (word_val _ _ _ ht H2.out).mono ?_
      rintro e w1 ⟨rfl, rfl⟩
      go_wp2
      go_ret
      exact ⟨ret_bool H.out.symm, (Below.refl _ _).alloc (Nat.le_refl _) _⟩
    · have H := Lib.hid (show rowOk r = okB r.f r.e from by rw [okSpan_eq]; simp [rowOk, h1, h2])
      have H1 := Lib.hid h1
      have H2 := Lib.hid h2
      clear h1 h2
      go_enter Try.func67, Try.ntmps67
      go_wp2_with fail
      refine (word_val _ _ _ hk H1.out).mono ?_
      rintro e w1 ⟨rfl, rfl⟩
      go_wp2_with fail
      refine (word_val _ _ _ ht H2.out).mono ?_
      rintro e w1 ⟨rfl, rfl⟩
      go_wp2_with fail
      refine (ok_any _ _ _).mono ?_
      rintro e w1 ⟨rfl, hb⟩
      go_wp2
      go_ret
      exact ⟨ret_bool H.out.symm, ((Below.refl _ _).alloc (Nat.le_refl _) _).trans (hb.mono (by simp))⟩

set_option maxHeartbeats 2000000 in
theorem l2Word_any (s : ByteArray) (w : World) (hs : s.size ≤ maxLen) :
    Calls Try.prog 149 #[.string s] w fun e w' => e = .returned (.bool (wordB s)) ∧ w = w' := by
  unfold maxLen at hs
  go_enter Try.func149, Try.ntmps149
  go_wp2
  go_loop [3] (fun i => ∃ k : Nat, k ≤ s.size ∧ i = .int .i64 k ∧ (∀ j, j < k → letAt s j = true)) (fun i => s.size - (intOf i).toNat)
  case atStart => exact ⟨0, Nat.zero_le _, rfl, fun j hj => absurd hj (by omega)⟩
  case round =>
    obtain ⟨k, hk, rfl, hall⟩ := hrel
    have Hall := Lib.hid hall
    clear hall
    by_cases hlt : k < s.size
    · have hb := byte_le s k hlt
      have hat := Lib.hid (letAt_at hlt)
      obtain ⟨c, hc⟩ : ∃ c : Nat, (s[k]'hlt).toNat = c := ⟨_, rfl⟩
      have HC := Lib.hid hc
      rw [hc] at hb
      go_wp2
      all_goals first
        | (have hv : letB c = false := (by unfold letB; rw [decide_eq_false_iff_not]; (try simp only [bne_iff_ne, ne_eq, bne_eq_false_iff_eq] at *); omega)
           clear hc
           go_ret
           exact ⟨ret_bool (by rw [wordB, letters_no hlt (by rw [HC.out]; exact hv), Bool.and_false]), rfl⟩)
        | (have hv : letB c = true := (by unfold letB; rw [decide_eq_true_iff]; (try simp only [bne_eq_false_iff_eq] at *); omega)
           clear hc
           go_round
           case rel => exact ⟨k + 1, by omega, by go_num, fun j hj => by
             by_cases e : j = k
             · subst e; rw [hat.out, HC.out, hv]
             · exact Hall.out j (by omega)⟩
           case measure => simp [intOf]; omega)
    · have hL := Lib.hid (letters_yes fun j hj => Hall.out j (by omega))
      go_wp2_with (go_at_call 101; refine (in_any _ _ _ _).mono ?_; rintro e w' ⟨rfl, rfl⟩)
      go_ret
      exact ⟨ret_bool (by rw [wordB, hL.out, Bool.and_true]; unfold inB; rw [decide_eq_decide]; omega), rfl⟩
theorem l2Word_val (s : ByteArray) (w : World) (v : Bool) (hs : s.size ≤ maxLen) (h : wordB s = v) :
    Calls Try.prog 149 #[.string s] w fun e w' => e = .returned (.bool v) ∧ w = w' := by
  subst h; exact l2Word_any s w hs

set_option maxHeartbeats 1000000 in
theorem l2RowOk_any (r : RowV) (w : World) (hk : r.k.size ≤ maxLen) (ht : r.t.size ≤ maxLen) :
    Calls Try.prog 116 #[.agg #[.string r.k, .string r.t, .int .i64 r.f, .int .i64 r.e]] w fun e w' => e = .returned (.bool (rowOk r)) ∧ Below w.heap.size w w' := by
  cases h1 : wordB r.k
  · have H := Lib.hid (show rowOk r = false from by simp [rowOk, h1])
    have H1 := Lib.hid h1
    clear h1
    go_enter Try.func116, Try.ntmps116
    go_wp2_with fail
    refine (l2Word_val _ _ _ hk H1.out).mono ?_
    rintro e w1 ⟨rfl, rfl⟩
    go_wp2
    go_ret
    exact ⟨ret_bool H.out.symm, (Below.refl _ _).alloc (Nat.le_refl _) _⟩
  · cases h2 : wordB r.t
    · have H := Lib.hid (show rowOk r = false from by simp [rowOk, h2])
      have H1 := Lib.hid h1
      have H2 := Lib.hid h2
      clear h1 h2
      go_enter Try.func116, Try.ntmps116
      go_wp2_with fail
      refine (l2Word_val _ _ _ hk H1.out).mono ?_
      rintro e w1 ⟨rfl, rfl⟩
      go_wp2_with fail
      refine (l2Word_val _ _ _ ht H2.out).mono ?_
      rintro e w1 ⟨rfl, rfl⟩
      go_wp2
      go_ret
      exact ⟨ret_bool H.out.symm, (Below.refl _ _).alloc (Nat.le_refl _) _⟩
    · have H := Lib.hid (show rowOk r = okB r.f r.e from by rw [okSpan_eq]; simp [rowOk, h1, h2])
      have H1 := Lib.hid h1
      have H2 := Lib.hid h2
      clear h1 h2
      go_enter Try.func116, Try.ntmps116
      go_wp2_with fail
      refine (l2Word_val _ _ _ hk H1.out).mono ?_
      rintro e w1 ⟨rfl, rfl⟩
      go_wp2_with fail
      refine (l2Word_val _ _ _ ht H2.out).mono ?_
      rintro e w1 ⟨rfl, rfl⟩
      go_wp2_with fail
      refine (l1Ok_any _ _ _).mono ?_
      rintro e w1 ⟨rfl, hb⟩
      go_wp2
      go_ret
      exact ⟨ret_bool H.out.symm, ((Below.refl _ _).alloc (Nat.le_refl _) _).trans (hb.mono (by simp))⟩

end Go.Proofs.Ytphinkcfmdnpfaa
namespace Go.Proofs.Ytphinkcfmdnpfaa
open Go.RowKit

set_option maxHeartbeats 4000000 in
theorem toRow_any (r : RowV) (w : World) :
    Calls Try.prog 87 #[.agg #[.string r.k, .string r.t, .int .i64 r.f, .int .i64 r.e]] w fun e w' => e = .returned (.agg #[.string r.k, .string r.t, .int .i64 r.f, .int .i64 r.e]) ∧ Below w.heap.size w w' := by
  go_enter Try.func87, Try.ntmps87
  go_wp2_with fail
  refine (toSpan_any _ _ _).mono ?_
  rintro e w1 ⟨rfl, hb⟩
  obtain ⟨hc, hf⟩ := bcell hb
  have e0 : w1.cell? ⟨w.heap.size + 1, 0, none⟩ = some (.string ⟨#[]⟩) := (hc _ _ (by simp)).trans (by simp [go_sem])
  have e1 : w1.cell? ⟨w.heap.size + 1, 1, none⟩ = some (.string ⟨#[]⟩) := (hc _ _ (by simp)).trans (by simp [go_sem])
  have e2 : w1.cell? ⟨w.heap.size + 1, 2, none⟩ = some (.int .i64 0) := (hc _ _ (by simp)).trans (by simp [go_sem])
  have e3 : w1.cell? ⟨w.heap.size + 1, 3, none⟩ = some (.int .i64 0) := (hc _ _ (by simp)).trans (by simp [go_sem])
  have f0 : w1.cell? ⟨w.heap.size + 1 + 1, 0, none⟩ = some (.string r.k) := (hc _ _ (by simp)).trans (by simp [go_sem])
  have f1 : w1.cell? ⟨w.heap.size + 1 + 1, 1, none⟩ = some (.string r.t) := (hc _ _ (by simp)).trans (by simp [go_sem])
  have f2 : w1.cell? ⟨w.heap.size + 1 + 1, 2, none⟩ = some (.int .i64 0) := (hc _ _ (by simp)).trans (by simp [go_sem])
  have f3 : w1.cell? ⟨w.heap.size + 1 + 1, 3, none⟩ = some (.int .i64 0) := (hc _ _ (by simp)).trans (by simp [go_sem])
  have g0 : ∀ o, w1.frozen? ⟨w.heap.size + 1, o, none⟩ = false := fun o => (hf _ _ (by simp)).trans (by simp [go_sem])
  have g1 : ∀ o, w1.frozen? ⟨w.heap.size + 1 + 1, o, none⟩ = false := fun o => (hf _ _ (by simp)).trans (by simp [go_sem])
  have HB := Lib.hid (show Below w.heap.size w w1 from ((((Below.refl _ _).alloc (Nat.le_refl _) _).alloc (by simp) _).alloc (by simp; omega) _).trans (hb.mono (by simp; omega)))
  clear hb hc hf
  go_wp2
  refine bodyPost_ret (v := .agg #[.string r.k, .string r.t, .int .i64 r.f, .int .i64 r.e]) (by simp [results, Try.results87, go_sem, e0, e1, e2, e3]) rfl ⟨rfl, ?_⟩
  repeat (first | exact HB.out | refine Below.setCell ?_ (by simp; try omega) _)
end Go.Proofs.Ytphinkcfmdnpfaa
