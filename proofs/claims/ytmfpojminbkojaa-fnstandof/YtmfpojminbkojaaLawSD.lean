/-
  The walk of the law of how spans stand (P53).
-/
import Derived.Test.YtmfpojminbkojaaDrawSt
import Derived.Test.YtmfpojminbkojaaStandE
namespace Go.Proofs.Ytmfpojminbkojaa
open Go.RowKit

theorem stand_cases {a b c d : Int} (h1 : a < b) (h2 : c < d) :
    (a = c ∧ b = d ∧ standI a b c d = 7 ∧ standI c d a b = 7 ∧ mB a b c d = true) ∨ ((a = c → b ≠ d) ∧ ∃ v, standI a b c d = v ∧ standI c d a b = -v ∧
      ((v = 1 ∨ v = -1 ∨ v = 2 ∨ v = -2) ∧ mB a b c d = false ∨ (v = 3 ∨ v = -3 ∨ v = 4 ∨ v = -4 ∨ v = 5 ∨ v = -5 ∨ v = 6 ∨ v = -6) ∧ mB a b c d = true)) := by
  have of : ∀ {a b c d v : Int}, standB a b c d = v → v ≠ 0 → standB c d a b = 0 → standI a b c d = v ∧ standI c d a b = -v := fun h hv h0 => ⟨standI_of h hv, standI_turn h0 h⟩
  have far : ¬ max a c < min b d → mB a b c d = false := fun h => by unfold mB; exact decide_eq_false h
  have near : max a c < min b d → mB a b c d = true := fun h => by unfold mB; exact decide_eq_true h
  rcases Int.lt_trichotomy b c with g | g | g
  · have := of (a := a) (b := b) (c := c) (d := d) (v := 1) (by unfold standB; repeat (first | rw [if_neg (by omega)] | rw [if_pos (by omega)])) (by decide) (by unfold standB; repeat (first | rw [if_neg (by omega)] | rw [if_pos (by omega)]))
    exact .inr ⟨by omega, 1, this.1, this.2, .inl ⟨by omega, far (by omega)⟩⟩
  · have := of (a := a) (b := b) (c := c) (d := d) (v := 2) (by unfold standB; repeat (first | rw [if_neg (by omega)] | rw [if_pos (by omega)])) (by decide) (by unfold standB; repeat (first | rw [if_neg (by omega)] | rw [if_pos (by omega)]))
    exact .inr ⟨by omega, 2, this.1, this.2, .inl ⟨by omega, far (by omega)⟩⟩
  rcases Int.lt_trichotomy d a with k | k | k
  · have := of (a := c) (b := d) (c := a) (d := b) (v := 1) (by unfold standB; repeat (first | rw [if_neg (by omega)] | rw [if_pos (by omega)])) (by decide) (by unfold standB; repeat (first | rw [if_neg (by omega)] | rw [if_pos (by omega)]))
    exact .inr ⟨by omega, -1, this.2, this.1, .inl ⟨by omega, far (by omega)⟩⟩
  · have := of (a := c) (b := d) (c := a) (d := b) (v := 2) (by unfold standB; repeat (first | rw [if_neg (by omega)] | rw [if_pos (by omega)])) (by decide) (by unfold standB; repeat (first | rw [if_neg (by omega)] | rw [if_pos (by omega)]))
    exact .inr ⟨by omega, -2, this.2, this.1, .inl ⟨by omega, far (by omega)⟩⟩
  have hn := near (by omega)
  rcases Int.lt_trichotomy a c with f | f | f <;> rcases Int.lt_trichotomy b d with q | q | q
  · have := of (a := a) (b := b) (c := c) (d := d) (v := 3) (by unfold standB; repeat (first | rw [if_neg (by omega)] | rw [if_pos (by omega)])) (by decide) (by unfold standB; repeat (first | rw [if_neg (by omega)] | rw [if_pos (by omega)]))
    exact .inr ⟨by omega, 3, this.1, this.2, .inr ⟨by omega, hn⟩⟩
  · have := of (a := c) (b := d) (c := a) (d := b) (v := 5) (by unfold standB; repeat (first | rw [if_neg (by omega)] | rw [if_pos (by omega)])) (by decide) (by unfold standB; repeat (first | rw [if_neg (by omega)] | rw [if_pos (by omega)]))
    exact .inr ⟨by omega, -5, this.2, this.1, .inr ⟨by omega, hn⟩⟩
  · have := of (a := c) (b := d) (c := a) (d := b) (v := 6) (by unfold standB; repeat (first | rw [if_neg (by omega)] | rw [if_pos (by omega)])) (by decide) (by unfold standB; repeat (first | rw [if_neg (by omega)] | rw [if_pos (by omega)]))
    exact .inr ⟨by omega, -6, this.2, this.1, .inr ⟨by omega, hn⟩⟩
  · have := of (a := a) (b := b) (c := c) (d := d) (v := 4) (by unfold standB; repeat (first | rw [if_neg (by omega)] | rw [if_pos (by omega)])) (by decide) (by unfold standB; repeat (first | rw [if_neg (by omega)] | rw [if_pos (by omega)]))
    exact .inr ⟨by omega, 4, this.1, this.2, .inr ⟨by omega, hn⟩⟩
  · exact .inl ⟨f, q, standI_of (by unfold standB; repeat (first | rw [if_neg (by omega)] | rw [if_pos (by omega)])) (by decide), standI_of (by unfold standB; repeat (first | rw [if_neg (by omega)] | rw [if_pos (by omega)])) (by decide), hn⟩
  · have := of (a := c) (b := d) (c := a) (d := b) (v := 4) (by unfold standB; repeat (first | rw [if_neg (by omega)] | rw [if_pos (by omega)])) (by decide) (by unfold standB; repeat (first | rw [if_neg (by omega)] | rw [if_pos (by omega)]))
    exact .inr ⟨by omega, -4, this.2, this.1, .inr ⟨by omega, hn⟩⟩
  · have := of (a := a) (b := b) (c := c) (d := d) (v := 6) (by unfold standB; repeat (first | rw [if_neg (by omega)] | rw [if_pos (by omega)])) (by decide) (by unfold standB; repeat (first | rw [if_neg (by omega)] | rw [if_pos (by omega)]))
    exact .inr ⟨by omega, 6, this.1, this.2, .inr ⟨by omega, hn⟩⟩
  · have := of (a := a) (b := b) (c := c) (d := d) (v := 5) (by unfold standB; repeat (first | rw [if_neg (by omega)] | rw [if_pos (by omega)])) (by decide) (by unfold standB; repeat (first | rw [if_neg (by omega)] | rw [if_pos (by omega)]))
    exact .inr ⟨by omega, 5, this.1, this.2, .inr ⟨by omega, hn⟩⟩
  · have := of (a := c) (b := d) (c := a) (d := b) (v := 3) (by unfold standB; repeat (first | rw [if_neg (by omega)] | rw [if_pos (by omega)])) (by decide) (by unfold standB; repeat (first | rw [if_neg (by omega)] | rw [if_pos (by omega)]))
    exact .inr ⟨by omega, -3, this.2, this.1, .inr ⟨by omega, hn⟩⟩

theorem SpanMeet_val (a b c d : Int) (w : World) (m : Bool) (h : gB a b c d = m) :
    Calls Try.prog 32 #[.agg #[.int .i64 a, .int .i64 b], .agg #[.int .i64 c, .int .i64 d]] w fun e w' =>
      (∃ x y, e = .returned (.tuple #[.agg #[.int .i64 x, .int .i64 y], .bool m])) ∧ Below w.heap.size w w' := by
  subst h; exact (SpanMeet_any a b c d w).mono fun e w' ⟨h1, h2⟩ => ⟨⟨_, _, h1⟩, h2⟩

set_option maxRecDepth 10000 in
set_option maxHeartbeats 8000000 in
theorem FnStandOf_any (A : Option Addr) (n cap : Nat) (zs : List Int) (w : World) (hz : Bytes w w.heap.size A zs ∧ zs.length = n ∧ n ≤ cap ∧ cap ≤ maxLen) :
    Calls Try.prog 7 #[.slice A n cap] w fun e w' => e = .returned (.bool true) ∧ Below w.heap.size w w' := by
  obtain ⟨hz, rfl, hc, hm⟩ := hz
  have hm' := hm
  unfold maxLen at hm'
  by_cases hl : (1048576 : Int) < zs.length
  · go_enter Try.func7, Try.ntmps7
    go_wp2
    go_ret
    exact ⟨rfl, Below.refl _ _⟩
  go_enter Try.func7, Try.ntmps7
  go_wp2_with fail
  refine (DrawStandOf_any A cap zs w hz hc hm).mono ?_
  rintro e w1 ⟨a, b, c, d, rfl, hb1⟩
  clear hz hm hm' hc
  obtain ⟨n, hn⟩ : ∃ n, standL a b c d = n := ⟨_, rfl⟩
  have Hn := Lib.hid hn
  clear hn
  go_wp2_with fail
  generalize hW : (w1.alloc _).alloc _ = W0
  have q0 : W0.cell? ⟨w1.heap.size, 0, none⟩ = some (.int .i64 a) := by rw [← hW]; simp [go_sem]
  have q1 : W0.cell? ⟨w1.heap.size, 1, none⟩ = some (.int .i64 b) := by rw [← hW]; simp [go_sem]
  have q2 : W0.cell? ⟨w1.heap.size + 1, 0, none⟩ = some (.int .i64 c) := by rw [← hW]; simp [go_sem]
  have q3 : W0.cell? ⟨w1.heap.size + 1, 1, none⟩ = some (.int .i64 d) := by rw [← hW]; simp [go_sem]
  have z1 : w1.heap.size + 1 < W0.heap.size := by rw [← hW]; simp
  have z0 : w1.heap.size < W0.heap.size := by omega
  have HB := Lib.hid (show Below w.heap.size w W0 from by rw [← hW]; exact (hb1.alloc hb1.size _).alloc (by have := hb1.size; simp; omega) _)
  generalize w1.heap.size = G at *
  clear hW hb1
  refine (StandOf_val a b c d W0 n Hn.out).mono ?_
  rintro e w2 ⟨rfl, hb⟩
  replace q0 := cell_below hb z0 q0
  replace q1 := cell_below hb z0 q1
  replace q2 := cell_below hb z1 q2
  replace q3 := cell_below hb z1 q3
  replace z0 := Nat.lt_of_lt_of_le z0 hb.size
  replace z1 := Nat.lt_of_lt_of_le z1 hb.size
  have HB2 := Lib.hid (HB.out.trans (hb.mono HB.out.size))
  clear hb HB
  go_wp2_with fail
  refine (sStandOf_val a b c d _ n Hn.out).mono ?_
  rintro e w3 ⟨rfl, hb⟩
  replace q0 := cell_below hb z0 q0
  replace q1 := cell_below hb z0 q1
  replace q2 := cell_below hb z1 q2
  replace q3 := cell_below hb z1 q3
  replace z0 := Nat.lt_of_lt_of_le z0 hb.size
  replace z1 := Nat.lt_of_lt_of_le z1 hb.size
  have HB3 := Lib.hid (HB2.out.trans (hb.mono HB2.out.size))
  clear hb HB2
  by_cases hok : (okB a b && okB c d) = true
  · have h12 : okB a b = true ∧ okB c d = true := by simpa using hok
    have hI : standI a b c d = n := by rw [← Hn.out, standL, if_pos hok]
    have hJ : standL c d a b = standI c d a b := by rw [standL, h12.1, h12.2]; rfl
    have hG : gB a b c d = mB a b c d := by rw [gB, h12.1, h12.2]; rfl
    have HC := Lib.hid (stand_cases (okB_lt h12.1) (okB_lt h12.2))
    have HJ := Lib.hid hJ
    have HG := Lib.hid hG
    have HI := Lib.hid hI
    have hn0 : n ≠ 0 := by
      rw [← hI]
      rcases HC.out with ⟨_, _, h, _⟩ | ⟨_, v, h, _, h' | h'⟩ <;> omega
    obtain ⟨u, hu⟩ : ∃ u, standL c d a b = u := ⟨_, rfl⟩
    obtain ⟨m, hm⟩ : ∃ m, gB a b c d = m := ⟨_, rfl⟩
    have HU := Lib.hid hu
    have HM := Lib.hid hm
    clear hok h12 hI hJ hG hu hm
    go_wp2_with fail
    refine (StandOf_val c d a b _ u HU.out).mono ?_
    rintro e w4 ⟨rfl, hb⟩
    replace q0 := cell_below hb z0 q0
    replace q1 := cell_below hb z0 q1
    replace q2 := cell_below hb z1 q2
    replace q3 := cell_below hb z1 q3
    replace z0 := Nat.lt_of_lt_of_le z0 hb.size
    replace z1 := Nat.lt_of_lt_of_le z1 hb.size
    have HB4 := Lib.hid (HB3.out.trans (hb.mono HB3.out.size))
    clear hb HB3
    go_wp2_with fail
    refine (SpanMeet_val a b c d _ m HM.out).mono ?_
    rintro e w5 ⟨⟨x, y, rfl⟩, hb⟩
    replace q0 := cell_below hb z0 q0
    replace q1 := cell_below hb z0 q1
    replace q2 := cell_below hb z1 q2
    replace q3 := cell_below hb z1 q3
    replace z0 := Nat.lt_of_lt_of_le z0 hb.size
    replace z1 := Nat.lt_of_lt_of_le z1 hb.size
    have HB5 := Lib.hid (HB4.out.trans (hb.mono HB4.out.size))
    clear hb HB4 hn0
    rcases HC.out with ⟨rfl, rfl, h7, h7', hmm⟩ | ⟨hne, v, hv, hv', hcase⟩
    · obtain rfl : n = 7 := HI.out.symm.trans h7
      obtain rfl : u = 7 := HU.out.symm.trans (HJ.out.trans h7')
      obtain rfl : m = true := HM.out.symm.trans (HG.out.trans hmm)
      clear HC h7 h7' hmm HI HU HM HG HJ Hn
      go_wp2
      go_ret
      exact ⟨rfl, HB5.out.alloc HB5.out.size _⟩
    · obtain rfl : n = v := HI.out.symm.trans hv
      obtain rfl : u = -n := HU.out.symm.trans (HJ.out.trans hv')
      have hne' : ¬ (a = c ∧ b = d) := fun h => hne h.1 h.2
      have hmm := HM.out.symm.trans HG.out
      clear HC HI HU HM HG HJ Hn hne hv hv'
      rcases hcase with ⟨hc, hm⟩ | ⟨hc, hm⟩
      · obtain rfl : m = false := hmm.trans hm
        clear hm hmm
        rcases hc with rfl | rfl | rfl | rfl
        all_goals go_wp2
        all_goals go_ret
        all_goals exact ⟨rfl, HB5.out.alloc HB5.out.size _⟩
      · obtain rfl : m = true := hmm.trans hm
        clear hm hmm
        rcases hc with rfl | rfl | rfl | rfl | rfl | rfl | rfl | rfl
        all_goals go_wp2
        all_goals go_ret
        all_goals exact ⟨rfl, HB5.out.alloc HB5.out.size _⟩
  · have hn0 : n = 0 := by rw [← Hn.out, standL, if_neg hok]
    clear hok
    subst hn0
    go_wp2_with fail
    refine (sStandOf_val a b c d _ 0 Hn.out).mono ?_
    rintro e w4 ⟨rfl, hb⟩
    have HB4 := Lib.hid (HB3.out.trans (hb.mono HB3.out.size))
    clear hb HB3
    go_wp2
    go_ret
    exact ⟨rfl, HB4.out⟩
end Go.Proofs.Ytmfpojminbkojaa
