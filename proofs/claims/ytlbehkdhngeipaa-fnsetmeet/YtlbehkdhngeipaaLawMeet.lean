/-
  The walk of FnSpanMeet.
-/
import Derived.Test.YtlbehkdhngeipaaDrawC
import Derived.Test.YtlbehkdhngeipaaHas
namespace Go.Proofs.Ytlbehkdhngeipaa
open Go.RowKit

def anyIn (zs : List (Int × Int)) (c : Int) : Bool := (List.range zs.length).any (hasAt zs c)
theorem anyIn_yes {zs : List (Int × Int)} {c : Int} {k : Nat} (hk : k < zs.length) (h : hasAt zs c k = true) : true = anyIn zs c := by
  rw [anyIn, eq_comm, List.any_eq_true]
  exact ⟨k, by simpa using hk, h⟩
theorem anyIn_no {zs : List (Int × Int)} {c : Int} (h : ∀ j, j < zs.length → hasAt zs c j = false) : false = anyIn zs c := by
  rw [anyIn, eq_comm, List.any_eq_false]
  intro x hx
  simp [h x (by simpa using hx)]
theorem anyIn_one (x y c : Int) : anyIn [(x, y)] c = hasB x y c := by simp [anyIn, hasAt]

set_option maxHeartbeats 1000000 in
theorem vaIn_any (A : Option Addr) (cap : Nat) (zs : List (Int × Int)) (c : Int) (w : World) (hz : Spans w A zs) (hl : zs.length ≤ maxLen) :
    Calls Try.prog 26 #[.slice A zs.length cap, .int .i64 c] w fun e w' => e = .returned (.bool (anyIn zs c)) ∧ w = w' := by
  unfold maxLen at hl
  go_enter Try.func26, Try.ntmps26
  go_wp2
  go_loop [5] (fun i => ∃ k : Nat, k ≤ zs.length ∧ i = .int .i64 k ∧ (∀ j, j < k → hasAt zs c j = false)) (fun i => zs.length - (intOf i).toNat)
  case atStart => exact ⟨0, Nat.zero_le _, rfl, fun j hj => absurd hj (by omega)⟩
  case round =>
    obtain ⟨k, hk, rfl, hall⟩ := hrel
    have Hall := Lib.hid hall
    clear hall
    by_cases hlt : k < zs.length
    · obtain ⟨b, off, rfl, hcells⟩ := hz (by omega)
      obtain ⟨c0, c1⟩ := hcells k hlt
      have hok : hasAt zs c k = hasB (zs.getD k (0, 0)).1 (zs.getD k (0, 0)).2 c := rfl
      generalize (zs.getD k (0, 0)).1 = x at *
      generalize (zs.getD k (0, 0)).2 = y at *
      have Hok := Lib.hid hok
      clear hok hcells
      by_cases h1 : x ≤ c
      · by_cases h2 : c < y
        · go_wp2
          go_ret
          exact ⟨ret_bool (anyIn_yes hlt (Hok.out.trans (by simp [hasB, h1, h2]))), rfl⟩
        · go_wp2
          go_round
          case rel => exact ⟨k + 1, by omega, by go_num, fun j hj => by
            by_cases e : j = k
            · subst e; exact Hok.out.trans (by simp [hasB]; omega)
            · exact Hall.out j (by omega)⟩
          case measure => simp [intOf]; omega
      · have h1' : decide (x ≤ c) = false := by simp; omega
        go_wp2
        go_round
        case rel => exact ⟨k + 1, by omega, by go_num, fun j hj => by
          by_cases e : j = k
          · subst e; exact Hok.out.trans (by simp [hasB]; omega)
          · exact Hall.out j (by omega)⟩
        case measure => simp [intOf]; omega
    · go_wp2
      go_ret
      exact ⟨ret_bool (anyIn_no fun j hj => Hall.out j (by omega)), rfl⟩

theorem g_symm (a b c d : Int) : gB c d a b = gB a b c d ∧ gF c d a b = gF a b c d ∧ gT c d a b = gT a b c d := by
  have h1 : mB c d a b = mB a b c d := by unfold mB; rw [decide_eq_decide]; omega
  have h2 : mF c d a b = mF a b c d := by unfold mF; rw [Int.max_comm c a, Int.min_comm d b]
  have h3 : mT c d a b = mT a b c d := by unfold mT; rw [Int.max_comm c a, Int.min_comm d b]
  unfold gB gF gT
  rw [h1, h2, h3, Bool.and_comm (okB c d)]
  exact ⟨rfl, rfl, rfl⟩
theorem g_has {a b c d : Int} (h : okB a b = true) (h' : okB c d = true) (x : Int) : (hasB a b x && hasB c d x) = (gB a b c d && hasB (gF a b c d) (gT a b c d) x) := by
  have k1 : 0 ≤ a ∧ a < b ∧ b ≤ 100 := of_decide_eq_true h
  have k2 : 0 ≤ c ∧ c < d ∧ d ≤ 100 := of_decide_eq_true h'
  by_cases hm : max a c < min b d
  · have e := m_yes (a := a) (b := b) (c := c) (d := d) rfl rfl hm
    have e1 : gB a b c d = true := by simp [gB, h, h', ← e.1]
    have e2 : gF a b c d = max a c := by simp [gF, h, h', ← e.2.1]
    have e3 : gT a b c d = min b d := by simp [gT, h, h', ← e.2.2]
    rw [e1, e2, e3, Bool.true_and, Bool.eq_iff_iff]
    simp [hasB]
    omega
  · have e := m_no (a := a) (b := b) (c := c) (d := d) hm
    have e1 : gB a b c d = false := by simp [gB, h, h', ← e.1]
    rw [e1, Bool.false_and]
    simp [hasB]
    omega

theorem spans_one {w : World} {g : Nat} {x y : Int} (h0 : w.cell? ⟨g, 0, none⟩ = some (.int .i64 x)) (h1 : w.cell? ⟨g, 1, none⟩ = some (.int .i64 y)) : Spans w (some ⟨g, 0, none⟩) [(x, y)] := fun _ =>
  ⟨g, 0, rfl, fun i hi => by
    have : i = 0 := by simpa using hi
    subst this
    exact ⟨by simpa using h0, by simpa using h1⟩⟩

theorem vaIn_one (g cap : Nat) (x y c : Int) (w : World) (h0 : w.cell? ⟨g, 0, none⟩ = some (.int .i64 x)) (h1 : w.cell? ⟨g, 1, none⟩ = some (.int .i64 y)) :
    Calls Try.prog 26 #[.slice (some ⟨g, 0, none⟩) 1 cap, .int .i64 c] w fun e w' => e = .returned (.bool (hasB x y c)) ∧ w = w' := by
  rw [← anyIn_one]
  exact vaIn_any _ cap [(x, y)] c w (spans_one h0 h1) (by unfold maxLen; simp)

theorem SpanOk_val (a b : Int) (w : World) (v : Bool) (h : okB a b = v) :
    Calls Try.prog 24 #[.agg #[.int .i64 a, .int .i64 b]] w fun e w' => e = .returned (.bool v) ∧ Below w.heap.size w w' := by
  subst h; exact SpanOk_any a b w
theorem sSpanOk_val (a b : Int) (w : World) (v : Bool) (h : okB a b = v) :
    Calls Try.prog 25 #[.agg #[.int .i64 a, .int .i64 b]] w fun e w' => e = .returned (.bool v) ∧ Below w.heap.size w w' := by
  subst h; exact sSpanOk_any a b w

set_option maxHeartbeats 2000000 in
theorem FnSpanMeet_any (A : Option Addr) (n cap : Nat) (zs : List Int) (w : World) (hz : Bytes w w.heap.size A zs ∧ zs.length = n ∧ n ≤ cap ∧ cap ≤ maxLen) :
    Calls Try.prog 3 #[.slice A n cap] w fun e w' => e = .returned (.bool true) ∧ Below w.heap.size w w' := by
  obtain ⟨hz, rfl, hc, hm⟩ := hz
  have hm' := hm
  unfold maxLen at hm'
  by_cases hl : (1048576 : Int) < zs.length
  · go_enter Try.func3, Try.ntmps3
    go_wp2
    go_ret
    exact ⟨rfl, Below.refl _ _⟩
  · go_enter Try.func3, Try.ntmps3
    go_wp2_with fail
    refine (DrawSpanMeet_any A cap zs w hz hc hm).mono ?_
    rintro e w1 ⟨a, b, c, d, rfl, hab, hcd, hb1⟩
    clear hab hcd
    go_wp2_with fail
    refine (SpanMeet_any _ _ _ _ _).mono ?_
    rintro e w2 ⟨rfl, hb2⟩
    simp only [World.size_alloc] at hb2
    have k0 : w2.cell? ⟨w1.heap.size, 0, none⟩ = some (.int .i64 a) := cell_below hb2 (by omega) (by simp)
    have k1 : w2.cell? ⟨w1.heap.size, 1, none⟩ = some (.int .i64 b) := cell_below hb2 (by omega) (by simp)
    have k2 : w2.cell? ⟨w1.heap.size + 1, 0, none⟩ = some (.int .i64 c) := cell_below hb2 (by omega) (by simp)
    have k3 : w2.cell? ⟨w1.heap.size + 1, 1, none⟩ = some (.int .i64 d) := cell_below hb2 (by omega) (by simp)
    have hz2 := hb2.size
    simp at hz2
    have hB2 : Below w.heap.size w w2 := (((hb1.alloc hb1.size _).alloc (by have := hb1.size; simp; omega) _)).trans (hb2.mono (by have := hb1.size; omega))
    have hne1 : w1.heap.size < w2.heap.size := by omega
    have hne2 : w1.heap.size + 1 < w2.heap.size := by omega
    clear hb1 hb2
    go_wp2_with fail
    refine (sSpanMeet_any _ _ _ _ _).mono ?_
    rintro e w3 ⟨rfl, hb3⟩
    simp only [World.size_alloc] at hb3
    have hz3 := hb3.size
    simp at hz3
    have l0 : w3.cell? ⟨w1.heap.size, 0, none⟩ = some (.int .i64 a) := cell_below hb3 (by omega) (cell_alloc_far k0)
    have l1 : w3.cell? ⟨w1.heap.size, 1, none⟩ = some (.int .i64 b) := cell_below hb3 (by omega) (cell_alloc_far k1)
    have l2 : w3.cell? ⟨w1.heap.size + 1, 0, none⟩ = some (.int .i64 c) := cell_below hb3 (by omega) (cell_alloc_far k2)
    have l3 : w3.cell? ⟨w1.heap.size + 1, 1, none⟩ = some (.int .i64 d) := cell_below hb3 (by omega) (cell_alloc_far k3)
    have l4 : w3.cell? ⟨w2.heap.size, 0, none⟩ = some (.int .i64 (gF a b c d)) := cell_below hb3 (by omega) (by simp)
    have l5 : w3.cell? ⟨w2.heap.size, 1, none⟩ = some (.int .i64 (gT a b c d)) := cell_below hb3 (by omega) (by simp)
    have hB3 : Below w.heap.size w w3 := (hB2.alloc hB2.size _).trans (hb3.mono (by have := hB2.size; omega))
    have hne3 : w1.heap.size < w3.heap.size := by omega
    have hne4 : w1.heap.size + 1 < w3.heap.size := by omega
    have hne5 : w2.heap.size < w3.heap.size := by omega
    clear hb3 k0 k1 k2 k3 hne1 hne2 hB2 hz2 hz3
    obtain ⟨x, hx⟩ : ∃ x, okB a b = x := ⟨_, rfl⟩
    obtain ⟨y, hy⟩ : ∃ y, okB c d = y := ⟨_, rfl⟩
    have Hx := Lib.hid hx
    have Hy := Lib.hid hy
    clear hx hy
    have HB3 := Lib.hid hB3
    have hs3 := hB3.size
    clear hB3
    go_wp2_with fail
    refine wp_region_later (by kernel_rfl) (by kernel_rfl) ?_
    intro f hf1 hf2 hfc
    cases x
    · repeat (go_big_quiet_step ((first | (go_at_call 24; exact calls_later hf1 hf2 (SpanOk_val _ _ _ _ Hx.out)) | (go_at_call 24; exact calls_later hf1 hf2 (SpanOk_val _ _ _ _ Hy.out)) | (go_at_call 25; exact calls_later hf1 hf2 (sSpanOk_val _ _ _ _ Hx.out)))))
      refine wpQuiet_nil ?_
      rintro _ ⟨v, rfl⟩
      have hb4 := hf1.out v
      clear hfc hf1 hf2
      generalize f v = w4 at *
      simp only [World.size_alloc] at hb4
      have hz4 := hb4.size
      simp at hz4
      have m0 : w4.cell? ⟨w1.heap.size, 0, none⟩ = some (.int .i64 a) := cell_below hb4 (by omega) (cell_alloc_far l0)
      have m1 : w4.cell? ⟨w1.heap.size, 1, none⟩ = some (.int .i64 b) := cell_below hb4 (by omega) (cell_alloc_far l1)
      have m2 : w4.cell? ⟨w1.heap.size + 1, 0, none⟩ = some (.int .i64 c) := cell_below hb4 (by omega) (cell_alloc_far l2)
      have m3 : w4.cell? ⟨w1.heap.size + 1, 1, none⟩ = some (.int .i64 d) := cell_below hb4 (by omega) (cell_alloc_far l3)
      have m4 : w4.cell? ⟨w2.heap.size, 0, none⟩ = some (.int .i64 (gF a b c d)) := cell_below hb4 (by omega) (cell_alloc_far l4)
      have m5 : w4.cell? ⟨w2.heap.size, 1, none⟩ = some (.int .i64 (gT a b c d)) := cell_below hb4 (by omega) (cell_alloc_far l5)
      have m6 : w4.cell? ⟨w3.heap.size, 0, none⟩ = some (.int .i64 (gF a b c d)) := cell_below hb4 (by omega) (by simp)
      have m7 : w4.cell? ⟨w3.heap.size, 1, none⟩ = some (.int .i64 (gT a b c d)) := cell_below hb4 (by omega) (by simp)
      have hB4 : Below w.heap.size w w4 := (HB3.out.alloc hs3 _).trans (hb4.mono (by omega))
      have HB4 := Lib.hid hB4
      have hs4 := hB4.size
      have z1 : w1.heap.size < w4.heap.size := by omega
      have z2 : w1.heap.size + 1 < w4.heap.size := by omega
      have z3 : w2.heap.size < w4.heap.size := by omega
      have z4 : w3.heap.size < w4.heap.size := by omega
      clear hb4 hB4 l0 l1 l2 l3 l4 l5 hne3 hne4 hne5 hz4
      go_wp2_with fail
      refine wp_region_later (by kernel_rfl) (by kernel_rfl) ?_
      intro f' hf1 hf2 hfc
      repeat (go_big_quiet_step ((first | (go_at_call 24; exact calls_later hf1 hf2 (SpanOk_val _ _ _ _ Hx.out)) | (go_at_call 24; exact calls_later hf1 hf2 (SpanOk_val _ _ _ _ Hy.out)) | (go_at_call 25; exact calls_later hf1 hf2 (sSpanOk_val _ _ _ _ Hx.out)))))
      refine wpQuiet_nil ?_
      rintro _ ⟨v', rfl⟩
      have HB5 := Lib.hid (HB4.out.trans ((hf1.out v').mono hs4))
      clear hfc
      go_wp2
      go_ret
      exact ⟨rfl, HB5.out⟩
    · cases y
      · repeat (go_big_quiet_step ((first | (go_at_call 24; exact calls_later hf1 hf2 (SpanOk_val _ _ _ _ Hx.out)) | (go_at_call 24; exact calls_later hf1 hf2 (SpanOk_val _ _ _ _ Hy.out)) | (go_at_call 25; exact calls_later hf1 hf2 (sSpanOk_val _ _ _ _ Hx.out)))))
        refine wpQuiet_nil ?_
        rintro _ ⟨v, rfl⟩
        have hb4 := hf1.out v
        clear hfc hf1 hf2
        generalize f v = w4 at *
        simp only [World.size_alloc] at hb4
        have hz4 := hb4.size
        simp at hz4
        have m0 : w4.cell? ⟨w1.heap.size, 0, none⟩ = some (.int .i64 a) := cell_below hb4 (by omega) (cell_alloc_far l0)
        have m1 : w4.cell? ⟨w1.heap.size, 1, none⟩ = some (.int .i64 b) := cell_below hb4 (by omega) (cell_alloc_far l1)
        have m2 : w4.cell? ⟨w1.heap.size + 1, 0, none⟩ = some (.int .i64 c) := cell_below hb4 (by omega) (cell_alloc_far l2)
        have m3 : w4.cell? ⟨w1.heap.size + 1, 1, none⟩ = some (.int .i64 d) := cell_below hb4 (by omega) (cell_alloc_far l3)
        have m4 : w4.cell? ⟨w2.heap.size, 0, none⟩ = some (.int .i64 (gF a b c d)) := cell_below hb4 (by omega) (cell_alloc_far l4)
        have m5 : w4.cell? ⟨w2.heap.size, 1, none⟩ = some (.int .i64 (gT a b c d)) := cell_below hb4 (by omega) (cell_alloc_far l5)
        have m6 : w4.cell? ⟨w3.heap.size, 0, none⟩ = some (.int .i64 (gF a b c d)) := cell_below hb4 (by omega) (by simp)
        have m7 : w4.cell? ⟨w3.heap.size, 1, none⟩ = some (.int .i64 (gT a b c d)) := cell_below hb4 (by omega) (by simp)
        have hB4 : Below w.heap.size w w4 := (HB3.out.alloc hs3 _).trans (hb4.mono (by omega))
        have HB4 := Lib.hid hB4
        have hs4 := hB4.size
        have z1 : w1.heap.size < w4.heap.size := by omega
        have z2 : w1.heap.size + 1 < w4.heap.size := by omega
        have z3 : w2.heap.size < w4.heap.size := by omega
        have z4 : w3.heap.size < w4.heap.size := by omega
        clear hb4 hB4 l0 l1 l2 l3 l4 l5 hne3 hne4 hne5 hz4
        go_wp2_with fail
        refine wp_region_later (by kernel_rfl) (by kernel_rfl) ?_
        intro f' hf1 hf2 hfc
        repeat (go_big_quiet_step ((first | (go_at_call 24; exact calls_later hf1 hf2 (SpanOk_val _ _ _ _ Hx.out)) | (go_at_call 24; exact calls_later hf1 hf2 (SpanOk_val _ _ _ _ Hy.out)) | (go_at_call 25; exact calls_later hf1 hf2 (sSpanOk_val _ _ _ _ Hx.out)))))
        refine wpQuiet_nil ?_
        rintro _ ⟨v', rfl⟩
        have HB5 := Lib.hid (HB4.out.trans ((hf1.out v').mono hs4))
        clear hfc
        go_wp2
        go_ret
        exact ⟨rfl, HB5.out⟩
      · repeat (go_big_quiet_step ((first | (go_at_call 24; exact calls_later hf1 hf2 (SpanOk_val _ _ _ _ Hx.out)) | (go_at_call 24; exact calls_later hf1 hf2 (SpanOk_val _ _ _ _ Hy.out)) | (go_at_call 25; exact calls_later hf1 hf2 (sSpanOk_val _ _ _ _ Hx.out)))))
        refine wpQuiet_nil ?_
        rintro _ ⟨v, rfl⟩
        have hb4 := hf1.out v
        clear hfc hf1 hf2
        generalize f v = w4 at *
        simp only [World.size_alloc] at hb4
        have hz4 := hb4.size
        simp at hz4
        have m0 : w4.cell? ⟨w1.heap.size, 0, none⟩ = some (.int .i64 a) := cell_below hb4 (by omega) (cell_alloc_far l0)
        have m1 : w4.cell? ⟨w1.heap.size, 1, none⟩ = some (.int .i64 b) := cell_below hb4 (by omega) (cell_alloc_far l1)
        have m2 : w4.cell? ⟨w1.heap.size + 1, 0, none⟩ = some (.int .i64 c) := cell_below hb4 (by omega) (cell_alloc_far l2)
        have m3 : w4.cell? ⟨w1.heap.size + 1, 1, none⟩ = some (.int .i64 d) := cell_below hb4 (by omega) (cell_alloc_far l3)
        have m4 : w4.cell? ⟨w2.heap.size, 0, none⟩ = some (.int .i64 (gF a b c d)) := cell_below hb4 (by omega) (cell_alloc_far l4)
        have m5 : w4.cell? ⟨w2.heap.size, 1, none⟩ = some (.int .i64 (gT a b c d)) := cell_below hb4 (by omega) (cell_alloc_far l5)
        have m6 : w4.cell? ⟨w3.heap.size, 0, none⟩ = some (.int .i64 (gF a b c d)) := cell_below hb4 (by omega) (by simp)
        have m7 : w4.cell? ⟨w3.heap.size, 1, none⟩ = some (.int .i64 (gT a b c d)) := cell_below hb4 (by omega) (by simp)
        have hB4 : Below w.heap.size w w4 := (HB3.out.alloc hs3 _).trans (hb4.mono (by omega))
        have HB4 := Lib.hid hB4
        have hs4 := hB4.size
        have z1 : w1.heap.size < w4.heap.size := by omega
        have z2 : w1.heap.size + 1 < w4.heap.size := by omega
        have z3 : w2.heap.size < w4.heap.size := by omega
        have z4 : w3.heap.size < w4.heap.size := by omega
        clear hb4 hB4 l0 l1 l2 l3 l4 l5 hne3 hne4 hne5 hz4
        go_wp2_with fail
        refine (SpanMeet_any _ _ _ _ _).mono ?_
        rintro e w5 ⟨rfl, hb5⟩
        obtain ⟨y1, y2, y3⟩ := g_symm a b c d
        rw [y1, y2, y3]
        clear y1 y2 y3
        have hz5 := hb5.size
        have n0 := cell_below hb5 z1 m0
        have n1 := cell_below hb5 z1 m1
        have n2 := cell_below hb5 z2 m2
        have n3 := cell_below hb5 z2 m3
        have n4 := cell_below hb5 z3 m4
        have n5 := cell_below hb5 z3 m5
        have hB5 : Below w.heap.size w w5 := HB4.out.trans (hb5.mono hs4)
        have y1 : w1.heap.size < w5.heap.size := by omega
        have y2 : w1.heap.size + 1 < w5.heap.size := by omega
        have y3 : w2.heap.size < w5.heap.size := by omega
        clear m0 m1 m2 m3 m4 m5 m6 m7 z1 z2 z3 z4 hb5
        have hP := g_has Hx.out Hy.out
        generalize gB a b c d = gb at *
        generalize gF a b c d = sF at *
        generalize gT a b c d = sT at *
        have HP := Lib.hid hP
        clear hP
        have hB6 : Below w.heap.size w (w5.alloc (Obj.cells #[Value.int IntKind.i64 sF, Value.int IntKind.i64 sT] 24)) := hB5.alloc hB5.size _
        have o0 := cell_alloc_far (x := Obj.cells #[Value.int IntKind.i64 sF, Value.int IntKind.i64 sT] 24) n0
        have o1 := cell_alloc_far (x := Obj.cells #[Value.int IntKind.i64 sF, Value.int IntKind.i64 sT] 24) n1
        have o2 := cell_alloc_far (x := Obj.cells #[Value.int IntKind.i64 sF, Value.int IntKind.i64 sT] 24) n2
        have o3 := cell_alloc_far (x := Obj.cells #[Value.int IntKind.i64 sF, Value.int IntKind.i64 sT] 24) n3
        have o4 := cell_alloc_far (x := Obj.cells #[Value.int IntKind.i64 sF, Value.int IntKind.i64 sT] 24) n4
        have o5 := cell_alloc_far (x := Obj.cells #[Value.int IntKind.i64 sF, Value.int IntKind.i64 sT] 24) n5
        have o6 : (w5.alloc (Obj.cells #[Value.int IntKind.i64 sF, Value.int IntKind.i64 sT] 24)).cell? ⟨w5.heap.size, 0, none⟩ = some (.int .i64 sF) := by simp
        have o7 : (w5.alloc (Obj.cells #[Value.int IntKind.i64 sF, Value.int IntKind.i64 sT] 24)).cell? ⟨w5.heap.size, 1, none⟩ = some (.int .i64 sT) := by simp
        have z1 : w1.heap.size < (w5.alloc (Obj.cells #[Value.int IntKind.i64 sF, Value.int IntKind.i64 sT] 24)).heap.size := by simp; omega
        have z2 : w1.heap.size + 1 < (w5.alloc (Obj.cells #[Value.int IntKind.i64 sF, Value.int IntKind.i64 sT] 24)).heap.size := by simp; omega
        have z3 : w2.heap.size < (w5.alloc (Obj.cells #[Value.int IntKind.i64 sF, Value.int IntKind.i64 sT] 24)).heap.size := by simp; omega
        have z5 : w5.heap.size < (w5.alloc (Obj.cells #[Value.int IntKind.i64 sF, Value.int IntKind.i64 sT] 24)).heap.size := by simp
        clear n0 n1 n2 n3 n4 n5
        go_wp2
        generalize w5.alloc (Obj.cells #[Value.int IntKind.i64 sF, Value.int IntKind.i64 sT] 24) = w6 at *
        go_loopw [11] (fun i wr => ∃ k : Nat, k ≤ 100 ∧ i = .int .i64 k ∧ Below w6.heap.size w6 wr) (fun i _ => 100 - (intOf i).toNat)
        case atStart => exact ⟨0, Nat.zero_le _, rfl, Below.refl _ _⟩
        case round =>
          obtain ⟨k, hk, rfl, hbr⟩ := hrel
          have p0 := cell_below hbr z1 o0
          have p1 := cell_below hbr z1 o1
          have p2 := cell_below hbr z2 o2
          have p3 := cell_below hbr z2 o3
          have p4 := cell_below hbr z3 o4
          have p5 := cell_below hbr z3 o5
          have p6 := cell_below hbr z5 o6
          have p7 := cell_below hbr z5 o7
          have hzr := hbr.size
          have Hbr := Lib.hid hbr
          have hP := HP.out k
          clear hbr o0 o1 o2 o3 o4 o5 o6 o7
          by_cases hlt : k < 100
          · obtain ⟨t1, ht1⟩ : ∃ t, hasB a b k = t := ⟨_, rfl⟩
            obtain ⟨t2, ht2⟩ : ∃ t, hasB c d k = t := ⟨_, rfl⟩
            obtain ⟨t3, ht3⟩ : ∃ t, hasB sF sT k = t := ⟨_, rfl⟩
            rw [ht1, ht2, ht3] at hP
            have H1 := Lib.hid ht1
            have H2 := Lib.hid ht2
            have H3 := Lib.hid ht3
            have HPk := Lib.hid hP
            clear ht1 ht2 ht3 hP
            have r1 : w1.heap.size < wr.heap.size := by omega
            have r2 : w1.heap.size + 1 < wr.heap.size := by omega
            have r3 : w2.heap.size < wr.heap.size := by omega
            go_wp2_with fail
            refine (vaIn_one _ _ a b _ _ (by simp) (by simp)).mono ?_
            rintro e w7 ⟨rfl, rfl⟩
            rw [H1.out]
            cases gb
            · cases t1
              · go_wp2
                go_roundw
                case rel => exact ⟨k + 1, by omega, by go_num, by repeat (first | exact Hbr.out | refine Below.alloc ?_ (by first | omega | (simp; omega)) _)⟩
                case measure => simp [intOf]; omega
              · have e2 : t2 = false := by simpa using HPk.out
                subst e2
                go_wp2_with fail
                refine (vaIn_one _ _ c d _ _ (by simp) (by simp)).mono ?_
                rintro e w8 ⟨rfl, rfl⟩
                rw [H2.out]
                go_wp2
                go_roundw
                case rel => exact ⟨k + 1, by omega, by go_num, by repeat (first | exact Hbr.out | refine Below.alloc ?_ (by first | omega | (simp; omega)) _)⟩
                case measure => simp [intOf]; omega
            · cases t1
              · have e3 : t3 = false := by simpa using HPk.out.symm
                subst e3
                go_wp2_with fail
                refine (vaIn_one _ _ sF sT _ _ (by first | (simp; done) | (simp [go_sem]; done)) (by first | (simp; done) | (simp [go_sem]; done))).mono ?_
                rintro e w9 ⟨rfl, rfl⟩
                rw [H3.out]
                go_wp2
                go_roundw
                case rel => exact ⟨k + 1, by omega, by go_num, by repeat (first | exact Hbr.out | refine Below.alloc ?_ (by first | omega | (simp; omega)) _)⟩
                case measure => simp [intOf]; omega
              · have e3 : t3 = t2 := by simpa using HPk.out.symm
                subst e3
                go_wp2_with fail
                refine (vaIn_one _ _ c d _ _ (by simp) (by simp)).mono ?_
                rintro e w8 ⟨rfl, rfl⟩
                rw [H2.out]
                cases t3
                · go_wp2_with fail
                  refine (vaIn_one _ _ sF sT _ _ (by first | (simp; done) | (simp [go_sem]; done)) (by first | (simp; done) | (simp [go_sem]; done))).mono ?_
                  rintro e w9 ⟨rfl, rfl⟩
                  rw [H3.out]
                  go_wp2
                  go_roundw
                  case rel => exact ⟨k + 1, by omega, by go_num, by repeat (first | exact Hbr.out | refine Below.alloc ?_ (by first | omega | (simp; omega)) _)⟩
                  case measure => simp [intOf]; omega
                · go_wp2_with fail
                  refine (vaIn_one _ _ sF sT _ _ (by first | (simp; done) | (simp [go_sem]; done)) (by first | (simp; done) | (simp [go_sem]; done))).mono ?_
                  rintro e w9 ⟨rfl, rfl⟩
                  rw [H3.out]
                  go_wp2
                  go_roundw
                  case rel => exact ⟨k + 1, by omega, by go_num, by repeat (first | exact Hbr.out | refine Below.alloc ?_ (by first | omega | (simp; omega)) _)⟩
                  case measure => simp [intOf]; omega
          · have HB := Lib.hid (hB6.trans (Hbr.out.mono hB6.size))
            cases gb
            · go_wp2
              go_ret
              exact ⟨rfl, HB.out⟩
            · go_wp2
              go_ret
              exact ⟨rfl, HB.out⟩
end Go.Proofs.Ytlbehkdhngeipaa
