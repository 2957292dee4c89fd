/-
  Walks: the model's l1Less: what is left of a span.
-/
import Derived.Test.YtphinkcfmdnpfaaSets
import Derived.Test.YtphinkcfmdnpfaaAddL
import Derived.Test.YtphinkcfmdnpfaaRd
import Derived.OwnWalk
namespace Go.Proofs.Ytphinkcfmdnpfaa
open Go.RowKit

theorem owns_keepK {w w' : World} {base n : Nat} {v : Value} {xs : List Value} (h : w.ownsRow base 29 2 v n xs) (hb : Below w.heap.size w w') : w'.ownsRow base 29 2 v n xs :=
  h.kept ⟨hb.os, hb.tape, hb.output, hb.size, fun k hk _ => hb.block k hk⟩ (by by_cases e : v.ownBlock = none; exact .inl e; exact .inr (by rintro e'; exact e e'))

theorem owns_baseK {w : World} {base base' n : Nat} {v : Value} {xs : List Value} {e : TypeId} {size : Nat} (h : w.ownsRow base e size v n xs) (hb : base' ≤ base) : w.ownsRow base' e size v n xs := by
  refine ⟨h.1, ?_⟩
  rcases h.2 with h1 | ⟨g, c, cur, h1, h2, h3⟩
  · exact .inl h1
  · exact .inr ⟨g, c, cur, h1, by omega, h3⟩
theorem owns_formK {w : World} {base n : Nat} {v : Value} {xs : List Value} {e : TypeId} {size : Nat} (h : w.ownsRow base e size v n xs) (hv : v ≠ .slice none 0 0) : ∃ g c, v = .slice (some ⟨g, 0, none⟩) n c ∧ base ≤ g ∧ g < w.heap.size := by
  rcases h.2 with ⟨h1, _⟩ | ⟨g, c, cur, h1, h2, h3, _⟩
  · exact absurd h1 hv
  · exact ⟨g, c, h1, h2, by
      rcases Nat.lt_or_ge g w.heap.size with hlt | hge
      · exact hlt
      · rw [Array.getElem?_eq_none hge] at h3; cases h3⟩

/-- Between two rounds of the first loop. -/

def lessOne (x y : Int × Int) : List (Int × Int) :=
  if mB x.1 x.2 y.1 y.2 then (if x.1 < y.1 then [(x.1, y.1)] else []) ++ (if y.2 < x.2 then [(y.2, x.2)] else []) else [x]

set_option maxRecDepth 100000 in
set_option maxHeartbeats 1000000 in
theorem l1Less_any (a b c d : Int) (w : World) :
    Calls Try.prog 124 #[.agg #[.int .i64 a, .int .i64 b], .agg #[.int .i64 c, .int .i64 d]] w (Made w (lessOne (a, b) (c, d))) := by
  obtain ⟨i0, hi, hz0, hz1, hz2⟩ := info_parts Try.info29
  have Hi := Lib.hid hi
  have Hz0 := Lib.hid hz0
  have Hz1 := Lib.hid hz1
  have Hz2 := Lib.hid hz2
  clear hi hz0 hz1 hz2
  go_enter Try.func124, Try.ntmps124
  go_wp2_with fail
  have hb0 : Below w.heap.size w (((w.alloc (Obj.cells #[Value.int IntKind.i64 a, Value.int IntKind.i64 b] 29)).alloc (Obj.cells #[Value.int IntKind.i64 c, Value.int IntKind.i64 d] 29)).alloc (Obj.cells #[] 29)) :=
    (((Below.refl _ _).alloc (Nat.le_refl _) _).alloc (by simp) _).alloc (by simp; omega) _
  refine (l1Meet_any _ _ _ _ _).mono ?_
  rintro e w1 ⟨rfl, hb1⟩
  have ho : ((((w.alloc (Obj.cells #[Value.int IntKind.i64 a, Value.int IntKind.i64 b] 29)).alloc (Obj.cells #[Value.int IntKind.i64 c, Value.int IntKind.i64 d] 29)).alloc (Obj.cells #[] 29))).ownsRow (w.heap.size + 2) 29 2 (.slice (some ⟨w.heap.size + 1 + 1, 0, none⟩) 0 0) 0 [] := by
    have := World.ownsRow_lit (base := w.heap.size + 2) (e := 29) (size := 2) ((w.alloc (Obj.cells #[Value.int IntKind.i64 a, Value.int IntKind.i64 b] 29)).alloc (Obj.cells #[Value.int IntKind.i64 c, Value.int IntKind.i64 d] 29)) #[] 0 (by simp) (by simp [maxLen]) (by simp)
    simpa using this
  have O1 := Lib.hid (show w1.ownsRow (w.heap.size + 2) 29 2 (.slice (some ⟨w.heap.size + 1 + 1, 0, none⟩) 0 0) ([] : List (Int × Int)).length (flat []) from owns_keepK ho hb1)
  have q0 : (((w.alloc (Obj.cells #[Value.int IntKind.i64 a, Value.int IntKind.i64 b] 29)).alloc (Obj.cells #[Value.int IntKind.i64 c, Value.int IntKind.i64 d] 29)).alloc (Obj.cells #[] 29)).cell? ⟨w.heap.size, 0, none⟩ = some (.int .i64 a) := by first | (simp; done) | (go_simp; done) | (simp [go_sem]; done) | (simp [World.cell?, World.alloc]; done)
  have k0 := cell_alloc_far (x := Obj.cells #[.int .i64 (max a c), .int .i64 (min b d)] 29) ((hb1.cell (p := ⟨w.heap.size, 0, none⟩) (by simp; try omega)).trans q0)
  have q1 : (((w.alloc (Obj.cells #[Value.int IntKind.i64 a, Value.int IntKind.i64 b] 29)).alloc (Obj.cells #[Value.int IntKind.i64 c, Value.int IntKind.i64 d] 29)).alloc (Obj.cells #[] 29)).cell? ⟨w.heap.size, 1, none⟩ = some (.int .i64 b) := by first | (simp; done) | (go_simp; done) | (simp [go_sem]; done) | (simp [World.cell?, World.alloc]; done)
  have k1 := cell_alloc_far (x := Obj.cells #[.int .i64 (max a c), .int .i64 (min b d)] 29) ((hb1.cell (p := ⟨w.heap.size, 1, none⟩) (by simp; try omega)).trans q1)
  have q2 : (((w.alloc (Obj.cells #[Value.int IntKind.i64 a, Value.int IntKind.i64 b] 29)).alloc (Obj.cells #[Value.int IntKind.i64 c, Value.int IntKind.i64 d] 29)).alloc (Obj.cells #[] 29)).cell? ⟨w.heap.size + 1, 0, none⟩ = some (.int .i64 c) := by first | (simp; done) | (go_simp; done) | (simp [go_sem]; done) | (simp [World.cell?, World.alloc]; done)
  have k2 := cell_alloc_far (x := Obj.cells #[.int .i64 (max a c), .int .i64 (min b d)] 29) ((hb1.cell (p := ⟨w.heap.size + 1, 0, none⟩) (by simp; try omega)).trans q2)
  have q3 : (((w.alloc (Obj.cells #[Value.int IntKind.i64 a, Value.int IntKind.i64 b] 29)).alloc (Obj.cells #[Value.int IntKind.i64 c, Value.int IntKind.i64 d] 29)).alloc (Obj.cells #[] 29)).cell? ⟨w.heap.size + 1, 1, none⟩ = some (.int .i64 d) := by first | (simp; done) | (go_simp; done) | (simp [go_sem]; done) | (simp [World.cell?, World.alloc]; done)
  have k3 := cell_alloc_far (x := Obj.cells #[.int .i64 (max a c), .int .i64 (min b d)] 29) ((hb1.cell (p := ⟨w.heap.size + 1, 1, none⟩) (by simp; try omega)).trans q3)
  have hB1 : Below w.heap.size w (w1.alloc (Obj.cells #[.int .i64 (max a c), .int .i64 (min b d)] 29)) := (hb0.trans (hb1.mono hb0.size)).alloc (by have := hb1.size; simp at this; omega) _
  have hs1 : w.heap.size + 2 < w1.heap.size := by have := hb1.size; simp at this; omega
  have P1 := Lib.hid (O1.out.alloc (Obj.cells #[.int .i64 (max a c), .int .i64 (min b d)] 29))
  clear ho hb0 hb1 q0 q1 q2 q3 O1
  cases hm : mB a b c d
  · have hL : lessOne (a, b) (c, d) = [(a, b)] := by simp [lessOne, hm]
    have HL := Lib.hid hL
    clear hL hm
    go_wp2_with (at_builtin; refine wpList_append_own _ rfl _ _ 33 rfl (w.heap.size + 2) 29 i0 _ 2 16 Try.underlying33 Hi.out Hz0.out Hz1.out Hz2.out rfl (by decide) _ 0 (flat []) rfl (P1.out.alloc _) ⟨w1.heap.size + 1, 0, none⟩ 1 1 [.int .i64 a, .int .i64 b] rfl rfl (news_two (by simp) (by simp)) (by simp [Value.oneCell']) (by unfold maxLen; omega) (by omega) (by simp; omega) ?_; intro v' w2 hown' hgrow hnil; obtain ⟨g2, c2, rfl, hg2a, hg2b⟩ := owns_formK hown' (fun h => by have := (hnil.1 h).2; omega); have hB2 : Below w.heap.size w w2 := (hB1.alloc (by simp; omega) _).grown hgrow (by simp; omega) (fun i e => by have e' : w.heap.size + 1 + 1 = i := (by simpa [Value.ownBlock, go_sem] using e); omega); have Q2 := Lib.hid (owns_baseK (owns_snoc (o := []) hown' rfl) (show w.heap.size ≤ w.heap.size + 2 by omega)); clear hown' hgrow hnil)
    go_ret
    rw [HL.out]
    exact ⟨g2, c2, rfl, Q2.out, hB2⟩
  · by_cases h1 : a < c
    · have d1 : decide (a < c) = true := by simpa using h1
      by_cases h2 : d < b
      · have d2 : decide (d < b) = true := by simpa using h2
        have HL := Lib.hid (show lessOne (a, b) (c, d) = [(a, c), (d, b)] from by simp [lessOne, hm, h1, h2])
        clear hm h1 h2
        go_wp2_with (first | (at_builtin; refine wpList_append_own _ rfl _ _ 33 rfl (w.heap.size + 2) 29 i0 _ 2 16 Try.underlying33 Hi.out Hz0.out Hz1.out Hz2.out rfl (by decide) _ 0 (flat []) rfl (P1.out.alloc _) ⟨w1.heap.size + 1, 0, none⟩ 1 1 [.int .i64 a, .int .i64 c] rfl rfl (news_two (by simp) (by simp)) (by simp [Value.oneCell']) (by unfold maxLen; omega) (by omega) (by simp; omega) ?_; intro v' w2 hown' hgrow hnil; obtain ⟨g2, c2, rfl, hg2a, hg2b⟩ := owns_formK hown' (fun h => by have := (hnil.1 h).2; omega); have hB2 : Below w.heap.size w w2 := (hB1.alloc (by simp; omega) _).grown hgrow (by simp; omega) (fun i e => by have e' : w.heap.size + 1 + 1 = i := (by simpa [Value.ownBlock, go_sem] using e); omega); have Q2 := Lib.hid (owns_snoc (o := []) hown' rfl); have m1 := grown_cell (r := w.heap.size + 1 + 1) hgrow (by omega) (cell_alloc_far k1); have m3 := grown_cell (r := w.heap.size + 1 + 1) hgrow (by omega) (cell_alloc_far k3); clear hown' hgrow hnil P1 k0 k1 k2 k3 hB1) | (at_builtin; refine wpList_append_own _ rfl _ _ 33 rfl (w.heap.size + 2) 29 i0 _ 2 16 Try.underlying33 Hi.out Hz0.out Hz1.out Hz2.out rfl (by decide) _ 1 (flat [(a, c)]) rfl (Q2.out.alloc _) ⟨w2.heap.size, 0, none⟩ 1 1 [.int .i64 d, .int .i64 b] rfl rfl (news_two (by simp) (by simp)) (by simp [Value.oneCell']) (by unfold maxLen; omega) (by omega) (by have := hB2.size; simp; omega) ?_; intro v' w3 hown3 hgrow3 hnil3; obtain ⟨g3, c3, rfl, hg3a, hg3b⟩ := owns_formK hown3 (fun h => by have := (hnil3.1 h).2; omega); have hB3 : Below w.heap.size w w3 := (hB2.alloc hB2.size _).grown hgrow3 (by have := hB2.size; simp; omega) (fun i e => by have e' : g2 = i := (by simpa [Value.ownBlock, go_sem] using e); omega); have Q3 := Lib.hid (owns_snoc (o := [(a, c)]) hown3 rfl); clear hown3 hgrow3 hnil3 m1 m3 hB2))
        go_ret
        rw [HL.out]
        exact ⟨g3, c3, rfl, owns_baseK Q3.out (by omega), hB3⟩
      · have d2 : decide (d < b) = false := decide_eq_false h2
        have HL := Lib.hid (show lessOne (a, b) (c, d) = [(a, c)] from by simp [lessOne, hm, h1, h2])
        clear hm h1 h2
        go_wp2_with (at_builtin; refine wpList_append_own _ rfl _ _ 33 rfl (w.heap.size + 2) 29 i0 _ 2 16 Try.underlying33 Hi.out Hz0.out Hz1.out Hz2.out rfl (by decide) _ 0 (flat []) rfl (P1.out.alloc _) ⟨w1.heap.size + 1, 0, none⟩ 1 1 [.int .i64 a, .int .i64 c] rfl rfl (news_two (by simp) (by simp)) (by simp [Value.oneCell']) (by unfold maxLen; omega) (by omega) (by simp; omega) ?_; intro v' w2 hown' hgrow hnil; obtain ⟨g2, c2, rfl, hg2a, hg2b⟩ := owns_formK hown' (fun h => by have := (hnil.1 h).2; omega); have hB2 : Below w.heap.size w w2 := (hB1.alloc (by simp; omega) _).grown hgrow (by simp; omega) (fun i e => by have e' : w.heap.size + 1 + 1 = i := (by simpa [Value.ownBlock, go_sem] using e); omega); have Q2 := Lib.hid (owns_snoc (o := []) hown' rfl); have m1 := grown_cell (r := w.heap.size + 1 + 1) hgrow (by omega) (cell_alloc_far k1); have m3 := grown_cell (r := w.heap.size + 1 + 1) hgrow (by omega) (cell_alloc_far k3); clear hown' hgrow hnil P1 k0 k1 k2 k3 hB1)
        go_ret
        rw [HL.out]
        exact ⟨g2, c2, rfl, owns_baseK Q2.out (by omega), hB2⟩
    · have d1 : decide (a < c) = false := decide_eq_false h1
      by_cases h2 : d < b
      · have d2 : decide (d < b) = true := by simpa using h2
        have HL := Lib.hid (show lessOne (a, b) (c, d) = [(d, b)] from by simp [lessOne, hm, h1, h2])
        clear hm h1 h2
        go_wp2_with (at_builtin; refine wpList_append_own _ rfl _ _ 33 rfl (w.heap.size + 2) 29 i0 _ 2 16 Try.underlying33 Hi.out Hz0.out Hz1.out Hz2.out rfl (by decide) _ 0 (flat []) rfl (P1.out.alloc _) ⟨w1.heap.size + 1, 0, none⟩ 1 1 [.int .i64 d, .int .i64 b] rfl rfl (news_two (by simp) (by simp)) (by simp [Value.oneCell']) (by unfold maxLen; omega) (by omega) (by simp; omega) ?_; intro v' w2 hown' hgrow hnil; obtain ⟨g2, c2, rfl, hg2a, hg2b⟩ := owns_formK hown' (fun h => by have := (hnil.1 h).2; omega); have hB2 : Below w.heap.size w w2 := (hB1.alloc (by simp; omega) _).grown hgrow (by simp; omega) (fun i e => by have e' : w.heap.size + 1 + 1 = i := (by simpa [Value.ownBlock, go_sem] using e); omega); have Q2 := Lib.hid (owns_snoc (o := []) hown' rfl); clear hown' hgrow hnil P1 k0 k1 k2 k3 hB1)
        go_ret
        rw [HL.out]
        exact ⟨g2, c2, rfl, owns_baseK Q2.out (by omega), hB2⟩
      · have d2 : decide (d < b) = false := decide_eq_false h2
        have HL := Lib.hid (show lessOne (a, b) (c, d) = [] from by simp [lessOne, hm, h1, h2])
        clear hm h1 h2
        go_wp2
        go_ret
        rw [HL.out]
        exact ⟨w.heap.size + 1 + 1, 0, rfl, owns_baseK P1.out (by omega), hB1⟩
end Go.Proofs.Ytphinkcfmdnpfaa
