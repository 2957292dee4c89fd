/-
  Walks: the model's l1Less: what is left of a span.
-/
import Derived.Test.YtkalanjgjeijbaaMeet
import Derived.Deep.RegionWith
import Derived.Deep.QuietTactic
import Derived.BigQuiet
import Derived.Test.YtkalanjgjeijbaaDrawB
import Derived.OwnWalk
namespace Go.Proofs.Ytkalanjgjeijbaa
open Go.RowKit

def okAt (zs : List (Int × Int)) (k : Nat) : Bool := okB (zs.getD k (0, 0)).1 (zs.getD k (0, 0)).2 && (k == 0 || decide ((zs.getD (k - 1) (0, 0)).2 < (zs.getD k (0, 0)).1))
def setOk (zs : List (Int × Int)) : Bool := (List.range zs.length).all (okAt zs)

theorem setOk_no {zs : List (Int × Int)} {k : Nat} (hk : k < zs.length) (h : okAt zs k = false) : false = setOk zs := by
  rw [eq_comm, setOk, List.all_eq_false]
  exact ⟨k, by simpa using hk, by simp [h]⟩
theorem setOk_yes {zs : List (Int × Int)} (h : ∀ j, j < zs.length → okAt zs j = true) : true = setOk zs := by
  rw [eq_comm, setOk, List.all_eq_true]
  intro k hk
  exact h k (by simpa using hk)

theorem ok_val (a b : Int) (w : World) (v : Bool) (h : okB a b = v) :
    Calls Try.prog 71 #[.agg #[.int .i64 a, .int .i64 b]] w fun e w' => e = .returned (.bool v) ∧ Below w.heap.size w w' := by
  subst h; exact ok_any a b w

theorem l1Ok_val (a b : Int) (w : World) (v : Bool) (h : okB a b = v) :
    Calls Try.prog 67 #[.agg #[.int .i64 a, .int .i64 b]] w fun e w' => e = .returned (.bool v) ∧ Below w.heap.size w w' := by
  subst h; exact l1Ok_any a b w

theorem Try.info55 : (Try.prog.info? 55).map (fun i => (i.zero, i.size, i.bytes)) = some (some (.agg #[.int .i64 0, .int .i64 0]), 2, 16) := by kernel_rfl

def Made (w : World) (zs : List (Int × Int)) (e : Ending) (w' : World) : Prop :=
  ∃ g cap, e = .returned (.slice (some ⟨g, 0, none⟩) zs.length cap) ∧ w'.ownsRow w.heap.size 55 2 (.slice (some ⟨g, 0, none⟩) zs.length cap) zs.length (flat zs) ∧ Below w.heap.size w w'

end Go.Proofs.Ytkalanjgjeijbaa
namespace Go.Proofs.Ytkalanjgjeijbaa
open Go.RowKit

/-- What the first loop has gathered behind k rounds: the spans that end ahead of the span, and the span, grown. -/
def scan (zs : List (Int × Int)) (s : Int × Int) : Nat → List (Int × Int) × Int × Int
  | 0 => ([], s.1, s.2)
  | k + 1 =>
    if (zs.getD k (0, 0)).2 < (scan zs s k).2.1 then ((scan zs s k).1 ++ [((zs.getD k (0, 0)).1, (zs.getD k (0, 0)).2)], (scan zs s k).2.1, (scan zs s k).2.2)
    else if (zs.getD k (0, 0)).1 ≤ (scan zs s k).2.2 then
      ((scan zs s k).1, (if (zs.getD k (0, 0)).1 < (scan zs s k).2.1 then (zs.getD k (0, 0)).1 else (scan zs s k).2.1), (if (scan zs s k).2.2 < (zs.getD k (0, 0)).2 then (zs.getD k (0, 0)).2 else (scan zs s k).2.2))
    else scan zs s k

theorem scan_app {zs : List (Int × Int)} {s : Int × Int} {k : Nat} {o : List (Int × Int)} {x y f t : Int} (h : scan zs s k = (o, x, y)) (hf : (zs.getD k (0, 0)).1 = f) (ht : (zs.getD k (0, 0)).2 = t) (h1 : t < x) :
    scan zs s (k + 1) = (o ++ [(f, t)], x, y) := by rw [scan, h, hf, ht]; simp [h1]
theorem scan_skip {zs : List (Int × Int)} {s : Int × Int} {k : Nat} {o : List (Int × Int)} {x y f t : Int} (h : scan zs s k = (o, x, y)) (hf : (zs.getD k (0, 0)).1 = f) (ht : (zs.getD k (0, 0)).2 = t) (h1 : ¬ t < x) (h2 : ¬ f ≤ y) :
    scan zs s (k + 1) = (o, x, y) := by rw [scan, h, hf, ht]; simp [h1, h2]
theorem scan_grow {zs : List (Int × Int)} {s : Int × Int} {k : Nat} {o : List (Int × Int)} {x y f t x' y' : Int} (h : scan zs s k = (o, x, y)) (hf : (zs.getD k (0, 0)).1 = f) (ht : (zs.getD k (0, 0)).2 = t) (h1 : ¬ t < x) (h2 : f ≤ y)
    (hx : (if f < x then f else x) = x') (hy : (if y < t then t else y) = y') : scan zs s (k + 1) = (o, x', y') := by rw [scan, h, hf, ht]; simp [h1, h2, hx, hy]
theorem scan_len (zs : List (Int × Int)) (s : Int × Int) : ∀ k, (scan zs s k).1.length ≤ k
  | 0 => by simp [scan]
  | k + 1 => by
    have := scan_len zs s k
    rw [scan]
    split
    · simp; omega
    · split <;> (simp; omega)

/-- What the second loop has gathered behind k rounds. -/
def tailTo (zs : List (Int × Int)) (y : Int) : Nat → List (Int × Int)
  | 0 => []
  | k + 1 => if y < (zs.getD k (0, 0)).1 then tailTo zs y k ++ [((zs.getD k (0, 0)).1, (zs.getD k (0, 0)).2)] else tailTo zs y k
theorem tail_app {zs : List (Int × Int)} {y f t : Int} {k : Nat} (hf : (zs.getD k (0, 0)).1 = f) (ht : (zs.getD k (0, 0)).2 = t) (h : y < f) : tailTo zs y (k + 1) = tailTo zs y k ++ [(f, t)] := by
  rw [tailTo, hf, ht, if_pos h]
theorem tail_skip {zs : List (Int × Int)} {y f : Int} {k : Nat} (hf : (zs.getD k (0, 0)).1 = f) (h : ¬ y < f) : tailTo zs y (k + 1) = tailTo zs y k := by
  rw [tailTo, hf, if_neg h]
theorem tail_len (zs : List (Int × Int)) (y : Int) : ∀ k, (tailTo zs y k).length ≤ k
  | 0 => by simp [tailTo]
  | k + 1 => by
    have := tail_len zs y k
    rw [tailTo]
    split <;> (simp; omega)

/-- The list with the span put in. -/
def addL (zs : List (Int × Int)) (s : Int × Int) : List (Int × Int) :=
  (scan zs s zs.length).1 ++ [((scan zs s zs.length).2.1, (scan zs s zs.length).2.2)] ++ tailTo zs (scan zs s zs.length).2.2 zs.length
theorem addL_eq {zs : List (Int × Int)} {s : Int × Int} {o : List (Int × Int)} {x y : Int} (h : scan zs s zs.length = (o, x, y)) : o ++ [(x, y)] ++ tailTo zs y zs.length = addL zs s := by
  rw [addL, h]
theorem addL_len (zs : List (Int × Int)) (s : Int × Int) : (addL zs s).length ≤ 2 * zs.length + 1 := by
  have h1 := scan_len zs s zs.length
  have h2 := tail_len zs (scan zs s zs.length).2.2 zs.length
  simp [addL]
  omega

theorem flat_one_eq (f t : Int) : flat [(f, t)] = [.int .i64 f, .int .i64 t] := rfl
theorem owns_snoc {w : World} {base n : Nat} {v : Value} {o : List (Int × Int)} {f t : Int} (h : w.ownsRow base 55 2 v n (flat o ++ [.int .i64 f, .int .i64 t])) (hn : n = o.length + 1) :
    w.ownsRow base 55 2 v (o ++ [(f, t)]).length (flat (o ++ [(f, t)])) := by
  subst hn
  rw [flat_append, flat_one_eq]
  simpa using h
theorem news_two {w : World} {g : Nat} {f t : Value} (h0 : w.cell? ⟨g, 0, none⟩ = some f) (h1 : w.cell? ⟨g, 1, none⟩ = some t) : ∀ j u, [f, t][j]? = some u → w.cell? ((⟨g, 0, none⟩ : Addr).add j) = some u := by
  intro j u hj
  match j, hj with
  | 0, hj => simp at hj; subst hj; simpa [Addr.add] using h0
  | 1, hj => simp at hj; subst hj; simpa [Addr.add] using h1
end Go.Proofs.Ytkalanjgjeijbaa
namespace Go.Proofs.Ytkalanjgjeijbaa
open Go.RowKit

theorem owns_keepK {w w' : World} {base n : Nat} {v : Value} {xs : List Value} (h : w.ownsRow base 55 2 v n xs) (hb : Below w.heap.size w w') : w'.ownsRow base 55 2 v n xs :=
  h.kept ⟨hb.os, hb.tape, hb.output, hb.size, fun k hk _ => hb.block k hk⟩ (by by_cases e : v.ownBlock = none; exact .inl e; exact .inr (by rintro e'; exact e e'))

theorem owns_baseK {w : World} {base base' n : Nat} {v : Value} {xs : List Value} {e : TypeId} {size : Nat} (h : w.ownsRow base e size v n xs) (hb : base' ≤ base) : w.ownsRow base' e size v n xs := by
  refine ⟨h.1, ?_⟩
  rcases h.2 with h1 | ⟨g, c, cur, h1, h2, h3⟩
  · exact .inl h1
  · exact .inr ⟨g, c, cur, h1, by omega, h3⟩
theorem owns_formK {w : World} {base n : Nat} {v : Value} {xs : List Value} {e : TypeId} {size : Nat} (h : w.ownsRow base e size v n xs) (hv : v ≠ .slice none 0 0) : ∃ g c, v = .slice (some ⟨g, 0, none⟩) n c ∧ base ≤ g ∧ g < w.heap.size := by
  rcases h.2 with ⟨h1, _⟩ | ⟨g, c, cur, h1, h2, h3, _⟩
  · exact absurd h1 hv
  · exact ⟨g, c, h1, h2, by
      rcases Nat.lt_or_ge g w.heap.size with hlt | hge
      · exact hlt
      · rw [Array.getElem?_eq_none hge] at h3; cases h3⟩

/-- Between two rounds of the first loop. -/

def lessOne (x y : Int × Int) : List (Int × Int) :=
  if mB x.1 x.2 y.1 y.2 then (if x.1 < y.1 then [(x.1, y.1)] else []) ++ (if y.2 < x.2 then [(y.2, x.2)] else []) else [x]

set_option maxRecDepth 100000 in
set_option maxHeartbeats 1000000 in
theorem l1Less_any (a b c d : Int) (w : World) :
    Calls Try.prog 91 #[.agg #[.int .i64 a, .int .i64 b], .agg #[.int .i64 c, .int .i64 d]] w (Made w (lessOne (a, b) (c, d))) := by
  obtain ⟨i0, hi, hz0, hz1, hz2⟩ := info_parts Try.info55
  have Hi := Lib.hid hi
  have Hz0 := Lib.hid hz0
  have Hz1 := Lib.hid hz1
  have Hz2 := Lib.hid hz2
  clear hi hz0 hz1 hz2
  go_enter Try.func91, Try.ntmps91
  go_wp2_with fail
  have hb0 : Below w.heap.size w (((w.alloc (Obj.cells #[Value.int IntKind.i64 a, Value.int IntKind.i64 b] 55)).alloc (Obj.cells #[Value.int IntKind.i64 c, Value.int IntKind.i64 d] 55)).alloc (Obj.cells #[] 55)) :=
    (((Below.refl _ _).alloc (Nat.le_refl _) _).alloc (by simp) _).alloc (by simp; omega) _
  refine (l1Meet_any _ _ _ _ _).mono ?_
  rintro e w1 ⟨rfl, hb1⟩
  have ho : ((((w.alloc (Obj.cells #[Value.int IntKind.i64 a, Value.int IntKind.i64 b] 55)).alloc (Obj.cells #[Value.int IntKind.i64 c, Value.int IntKind.i64 d] 55)).alloc (Obj.cells #[] 55))).ownsRow (w.heap.size + 2) 55 2 (.slice (some ⟨w.heap.size + 1 + 1, 0, none⟩) 0 0) 0 [] := by
    have := World.ownsRow_lit (base := w.heap.size + 2) (e := 55) (size := 2) ((w.alloc (Obj.cells #[Value.int IntKind.i64 a, Value.int IntKind.i64 b] 55)).alloc (Obj.cells #[Value.int IntKind.i64 c, Value.int IntKind.i64 d] 55)) #[] 0 (by simp) (by simp [maxLen]) (by simp)
    simpa using this
  have O1 := Lib.hid (show w1.ownsRow (w.heap.size + 2) 55 2 (.slice (some ⟨w.heap.size + 1 + 1, 0, none⟩) 0 0) ([] : List (Int × Int)).length (flat []) from owns_keepK ho hb1)
  have q0 : (((w.alloc (Obj.cells #[Value.int IntKind.i64 a, Value.int IntKind.i64 b] 55)).alloc (Obj.cells #[Value.int IntKind.i64 c, Value.int IntKind.i64 d] 55)).alloc (Obj.cells #[] 55)).cell? ⟨w.heap.size, 0, none⟩ = some (.int .i64 a) := by first | (simp; done) | (go_simp; done) | (simp [go_sem]; done) | (simp [World.cell?, World.alloc]; done)
  have k0 := cell_alloc_far (x := Obj.cells #[.int .i64 (max a c), .int .i64 (min b d)] 55) ((hb1.cell (p := ⟨w.heap.size, 0, none⟩) (by simp; try omega)).trans q0)
  have q1 : (((w.alloc (Obj.cells #[Value.int IntKind.i64 a, Value.int IntKind.i64 b] 55)).alloc (Obj.cells #[Value.int IntKind.i64 c, Value.int IntKind.i64 d] 55)).alloc (Obj.cells #[] 55)).cell? ⟨w.heap.size, 1, none⟩ = some (.int .i64 b) := by first | (simp; done) | (go_simp; done) | (simp [go_sem]; done) | (simp [World.cell?, World.alloc]; done)
  have k1 := cell_alloc_far (x := Obj.cells #[.int .i64 (max a c), .int .i64 (min b d)] 55) ((hb1.cell (p := ⟨w.heap.size, 1, none⟩) (by simp; try omega)).trans q1)
  have q2 : (((w.alloc (Obj.cells #[Value.int IntKind.i64 a, Value.int IntKind.i64 b] 55)).alloc (Obj.cells #[Value.int IntKind.i64 c, Value.int IntKind.i64 d] 55)).alloc (Obj.cells #[] 55)).cell? ⟨w.heap.size + 1, 0, none⟩ = some (.int .i64 c) := by first | (simp; done) | (go_simp; done) | (simp [go_sem]; done) | (simp [World.cell?, World.alloc]; done)
  have k2 := cell_alloc_far (x := Obj.cells #[.int .i64 (max a c), .int .i64 (min b d)] 55) ((hb1.cell (p := ⟨w.heap.size + 1, 0, none⟩) (by simp; try omega)).trans q2)
  have q3 : (((w.alloc (Obj.cells #[Value.int IntKind.i64 a, Value.int IntKind.i64 b] 55)).alloc (Obj.cells #[Value.int IntKind.i64 c, Value.int IntKind.i64 d] 55)).alloc (Obj.cells #[] 55)).cell? ⟨w.heap.size + 1, 1, none⟩ = some (.int .i64 d) := by first | (simp; done) | (go_simp; done) | (simp [go_sem]; done) | (simp [World.cell?, World.alloc]; done)
  have k3 := cell_alloc_far (x := Obj.cells #[.int .i64 (max a c), .int .i64 (min b d)] 55) ((hb1.cell (p := ⟨w.heap.size + 1, 1, none⟩) (by simp; try omega)).trans q3)
  have hB1 : Below w.heap.size w (w1.alloc (Obj.cells #[.int .i64 (max a c), .int .i64 (min b d)] 55)) := (hb0.trans (hb1.mono hb0.size)).alloc (by have := hb1.size; simp at this; omega) _
  have hs1 : w.heap.size + 2 < w1.heap.size := by have := hb1.size; simp at this; omega
  have P1 := Lib.hid (O1.out.alloc (Obj.cells #[.int .i64 (max a c), .int .i64 (min b d)] 55))
  clear ho hb0 hb1 q0 q1 q2 q3 O1
  cases hm : mB a b c d
  · have hL : lessOne (a, b) (c, d) = [(a, b)] := by simp [lessOne, hm]
    have HL := Lib.hid hL
    clear hL hm
    go_wp2_with (at_builtin; refine wpList_append_own _ rfl _ _ 121 rfl (w.heap.size + 2) 55 i0 _ 2 16 Try.underlying121 Hi.out Hz0.out Hz1.out Hz2.out rfl (by decide) _ 0 (flat []) rfl (P1.out.alloc _) ⟨w1.heap.size + 1, 0, none⟩ 1 1 [.int .i64 a, .int .i64 b] rfl rfl (news_two (by simp) (by simp)) (by simp [Value.oneCell']) (by unfold maxLen; omega) (by omega) (by simp; omega) ?_; intro v' w2 hown' hgrow hnil; obtain ⟨g2, c2, rfl, hg2a, hg2b⟩ := owns_formK hown' (fun h => by have := (hnil.1 h).2; omega); have hB2 : Below w.heap.size w w2 := (hB1.alloc (by simp; omega) _).grown hgrow (by simp; omega) (fun i e => by have e' : w.heap.size + 1 + 1 = i := (by simpa [Value.ownBlock, go_sem] using e); omega); have Q2 := Lib.hid (owns_baseK (owns_snoc (o := []) hown' rfl) (show w.heap.size ≤ w.heap.size + 2 by omega)); clear hown' hgrow hnil)
    go_ret
    rw [HL.out]
    exact ⟨g2, c2, rfl, Q2.out, hB2⟩
  · by_cases h1 : a < c
    · have d1 : decide (a < c) = true := by simpa using h1
      by_cases h2 : d < b
      · have d2 : decide (d < b) = true := by simpa using h2
        have HL := Lib.hid (show lessOne (a, b) (c, d) = [(a, c), (d, b)] from by simp [lessOne, hm, h1, h2])
        clear hm h1 h2
        go_wp2_with (first | (at_builtin; refine wpList_append_own _ rfl _ _ 121 rfl (w.heap.size + 2) 55 i0 _ 2 16 Try.underlying121 Hi.out Hz0.out Hz1.out Hz2.out rfl (by decide) _ 0 (flat []) rfl (P1.out.alloc _) ⟨w1.heap.size + 1, 0, none⟩ 1 1 [.int .i64 a, .int .i64 c] rfl rfl (news_two (by simp) (by simp)) (by simp [Value.oneCell']) (by unfold maxLen; omega) (by omega) (by simp; omega) ?_; intro v' w2 hown' hgrow hnil; obtain ⟨g2, c2, rfl, hg2a, hg2b⟩ := owns_formK hown' (fun h => by have := (hnil.1 h).2; omega); have hB2 : Below w.heap.size w w2 := (hB1.alloc (by simp; omega) _).grown hgrow (by simp; omega) (fun i e => by have e' : w.heap.size + 1 + 1 = i := (by simpa [Value.ownBlock, go_sem] using e); omega); have Q2 := Lib.hid (owns_snoc (o := []) hown' rfl); have m1 := grown_cell (r := w.heap.size + 1 + 1) hgrow (by omega) (cell_alloc_far k1); have m3 := grown_cell (r := w.heap.size + 1 + 1) hgrow (by omega) (cell_alloc_far k3); clear hown' hgrow hnil P1 k0 k1 k2 k3 hB1) | (at_builtin; refine wpList_append_own _ rfl _ _ 121 rfl (w.heap.size + 2) 55 i0 _ 2 16 Try.underlying121 Hi.out Hz0.out Hz1.out Hz2.out rfl (by decide) _ 1 (flat [(a, c)]) rfl (Q2.out.alloc _) ⟨w2.heap.size, 0, none⟩ 1 1 [.int .i64 d, .int .i64 b] rfl rfl (news_two (by simp) (by simp)) (by simp [Value.oneCell']) (by unfold maxLen; omega) (by omega) (by have := hB2.size; simp; omega) ?_; intro v' w3 hown3 hgrow3 hnil3; obtain ⟨g3, c3, rfl, hg3a, hg3b⟩ := owns_formK hown3 (fun h => by have := (hnil3.1 h).2; omega); have hB3 : Below w.heap.size w w3 := (hB2.alloc hB2.size _).grown hgrow3 (by have := hB2.size; simp; omega) (fun i e => by have e' : g2 = i := (by simpa [Value.ownBlock, go_sem] using e); omega); have Q3 := Lib.hid (owns_snoc (o := [(a, c)]) hown3 rfl); clear hown3 hgrow3 hnil3 m1 m3 hB2))
        go_ret
        rw [HL.out]
        exact ⟨g3, c3, rfl, owns_baseK Q3.out (by omega), hB3⟩
      · have d2 : decide (d < b) = false := decide_eq_false h2
        have HL := Lib.hid (show lessOne (a, b) (c, d) = [(a, c)] from by simp [lessOne, hm, h1, h2])
        clear hm h1 h2
        go_wp2_with (at_builtin; refine wpList_append_own _ rfl _ _ 121 rfl (w.heap.size + 2) 55 i0 _ 2 16 Try.underlying121 Hi.out Hz0.out Hz1.out Hz2.out rfl (by decide) _ 0 (flat []) rfl (P1.out.alloc _) ⟨w1.heap.size + 1, 0, none⟩ 1 1 [.int .i64 a, .int .i64 c] rfl rfl (news_two (by simp) (by simp)) (by simp [Value.oneCell']) (by unfold maxLen; omega) (by omega) (by simp; omega) ?_; intro v' w2 hown' hgrow hnil; obtain ⟨g2, c2, rfl, hg2a, hg2b⟩ := owns_formK hown' (fun h => by have := (hnil.1 h).2; omega); have hB2 : Below w.heap.size w w2 := (hB1.alloc (by simp; omega) _).grown hgrow (by simp; omega) (fun i e => by have e' : w.heap.size + 1 + 1 = i := (by simpa [Value.ownBlock, go_sem] using e); omega); have Q2 := Lib.hid (owns_snoc (o := []) hown' rfl); have m1 := grown_cell (r := w.heap.size + 1 + 1) hgrow (by omega) (cell_alloc_far k1); have m3 := grown_cell (r := w.heap.size + 1 + 1) hgrow (by omega) (cell_alloc_far k3); clear hown' hgrow hnil P1 k0 k1 k2 k3 hB1)
        go_ret
        rw [HL.out]
        exact ⟨g2, c2, rfl, owns_baseK Q2.out (by omega), hB2⟩
    · have d1 : decide (a < c) = false := decide_eq_false h1
      by_cases h2 : d < b
      · have d2 : decide (d < b) = true := by simpa using h2
        have HL := Lib.hid (show lessOne (a, b) (c, d) = [(d, b)] from by simp [lessOne, hm, h1, h2])
        clear hm h1 h2
        go_wp2_with (at_builtin; refine wpList_append_own _ rfl _ _ 121 rfl (w.heap.size + 2) 55 i0 _ 2 16 Try.underlying121 Hi.out Hz0.out Hz1.out Hz2.out rfl (by decide) _ 0 (flat []) rfl (P1.out.alloc _) ⟨w1.heap.size + 1, 0, none⟩ 1 1 [.int .i64 d, .int .i64 b] rfl rfl (news_two (by simp) (by simp)) (by simp [Value.oneCell']) (by unfold maxLen; omega) (by omega) (by simp; omega) ?_; intro v' w2 hown' hgrow hnil; obtain ⟨g2, c2, rfl, hg2a, hg2b⟩ := owns_formK hown' (fun h => by have := (hnil.1 h).2; omega); have hB2 : Below w.heap.size w w2 := (hB1.alloc (by simp; omega) _).grown hgrow (by simp; omega) (fun i e => by have e' : w.heap.size + 1 + 1 = i := (by simpa [Value.ownBlock, go_sem] using e); omega); have Q2 := Lib.hid (owns_snoc (o := []) hown' rfl); clear hown' hgrow hnil P1 k0 k1 k2 k3 hB1)
        go_ret
        rw [HL.out]
        exact ⟨g2, c2, rfl, owns_baseK Q2.out (by omega), hB2⟩
      · have d2 : decide (d < b) = false := decide_eq_false h2
        have HL := Lib.hid (show lessOne (a, b) (c, d) = [] from by simp [lessOne, hm, h1, h2])
        clear hm h1 h2
        go_wp2
        go_ret
        rw [HL.out]
        exact ⟨w.heap.size + 1 + 1, 0, rfl, owns_baseK P1.out (by omega), hB1⟩
end Go.Proofs.Ytkalanjgjeijbaa
