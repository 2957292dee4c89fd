/-
  Walks: the intersection of two spans.
-/
import Derived.WalkKit
import Derived.Below
import Derived.Deep.QuietTactic
import Derived.BigQuiet
import Derived.Lib.Hide
import Derived.Test.YtphinkcfmdnpfaaRows
import Derived.WalkSpells
import Derived.WalkLawsBesides
import Derived.Deep.RegionHeld3
import Derived.Deep.DeepCutAuto
namespace Go.Proofs.Ytphinkcfmdnpfaa
open Go.RowKit

theorem exists_later (W : World) : ∃ f : World → World, (∀ v, Below W.heap.size W (f v)) ∧ (∀ v, Below W.heap.size W v → f v = v) := by
  classical
  refine ⟨fun v => if Below W.heap.size W v then v else W, fun v => ?_, fun v h => if_pos h⟩
  by_cases h : Below W.heap.size W v
  · simp only [if_pos h]; exact h
  · simp only [if_neg h]; exact Below.refl _ _

theorem wp_region_later {P : Program} {id : Nat} {Q : Exit → Act → World → Prop} {a : Act} {w : World} {l : List Oper} (hm : P.follows .mixedOrders = true) (hB : Region.lexB .any l.toArray = true)
    (h : ∀ f : World → World, Hid (∀ v, Below w.heap.size w (f v)) → Hid (∀ v, Below w.heap.size w v → f v = v) → (∀ v b o, b < w.heap.size → (f v).cell? ⟨b, o, none⟩ = w.cell? ⟨b, o, none⟩) →
      wpQuiet P l.toArray (fun w' => ∃ v, w' = f v) (fun a' => ∀ w', (∃ v, w' = f v) → Q .normal a' w') l a) : (Code.region id l.toArray true).wp P Q a w := by
  obtain ⟨f, h1, h2⟩ := exists_later w
  refine wp_region_quiet (C := fun w' => ∃ v, w' = f v) hm hB ⟨w.drew, ?_⟩ (by simpa using h f (Lib.hid h1) (Lib.hid h2) (fun v b o hb => (h1 v).cell (p := ⟨b, o, none⟩) hb))
  exact (h2 _ (Below.refl _ _).drew).symm

theorem calls_later {P : Program} {fn : FuncId} {args : Array Value} {w : World} {f : World → World} {v : World} {r : Value} (h1 : Hid (∀ v, Below w.heap.size w (f v))) (h2 : Hid (∀ v, Below w.heap.size w v → f v = v))
    (h : Calls P fn args (f v) fun e w' => e = .returned r ∧ Below (f v).heap.size (f v) w') : Calls P fn args (f v) fun e w'' => e = .returned r ∧ ∃ v', w'' = f v' :=
  h.mono fun _ w' ⟨he, hb⟩ => ⟨he, w', (h2.out w' ((h1.out v).trans (hb.mono (h1.out v).size))).symm⟩
end Go.Proofs.Ytphinkcfmdnpfaa
namespace Go.Proofs.Ytphinkcfmdnpfaa
open Go.RowKit

def okB (a b : Int) : Bool := decide (0 ≤ a ∧ a < b ∧ b ≤ 100)
def inB (n l h : Int) : Bool := decide (l ≤ n ∧ n ≤ h)

theorem ret_bool {a b : Bool} (h : a = b) : Ending.returned (.bool a) = .returned (.bool b) := by rw [h]

theorem bcell {W w1 : World} {n : Nat} (hb : Below n W w1) : (∀ b o, b < n → w1.cell? ⟨b, o, none⟩ = W.cell? ⟨b, o, none⟩) ∧ (∀ b o, b < n → w1.frozen? ⟨b, o, none⟩ = W.frozen? ⟨b, o, none⟩) :=
  ⟨fun b o h => hb.cell (p := ⟨b, o, none⟩) h, fun b o h => hb.frozen (p := ⟨b, o, none⟩) h⟩

set_option maxHeartbeats 400000 in
theorem ok_any (a b : Int) (w : World) :
    Calls Try.prog 99 #[.agg #[.int .i64 a, .int .i64 b]] w fun e w' => e = .returned (.bool (okB a b)) ∧ Below w.heap.size w w' := by
  go_enter Try.func99, Try.ntmps99
  go_wp2
  all_goals go_ret
  all_goals refine ⟨ret_bool ?_, (Below.refl _ _).alloc (Nat.le_refl _) _⟩
  · unfold okB; rw [decide_eq_decide]; omega
  · unfold okB; rw [eq_comm, decide_eq_false_iff_not]; omega
  · unfold okB; rw [eq_comm, decide_eq_false_iff_not]; omega

set_option maxHeartbeats 400000 in
theorem in_any (n l h : Int) (w : World) :
    Calls Try.prog 101 #[.int .i64 n, .int .i64 l, .int .i64 h] w fun e w' => e = .returned (.bool (inB n l h)) ∧ w = w' := by
  go_enter Try.func101, Try.ntmps101
  go_wp2
  all_goals go_ret
  all_goals refine ⟨ret_bool ?_, rfl⟩
  · unfold inB; rw [decide_eq_decide]; omega
  · unfold inB; rw [eq_comm, decide_eq_false_iff_not]; omega

set_option maxHeartbeats 400000 in
theorem l1Ok_any (a b : Int) (w : World) :
    Calls Try.prog 97 #[.agg #[.int .i64 a, .int .i64 b]] w fun e w' => e = .returned (.bool (okB a b)) ∧ Below w.heap.size w w' := by
  by_cases h : 0 ≤ a ∧ a ≤ 99
  · obtain ⟨ha, ha'⟩ := h
    have h1 : inB a 0 99 = true := by unfold inB; rw [decide_eq_true_iff]; omega
    have h2 : okB a b = inB b (a + 1) 100 := by unfold inB okB; rw [decide_eq_decide]; omega
    have H1 := Lib.hid h1
    have H2 := Lib.hid h2
    clear h1 h2
    go_enter Try.func97, Try.ntmps97
    go_wp2_with fail
    refine (in_any _ _ _ _).mono ?_
    rintro e w' ⟨rfl, rfl⟩
    rw [H1.out]
    go_wp2_with fail
    refine (in_any _ _ _ _).mono ?_
    rintro e w' ⟨rfl, rfl⟩
    go_wp2_with fail
    go_ret
    exact ⟨ret_bool H2.out.symm, (Below.refl _ _).alloc (Nat.le_refl _) _⟩
  · have h1 : inB a 0 99 = false := by unfold inB; rw [decide_eq_false_iff_not]; omega
    have h2 : okB a b = false := by unfold okB; rw [decide_eq_false_iff_not]; omega
    have H1 := Lib.hid h1
    have H2 := Lib.hid h2
    clear h1 h2
    go_enter Try.func97, Try.ntmps97
    go_wp2_with fail
    refine (in_any _ _ _ _).mono ?_
    rintro e w' ⟨rfl, rfl⟩
    rw [H1.out]
    go_wp2_with fail
    go_ret
    exact ⟨ret_bool H2.out.symm, (Below.refl _ _).alloc (Nat.le_refl _) _⟩

set_option maxHeartbeats 400000 in
theorem toSpan_any (a b : Int) (w : World) :
    Calls Try.prog 44 #[.agg #[.int .i64 a, .int .i64 b]] w fun e w' => e = .returned (.agg #[.int .i64 a, .int .i64 b]) ∧ Below w.heap.size w w' := by
  go_enter Try.func44, Try.ntmps44
  go_wp2
  refine bodyPost_ret (v := .agg #[.int .i64 a, .int .i64 b]) (by simp [results, Try.results44, go_sem]) rfl ⟨rfl, ?_⟩
  repeat (first | exact Below.refl _ _ | refine Below.setCell ?_ (by simp; try omega) _ | refine Below.alloc ?_ (by simp; try omega) _)

def mB (a b c d : Int) : Bool := decide (max a c < min b d)
def mF (a b c d : Int) : Int := if max a c < min b d then max a c else 0
def mT (a b c d : Int) : Int := if max a c < min b d then min b d else 0

theorem m_yes {a b c d x y : Int} (hx : x = max a c) (hy : y = min b d) (h : x < y) : true = mB a b c d ∧ x = mF a b c d ∧ y = mT a b c d := by
  subst hx hy; simp [mB, mF, mT, h]
theorem m_no {a b c d : Int} (h : ¬ max a c < min b d) : false = mB a b c d ∧ 0 = mF a b c d ∧ 0 = mT a b c d := by
  simp [mB, mF, mT, h]
theorem m_raw {a b c d x y : Int} (hx : x = max a c) (hy : y = min b d) : decide (x < y) = mB a b c d ∧ x = max a c ∧ y = min b d := by
  subst hx hy; simp [mB]

theorem ret_meet {x y x' y' : Int} {b b' : Bool} (h : b = b' ∧ x = x' ∧ y = y') :
    Ending.returned (.tuple #[.agg #[.int .i64 x, .int .i64 y], .bool b]) = .returned (.tuple #[.agg #[.int .i64 x', .int .i64 y'], .bool b']) := by
  obtain ⟨rfl, rfl, rfl⟩ := h; rfl

set_option maxHeartbeats 400000 in
theorem meet_any (a b c d : Int) (w : World) :
    Calls Try.prog 107 #[.agg #[.int .i64 a, .int .i64 b], .agg #[.int .i64 c, .int .i64 d]] w fun e w' =>
      e = .returned (.tuple #[.agg #[.int .i64 (mF a b c d), .int .i64 (mT a b c d)], .bool (mB a b c d)]) ∧ Below w.heap.size w w' := by
  by_cases h1 : a < c <;> by_cases h2 : d < b
  all_goals
    go_enter Try.func107, Try.ntmps107
    go_wp2
    all_goals (refine bodyPost_ret (by simp [results, Try.results107, go_sem]; exact ⟨⟨rfl, rfl⟩, rfl⟩) rfl ⟨ret_meet ?_, ?_⟩)
    any_goals (repeat (first | exact Below.refl _ _ | refine Below.setCell ?_ (by simp; try omega) _ | refine Below.alloc ?_ (by simp; try omega) _))
    · exact m_no (by omega)
    · exact m_yes (by omega) (by omega) (by omega)

set_option maxHeartbeats 400000 in
theorem l1Meet_any (a b c d : Int) (w : World) :
    Calls Try.prog 151 #[.agg #[.int .i64 a, .int .i64 b], .agg #[.int .i64 c, .int .i64 d]] w fun e w' =>
      e = .returned (.tuple #[.agg #[.int .i64 (max a c), .int .i64 (min b d)], .bool (mB a b c d)]) ∧ Below w.heap.size w w' := by
  go_enter Try.func151, Try.ntmps151
  go_wp2
  all_goals go_region
  all_goals go_wp2
  all_goals (refine bodyPost_ret (by simp [results, Try.results151, go_sem]; exact ⟨⟨rfl, rfl⟩, Iff.rfl⟩) rfl ⟨ret_meet (m_raw (by omega) (by omega)), ?_⟩)
  all_goals (repeat (first | exact Below.refl _ _ | refine Below.drew ?_ | refine Below.setCell ?_ (by simp; try omega) _ | refine Below.alloc ?_ (by simp; try omega) _))

end Go.Proofs.Ytphinkcfmdnpfaa
namespace Go.Proofs.Ytphinkcfmdnpfaa
open Go.RowKit

/-- The slice's first cells hold these spans. -/
def Spans (w : World) (A : Option Addr) (zs : List (Int × Int)) : Prop :=
  0 < zs.length → ∃ b off, A = some ⟨b, off, none⟩ ∧ ∀ i, i < zs.length → w.cell? ⟨b, off + i * 2, none⟩ = some (.int .i64 (zs.getD i (0, 0)).1) ∧ w.cell? ⟨b, off + i * 2 + 1, none⟩ = some (.int .i64 (zs.getD i (0, 0)).2)

theorem cell_below {w w' : World} {n b o : Nat} {v : Value} (hb : Below n w w') (h : b < n) (hc : w.cell? ⟨b, o, none⟩ = some v) : w'.cell? ⟨b, o, none⟩ = some v :=
  (hb.cell (p := ⟨b, o, none⟩) h).trans hc

theorem Spans.below {w w' : World} {A : Option Addr} {zs : List (Int × Int)} (h : Spans w A zs) (hb : Below w.heap.size w w') : Spans w' A zs := fun hn => by
  obtain ⟨b, off, e, hc⟩ := h hn
  refine ⟨b, off, e, fun i hi => ?_⟩
  obtain ⟨h1, h2⟩ := hc i hi
  exact ⟨cell_below hb (World.block_lt_of_cell? _ _ h1) h1, cell_below hb (World.block_lt_of_cell? _ _ h2) h2⟩

def flat : List (Int × Int) → List Value
  | [] => []
  | p :: l => .int .i64 p.1 :: .int .i64 p.2 :: flat l

theorem flat_length : ∀ l : List (Int × Int), (flat l).length = l.length * 2
  | [] => rfl
  | p :: l => by simp [flat, flat_length l]; omega
theorem flat_append : ∀ l m : List (Int × Int), flat (l ++ m) = flat l ++ flat m
  | [], m => rfl
  | p :: l, m => by simp [flat, flat_append l m]
theorem flat_get0 : ∀ (l : List (Int × Int)) (i : Nat), i < l.length → (flat l)[i * 2]? = some (.int .i64 (l.getD i (0, 0)).1)
  | [], i, h => by simp at h
  | p :: l, 0, _ => by simp [flat]
  | p :: l, i + 1, h => by
    have := flat_get0 l i (by simpa using h)
    rw [show (i + 1) * 2 = i * 2 + 1 + 1 from by omega]
    simpa [flat] using this
theorem flat_get1 : ∀ (l : List (Int × Int)) (i : Nat), i < l.length → (flat l)[i * 2 + 1]? = some (.int .i64 (l.getD i (0, 0)).2)
  | [], i, h => by simp at h
  | p :: l, 0, _ => by simp [flat]
  | p :: l, i + 1, h => by
    have := flat_get1 l i (by simpa using h)
    rw [show (i + 1) * 2 + 1 = i * 2 + 1 + 1 + 1 from by omega]
    simpa [flat] using this
theorem flat_set : ∀ (l : List (Int × Int)) (i : Nat) (a b : Int), ((flat l).set (i * 2) (.int .i64 a)).set (i * 2 + 1) (.int .i64 b) = flat (l.set i (a, b))
  | [], i, a, b => by simp [flat]
  | p :: l, 0, a, b => by simp [flat]
  | p :: l, i + 1, a, b => by
    have := flat_set l i a b
    rw [show (i + 1) * 2 = i * 2 + 1 + 1 from by omega]
    simpa [flat] using this
theorem flat_one : ∀ (l : List (Int × Int)), ∀ u ∈ flat l, u.oneCell' = true
  | [], u, h => by simp [flat] at h
  | p :: l, u, h => by
    simp [flat] at h
    rcases h with rfl | rfl | h
    · rfl
    · rfl
    · exact flat_one l u h

theorem made_flat (n : Nat) : (madeCells (Value.agg #[.int .i64 0, .int .i64 0]).cells (n * 2)).toList = flat (List.replicate n (0, 0)) := by
  apply List.ext_getElem?
  intro j
  by_cases hj : j < n * 2
  · rcases Nat.mod_two_eq_zero_or_one j with h | h
    · obtain ⟨i, rfl⟩ : ∃ i, j = i * 2 := ⟨j / 2, by omega⟩
      rw [flat_get0 _ _ (by simp; omega)]
      have hi : i < n := by omega
      simp [madeCells, Value.cells, hj, hi]
    · obtain ⟨i, rfl⟩ : ∃ i, j = i * 2 + 1 := ⟨j / 2, by omega⟩
      rw [flat_get1 _ _ (by simp; omega)]
      have hi : i < n := by omega
      have hm : (i * 2 + 1) % 2 = 1 := by omega
      simp [madeCells, Value.cells, hj, hi, hm]
  · rw [List.getElem?_eq_none (by simp [madeCells]; omega), List.getElem?_eq_none (by simp [flat_length]; omega)]

theorem owns_below {w w' : World} {B base : Nat} {e : TypeId} {size g n cap : Nat} {xs : List Value} (h : w.ownsRow base e size (.slice (some ⟨g, 0, none⟩) n cap) n xs) (hb : Below B w w') (hg : g < B) :
    w'.ownsRow base e size (.slice (some ⟨g, 0, none⟩) n cap) n xs := by
  refine ⟨h.1, ?_⟩
  rcases h.2 with hn | ⟨g', cap', cur, he, hb', hgg, rest⟩
  · exact .inl hn
  · refine .inr ⟨g', cap', cur, he, hb', ?_, rest⟩
    have : g' = g := by injection he with h1; injection h1 with h1; injection h1 with h1; exact h1.symm
    subst this
    rw [hb.block _ hg]; exact hgg

theorem spans_of_owns {w : World} {base g n cap : Nat} {zs : List (Int × Int)} (h : w.ownsRow base 29 2 (.slice (some ⟨g, 0, none⟩) n cap) n (flat zs)) (hn : n = zs.length) : Spans w (some ⟨g, 0, none⟩) zs := fun _ => by
  subst hn
  refine ⟨g, 0, rfl, fun i hi => ?_⟩
  have c0 := h.cellAt (i * 2) (by omega)
  have c1 := h.cellAt (i * 2 + 1) (by omega)
  rw [flat_get0 zs i hi] at c0
  rw [flat_get1 zs i hi] at c1
  exact ⟨by simpa using c0, by simpa using c1⟩

def done (zs : List (Int × Int)) (k : Nat) : List (Int × Int) := zs.take k ++ List.replicate (zs.length - k) (0, 0)
theorem done_zero (zs : List (Int × Int)) : done zs 0 = List.replicate zs.length (0, 0) := by simp [done]
theorem done_all (zs : List (Int × Int)) : done zs zs.length = zs := by simp [done]
theorem done_length (zs : List (Int × Int)) (k : Nat) (hk : k ≤ zs.length) : (done zs k).length = zs.length := by simp [done]; omega
theorem done_set (zs : List (Int × Int)) (k : Nat) (hk : k < zs.length) : (done zs k).set k ((zs.getD k (0, 0)).1, (zs.getD k (0, 0)).2) = done zs (k + 1) := by
  have e : (zs.getD k (0, 0)) = zs[k] := by simp [hk]
  rw [e]
  unfold done
  rw [List.take_succ_eq_append_getElem hk, List.set_append_right _ _ (by simp; omega), List.length_take, Nat.min_eq_left (by omega), Nat.sub_self,
    show zs.length - k = (zs.length - (k + 1)) + 1 from by omega, List.replicate_succ]
  simp only [List.set_cons_zero, List.append_assoc, List.cons_append, List.nil_append]
end Go.Proofs.Ytphinkcfmdnpfaa
namespace Go.Proofs.Ytphinkcfmdnpfaa
open Go.RowKit

theorem cell_set_far {w : World} {g i b o : Nat} {u v : Value} (hne : b ≠ g) (hc : w.cell? ⟨b, o, none⟩ = some v) : (w.setCell ⟨g, i, none⟩ u).cell? ⟨b, o, none⟩ = some v :=
  (World.cell?_setCell_other w ⟨g, i, none⟩ ⟨b, o, none⟩ u (fun e => hne (by injection e with e; exact e.symm))).trans hc
theorem cell_alloc_far {w : World} {b o : Nat} {v : Value} {x : Obj} (hc : w.cell? ⟨b, o, none⟩ = some v) : (w.alloc x).cell? ⟨b, o, none⟩ = some v :=
  (World.cell?_alloc_lt w x ⟨b, o, none⟩ (World.block_lt_of_cell? w _ hc)).trans hc
theorem cell_alloc_swap {w : World} {b o : Nat} {v : Value} {x y : Obj} (hc : (w.alloc y).cell? ⟨b, o, none⟩ = some v) (h : b < w.heap.size) : (w.alloc x).cell? ⟨b, o, none⟩ = some v := by
  rw [World.cell?_alloc_lt w x ⟨b, o, none⟩ h]; rwa [World.cell?_alloc_lt w y ⟨b, o, none⟩ h] at hc
theorem below_alloc_swap {n : Nat} {w w1 : World} {x y : Obj} (hb : Below n w (w1.alloc y)) (h : n ≤ w1.heap.size) : Below n w (w1.alloc x) :=
  ⟨hb.os, hb.tape, hb.output, by have := hb.size; simp at this ⊢; omega, fun k hk => by
    rw [Below.heap_alloc w1 x k (by omega), ← hb.block k hk, Below.heap_alloc w1 y k (by omega)]⟩
theorem cell_drew {w : World} {b o : Nat} {v : Value} (hc : w.cell? ⟨b, o, none⟩ = some v) : w.drew.cell? ⟨b, o, none⟩ = some v := hc

def gB (a b c d : Int) : Bool := okB a b && okB c d && mB a b c d
def gF (a b c d : Int) : Int := if okB a b && okB c d then mF a b c d else 0
def gT (a b c d : Int) : Int := if okB a b && okB c d then mT a b c d else 0

theorem g_bad1 {a b c d : Int} (h : okB a b = false) : false = gB a b c d ∧ 0 = gF a b c d ∧ 0 = gT a b c d := by simp [gB, gF, gT, h]
theorem g_bad2 {a b c d : Int} (h : okB c d = false) : false = gB a b c d ∧ 0 = gF a b c d ∧ 0 = gT a b c d := by simp [gB, gF, gT, h]
theorem g_ok {a b c d : Int} (h : okB a b = true) (h' : okB c d = true) : mB a b c d = gB a b c d ∧ mF a b c d = gF a b c d ∧ mT a b c d = gT a b c d := by simp [gB, gF, gT, h, h']
theorem g_no {a b c d : Int} (h : okB a b = true) (h' : okB c d = true) (hm : mB a b c d = false) : false = gB a b c d ∧ 0 = gF a b c d ∧ 0 = gT a b c d := by
  have : ¬ max a c < min b d := by simpa [mB] using hm
  simp [gB, gF, gT, h, h', hm, mF, mT, this]
theorem g_yes {a b c d : Int} (h : okB a b = true) (h' : okB c d = true) (hm : mB a b c d = true) : true = gB a b c d ∧ max a c = gF a b c d ∧ min b d = gT a b c d := by
  have : max a c < min b d := by simpa [mB] using hm
  simp [gB, gF, gT, h, h', hm, mF, mT, this]

theorem bz3 {n m : Nat} (h : n + 2 < m) : n < m ∧ n + 1 < m ∧ n + 1 + 1 < m := by omega

set_option maxHeartbeats 400000 in
theorem SpanMeet_any (a b c d : Int) (w : World) :
    Calls Try.prog 53 #[.agg #[.int .i64 a, .int .i64 b], .agg #[.int .i64 c, .int .i64 d]] w fun e w' =>
      e = .returned (.tuple #[.agg #[.int .i64 (gF a b c d), .int .i64 (gT a b c d)], .bool (gB a b c d)]) ∧ Below w.heap.size w w' := by
  obtain ⟨x, hx⟩ : ∃ x, okB a b = x := ⟨_, rfl⟩
  obtain ⟨y, hy⟩ : ∃ x, okB c d = x := ⟨_, rfl⟩
  have Hx := Lib.hid hx
  have Hy := Lib.hid hy
  clear hx hy
  go_enter Try.func53, Try.ntmps53
  go_wp2_with fail
  refine (ok_any _ _ _).mono ?_
  rintro e w1 ⟨rfl, hb1⟩
  obtain ⟨hc1, hf1⟩ := bcell hb1
  have hz1 : w.heap.size + 2 < w1.heap.size := by have := hb1.size; simp at this; omega
  obtain ⟨hz1a, hz1b, hz1c⟩ := bz3 hz1
  rw [Hx.out]
  cases x
  · go_wp2_with fail
    refine bodyPost_ret (v := .tuple #[.agg #[.int .i64 0, .int .i64 0], .bool false]) (by simp [results, Try.results53, go_sem, hc1]) rfl ⟨ret_meet (g_bad1 Hx.out), ?_⟩
    refine Below.setCell (Below.setCell ?_ (by simp; try omega) _) (by simp; try omega) _
    refine Below.trans ?_ (hb1.mono (by simp; try omega))
    repeat (first | exact Below.refl _ _ | refine Below.alloc ?_ (by simp; try omega) _)
  · go_wp2_with fail
    refine (ok_any _ _ _).mono ?_
    rintro e w2 ⟨rfl, hb2⟩
    obtain ⟨hc2, hf2⟩ := bcell hb2
    have hz2 : w.heap.size + 2 < w2.heap.size := by have := hb2.size; omega
    obtain ⟨hz2a, hz2b, hz2c⟩ := bz3 hz2
    rw [Hy.out]
    cases y
    · go_wp2_with fail
      refine bodyPost_ret (v := .tuple #[.agg #[.int .i64 0, .int .i64 0], .bool false]) (by simp [results, Try.results53, go_sem, hc1, hc2, hz1c]) rfl ⟨ret_meet (g_bad2 Hy.out), ?_⟩
      refine Below.setCell (Below.setCell ?_ (by simp; try omega) _) (by simp; try omega) _
      refine Below.trans ?_ (hb2.mono (by omega))
      refine Below.trans ?_ (hb1.mono (by simp; try omega))
      repeat (first | exact Below.refl _ _ | refine Below.alloc ?_ (by simp; try omega) _)
    · go_wp2_with fail
      refine (meet_any _ _ _ _ _).mono ?_
      rintro e w3 ⟨rfl, hb3⟩
      obtain ⟨hc3, hf3⟩ := bcell hb3
      have hz3 : w.heap.size + 2 < w3.heap.size := by have := hb3.size; omega
      obtain ⟨hz3a, hz3b, hz3c⟩ := bz3 hz3
      go_wp2_with fail
      refine bodyPost_ret (v := .tuple #[.agg #[.int .i64 (mF a b c d), .int .i64 (mT a b c d)], .bool (mB a b c d)]) (by simp [results, Try.results53, go_sem, hc1, hc2, hc3, hz1c, hz2c]) rfl ⟨ret_meet (g_ok Hx.out Hy.out), ?_⟩
      refine Below.setCell (Below.setCell ?_ (by simp; try omega) _) (by simp; try omega) _
      refine Below.trans ?_ (hb3.mono (by omega))
      refine Below.trans ?_ (hb2.mono (by omega))
      refine Below.trans ?_ (hb1.mono (by simp; try omega))
      repeat (first | exact Below.refl _ _ | refine Below.alloc ?_ (by simp; try omega) _)

set_option maxHeartbeats 400000 in
theorem eqSpan_same (a b : Int) (w : World) :
    Calls Try.prog 133 #[.agg #[.int .i64 a, .int .i64 b], .agg #[.int .i64 a, .int .i64 b]] w fun e w' =>
      e = .returned (.bool true) ∧ Below w.heap.size w w' := by
  go_enter Try.func133, Try.ntmps133
  go_wp2
  go_ret
  refine ⟨rfl, ?_⟩
  repeat (first | exact Below.refl _ _ | refine Below.alloc ?_ (by simp; try omega) _)

theorem bcell3 {W w1 : World} {n : Nat} (hb : Below n W w1) : (∀ b o, b < n → w1.cell? ⟨b, o, none⟩ = W.cell? ⟨b, o, none⟩) ∧ (∀ b o, b < n → w1.frozen? ⟨b, o, none⟩ = W.frozen? ⟨b, o, none⟩) ∧ (∀ b, b < W.heap.size → b < w1.heap.size) :=
  ⟨fun b o h => hb.cell (p := ⟨b, o, none⟩) h, fun b o h => hb.frozen (p := ⟨b, o, none⟩) h, fun _ h => Nat.lt_of_lt_of_le h hb.size⟩

def AtCut (w : World) (a b c d : Int) (s5 s6 : Value) (wx : World) : Prop :=
  ∃ g : Nat, s5 = .pointer (some ⟨g, 0, none⟩) ∧ s6 = .bool (gB a b c d) ∧ wx.cell? ⟨g, 0, none⟩ = some (.int .i64 (gF a b c d)) ∧ wx.cell? ⟨g, 1, none⟩ = some (.int .i64 (gT a b c d)) ∧
    wx.cell? ⟨w.heap.size, 0, none⟩ = some (.int .i64 a) ∧ wx.cell? ⟨w.heap.size, 1, none⟩ = some (.int .i64 b) ∧ wx.cell? ⟨w.heap.size + 1, 0, none⟩ = some (.int .i64 c) ∧ wx.cell? ⟨w.heap.size + 1, 1, none⟩ = some (.int .i64 d) ∧
    w.heap.size + 1 < g ∧ Below w.heap.size w wx

def AtCut2 (w : World) (g : Nat) (a b c d : Int) (s5 s6 : Value) (wx : World) : Prop :=
  ∃ g' : Nat, s5 = .pointer (some ⟨g', 0, none⟩) ∧ s6 = .bool (gB a b c d) ∧ wx.cell? ⟨g', 0, none⟩ = some (.int .i64 (gF a b c d)) ∧ wx.cell? ⟨g', 1, none⟩ = some (.int .i64 (gT a b c d)) ∧
    wx.cell? ⟨g, 0, none⟩ = some (.int .i64 (gF a b c d)) ∧ wx.cell? ⟨g, 1, none⟩ = some (.int .i64 (gT a b c d)) ∧ Below w.heap.size w wx

end Go.Proofs.Ytphinkcfmdnpfaa
