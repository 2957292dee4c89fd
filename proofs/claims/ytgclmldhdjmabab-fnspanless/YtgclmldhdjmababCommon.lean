/-
  Walks: what is common to two iterators of spans.
-/
import Derived.Test.YtgclmldhdjmababColl
namespace Go.Proofs.Ytgclmldhdjmabab
open Go.RowKit Go.Shelf

attribute [local go_sem] Oper.semAt_some

def meetOne (x : Int × Int) : List (Int × Int) → List (Int × Int)
  | [] => []
  | y :: ys => if mB x.1 x.2 y.1 y.2 then (mF x.1 x.2 y.1 y.2, mT x.1 x.2 y.1 y.2) :: meetOne x ys else meetOne x ys
def meetL (xs ys : List (Int × Int)) : List (Int × Int) := xs.flatMap fun x => meetOne x ys
theorem meetOne_snoc (x y : Int × Int) : ∀ l : List (Int × Int), meetOne x (l ++ [y]) = meetOne x l ++ (if mB x.1 x.2 y.1 y.2 then [(mF x.1 x.2 y.1 y.2, mT x.1 x.2 y.1 y.2)] else [])
  | [] => by simp [meetOne]
  | z :: l => by
    simp only [List.cons_append, meetOne, meetOne_snoc x y l]
    split <;> rfl
theorem meetL_snoc (xs ys : List (Int × Int)) (x : Int × Int) : meetL (xs ++ [x]) ys = meetL xs ys ++ meetOne x ys := by simp [meetL]

theorem meetOne_len (x : Int × Int) : ∀ l : List (Int × Int), (meetOne x l).length ≤ l.length
  | [] => by simp [meetOne]
  | z :: l => by
    have := meetOne_len x l
    simp only [meetOne]
    split <;> simp <;> omega
theorem meetL_len (ys : List (Int × Int)) : ∀ xs : List (Int × Int), (meetL xs ys).length ≤ xs.length * ys.length
  | [] => by simp [meetL]
  | x :: xs => by
    have h1 := meetL_len ys xs
    have h2 := meetOne_len x ys
    have e : meetL (x :: xs) ys = meetOne x ys ++ meetL xs ys := by simp [meetL]
    rw [e, List.length_append, List.length_cons, Nat.succ_mul]
    omega
theorem meet_bound {xs ys pre pre' : List (Int × Int)} (x : Int × Int) (h : pre.length < xs.length) (h' : pre'.length < ys.length) : (meetL pre ys ++ meetOne x pre').length < xs.length * ys.length := by
  have h1 := meetL_len ys pre
  have h2 := meetOne_len x pre'
  have h3 : (pre.length + 1) * ys.length ≤ xs.length * ys.length := Nat.mul_le_mul_right _ h
  rw [Nat.succ_mul] at h3
  rw [List.length_append]
  omega
theorem Foot.keeps {Φ Φ' : Nat → Prop} {A B : World} (h : Foot Φ Φ' A B) (n : Nat) (hF : ∀ k, Φ k → ∃ o : Obj, A.heap[k]? = some o ∧ o.isCells = true) : KeepsFrom n A B :=
  ⟨h.size, fun k o _ hk ho => (h.same k (Array.getElem?_eq_some_iff.1 hk).1 (fun hp => by
    obtain ⟨o', h1, h2⟩ := hF k hp
    rw [hk] at h1; cases h1; rw [ho] at h2; cases h2)).trans hk⟩

set_option maxHeartbeats 400000 in
theorem common_any (fa fb : Value) (w : World) (ha : fa.oneCell' = true) (hb : fb.oneCell' = true) :
    Calls Try.prog 89 #[fa, fb] w fun e w' => e = .returned (.func (.func 118) #[] #[.pointer (some ⟨w.heap.size, 0, none⟩), .pointer (some ⟨w.heap.size + 1, 0, none⟩)]) ∧ w' = (w.alloc (.cells #[fa] 117)).alloc (.cells #[fb] 117) := by
  go_enter Try.func89, Try.ntmps89
  go_wp2
  go_ret
  exact ⟨rfl, rfl⟩

set_option maxRecDepth 100000 in
set_option maxHeartbeats 4000000 in
theorem common1_all (n : Nat) (hn : 8 ≤ n) (ga gb : Nat) (la lb : Array Value) (ega : ∀ args w, (callFunc ga args).run Try.prog w = .ok (.enter ga args) w) (egb : ∀ args w, (callFunc gb args).run Try.prog w = .ok (.enter gb args) w)
    (Ba Bb : Nat) (xs ys : List (Int × Int)) (w : World) (bA : Boxed w Ba 117 (.func (.func ga) #[] la)) (bB : Boxed w Bb 117 (.func (.func gb) #[] lb))
    (hA : ∀ m, 1 ≤ m → SeqStopsK Fence.wide m Try.prog ga la encS (Below w.heap.size) (fun zs => zs = xs) (fun pre => pre <+: xs) xs.length w)
    (hB : ∀ m, 1 ≤ m → SeqStopsK Fence.wide m Try.prog gb lb encS (Below w.heap.size) (fun zs => zs = ys) (fun pre => pre <+: ys) ys.length w) :
    SeqAll n Try.prog 118 #[.pointer (some ⟨Ba, 0, none⟩), .pointer (some ⟨Bb, 0, none⟩)] encS w.heap.size (meetL xs ys) (xs.length * ys.length) w := by
  intro l J Φ0 W hW hJ hF hU hY h0
  have h1 : 1 ≤ n := by omega
  have HA := Lib.hid hA
  have HB := Lib.hid hB
  have HJ := Lib.hid hJ
  have HF := Lib.hid hF
  have HU := Lib.hid hU
  have HY := Lib.hid hY
  clear hA hB hJ hF hU hY
  have hsW := hW.size
  have hBaW : Ba < W.heap.size := Nat.lt_of_lt_of_le bA.lt hsW
  have cA := (hW.cell (p := ⟨Ba, 0, none⟩) bA.lt).trans bA.cell
  have bY0 := Boxed.new W 30 (Value.func (Fn.yield l) #[] #[])
  have hW0 : Below w.heap.size w (W.alloc (.cells #[(Value.func (Fn.yield l) #[] #[])] 30)) := hW.alloc hsW _
  have hj0 : J [] Φ0 (W.alloc (.cells #[(Value.func (Fn.yield l) #[] #[])] 30)) := (HJ.out Φ0).alloc _ h0
  have hnY0 : ¬ Φ0 W.heap.size := fun h => by
    obtain ⟨_, o, ho, _⟩ := HF.out _ _ _ h0 _ h
    rw [Array.getElem?_eq_none (Nat.le_refl _)] at ho
    cases ho
  refine callsIn_of_wp_marks Try.func118 rfl trivial ?_ rfl
  simp only [Try.ntmps118, List.size_toArray, List.length_cons, List.length_nil, Nat.reduceAdd, Nat.reduceSub, Array.replicate_succ, Array.replicate_zero, List.push_toArray, List.append_toArray, List.nil_append, List.cons_append]
  gi_wp2
  have hsz0 : (W.alloc (.cells #[(Value.func (Fn.yield l) #[] #[])] 30)).heap.size = W.heap.size + 1 := by simp
  generalize W.alloc (.cells #[(Value.func (Fn.yield l) #[] #[])] 30) = W0 at *
  refine wpIn_rangeFunc_ownH rfl h1 (gf := ga) (lb := la) rfl trivial ega (HA.out (n - 1) (by omega)) belowK_t (belowK_b (by omega)) hW0 (fun _ => rfl)
    (fun pre A => ((∃ Φ, J (meetL pre ys) Φ A ∧ ¬ Φ W.heap.size) ∧ Boxed A W.heap.size 30 (Value.func (Fn.yield l) #[] #[])) ∧ Below w.heap.size w A)
    (fun _ _ _ => False)
    (OwnFrom.and (OwnFrom.and (fun pre A B row hs hg hr => by
      obtain ⟨Φ, hj, hn'⟩ := hs
      exact ⟨Φ, HJ.out Φ _ A B row hj hg (fun r e => ⟨by have := (hr r e).1; omega, (hr r e).2⟩), hn'⟩) (Own.from (boxed_own _ _ _) _)) (ownFrom_below (Nat.le_refl _) (by omega)))
    (fun _ _ _ _ _ hs _ _ => hs)
    ⟨⟨⟨Φ0, by simpa [meetL] using hj0, hnY0⟩, bY0⟩, hW0⟩
    (fun x a' A => ∃ Bx, W.heap.size < Bx ∧ Boxed2 A Bx x ∧ (∃ s Φ, J s Φ A ∧ ¬ Φ Bx) ∧ a' = { tmps := #[(Value.func (Fn.yield l) #[] #[]), (Value.pointer (some ⟨Ba, 0, none⟩)), (Value.pointer (some ⟨Bb, 0, none⟩)), (Value.pointer (some ⟨W.heap.size, 0, none⟩)), (Value.pointer (some ⟨Bx, 0, none⟩)), undef, undef, undef, (Value.func (Fn.func ga) #[] la), .agg #[.int .i64 x.1, .int .i64 x.2], undef, undef, undef, undef, undef, undef, undef, undef, undef, undef, undef, undef, undef, undef, undef], defers := [] })
    (fun x a' _ A B row hs hg hr => by
      obtain ⟨Bx, e1, e2, ⟨s, Φ, hj, hn'⟩, e3⟩ := hs
      exact ⟨Bx, e1, e2.kept hg (fun r e => (hr r e).2), ⟨s, Φ, HJ.out Φ _ A B row hj hg (fun r e => ⟨by have := (hr r e).1; omega, (hr r e).2⟩), hn'⟩, e3⟩)
    ?assign ?body ?done ?stop
  case assign =>
    rintro l1 pre x A K ⟨⟨⟨Φ, hj, hnY⟩, bY⟩, hBl⟩ hK
    obtain ⟨x1, x2⟩ := x
    have hfr : ¬ Φ A.heap.size := fun h => by
      obtain ⟨_, o, ho, _⟩ := HF.out _ _ _ hj _ h
      rw [Array.getElem?_eq_none (Nat.le_refl _)] at ho
      cases ho
    have hjA := (HJ.out Φ).alloc (.cells #[.int .i64 x1, .int .i64 x2] 24) hj
    simp only [encS]
    gi_wp2
    exact hK _ _ ((KeepsOthers.alloc _ _).from _) ((Below.refl _ A).alloc hBl.size _) ⟨⟨⟨Φ, hjA, hnY⟩, bY.alloc _⟩, hBl.alloc hBl.size _⟩ ⟨A.heap.size, bY.lt, Boxed2.new A (x1, x2), ⟨_, Φ, hjA, hfr⟩, rfl⟩
  case body =>
    rintro l1 pre x a' A hl1 ⟨r, hr⟩ ⟨⟨⟨Φ, hj, hnY⟩, bY1⟩, hBl⟩ ⟨Bx, hBx, bX, ⟨s', Φ', hj', hnX'⟩, rfl⟩ hlt
    have hΦ := HU.out _ _ _ _ _ hj' hj
    subst hΦ
    have hsA := hBl.size
    have cB := (hBl.cell (p := ⟨Bb, 0, none⟩) bB.lt).trans bB.cell
    gi_wp2
    refine wpIn_rangeFunc_ownN (l₀ := l1) (r₀ := r) rfl hr (by omega) (gf := gb) (lb := lb) rfl trivial egb ((HB.out (n - 1 - 1 - 1) (by omega)).inRound l1) belowK_t (belowK_b hsA) hBl (fun _ => rfl)
      (fun pre' A' => (((∃ Φ, J (meetL pre ys ++ meetOne x pre') Φ A' ∧ ¬ Φ W.heap.size ∧ ¬ Φ Bx) ∧ Boxed A' W.heap.size 30 (Value.func (Fn.yield l) #[] #[])) ∧ Boxed2 A' Bx x) ∧ (Below w.heap.size A A' ∧ KeepsFrom W0.heap.size A A'))
      (fun _ _ _ => False)
      (OwnFrom.and (OwnFrom.and (OwnFrom.and (fun pre' C B row hs hg hr => by
        obtain ⟨Φ, hj, hn'⟩ := hs
        exact ⟨Φ, HJ.out Φ _ C B row hj hg (fun r e => ⟨by have := (hr r e).1; have := bY1.lt; omega, (hr r e).2⟩), hn'⟩) (Own.from (boxed_own _ _ _) _))
        (fun _ C B row hs hg hr => hs.kept hg (fun r e => (hr r e).2))) (OwnFrom.and (ownFrom_below hsA hsA) (ownFrom_keepsFrom (Nat.le_refl _))))
      (fun _ _ _ _ _ hs _ _ => hs)
      ⟨⟨⟨⟨_, by simpa [meetOne] using hj, hnY, hnX'⟩, bY1⟩, bX⟩, Below.refl _ _, KeepsFrom.refl _ _⟩
      (fun y a'' A' => ∃ By, Boxed2 A' By y ∧ a'' = { tmps := #[(Value.func (Fn.yield l) #[] #[]), (Value.pointer (some ⟨Ba, 0, none⟩)), (Value.pointer (some ⟨Bb, 0, none⟩)), (Value.pointer (some ⟨W.heap.size, 0, none⟩)), (Value.pointer (some ⟨Bx, 0, none⟩)), (Value.pointer (some ⟨By, 0, none⟩)), undef, undef, (Value.func (Fn.func ga) #[] la), .agg #[.int .i64 x.1, .int .i64 x.2], (Value.func (Fn.func gb) #[] lb), .agg #[.int .i64 y.1, .int .i64 y.2], undef, undef, undef, undef, undef, undef, undef, undef, undef, undef, undef, undef, undef], defers := [] })
      (fun y a'' _ C B row hs hg hr => by obtain ⟨By, e2, e3⟩ := hs; exact ⟨By, e2.kept hg (fun r e => (hr r e).2), e3⟩)
      ?assign2 ?body2 ?done2 ?stop2
    case assign2 =>
      rintro l2 pre' y C K ⟨⟨⟨⟨Φ, hj2, hnY2, hnX2⟩, bY2⟩, bX2⟩, hB2, hK2⟩ hK
      obtain ⟨y1, y2⟩ := y
      have hjC := (HJ.out Φ).alloc (.cells #[.int .i64 y1, .int .i64 y2] 24) hj2
      have hsC := hB2.size
      simp only [encS]
      gi_wp2
      exact hK _ _ ((KeepsOthers.alloc _ _).from _) ((Below.refl _ C).alloc (by omega) _) ⟨⟨⟨⟨Φ, hjC, hnY2, hnX2⟩, bY2.alloc _⟩, bX2.alloc _⟩, hB2.alloc (by omega) _, hK2.trans ((KeepsOthers.alloc _ _).from _)⟩ ⟨C.heap.size, Boxed2.new C (y1, y2), rfl⟩
    case body2 =>
      rintro l2 pre' y a'' C _ _ ⟨⟨⟨⟨Φ, hj2, hnY2, hnX2⟩, bY2⟩, bX2⟩, hB2, hK2⟩ ⟨By, bY3, rfl⟩ hlt2
      obtain ⟨x1, x2⟩ := x
      obtain ⟨y1, y2⟩ := y
      have cY := bY2.cell
      have cx0 := bX2.cell0
      have cx1 := bX2.cell1
      have cy0 := bY3.cell0
      have cy1 := bY3.cell1
      gi_wp2
      refine ⟨trivial, (fun h => by cases h), ?_⟩
      refine (CallsIn.inRound l2 (CallsIn.inRound l1 (callsIn_wide.2 (meet_any x1 x2 y1 y2 C)))).mono ?_
      rintro e C3 ⟨rfl, hb3⟩
      have hg3 : C.grownBy C3 none := ⟨hb3.os, hb3.tape, hb3.output, hb3.size, fun k hk _ => hb3.block k hk⟩
      have hj3 := HJ.out Φ _ C C3 none hj2 hg3 (fun r e => by cases e)
      have hj4 := (HJ.out Φ).alloc (.cells #[.int .i64 (mF x1 x2 y1 y2), .int .i64 (mT x1 x2 y1 y2)] 24) hj3
      have bY4 := (bY2.kept hg3 (by simp)).alloc (.cells #[.int .i64 (mF x1 x2 y1 y2), .int .i64 (mT x1 x2 y1 y2)] 24)
      have bX4 := (bX2.kept hg3 (fun r e => by cases e)).alloc (.cells #[.int .i64 (mF x1 x2 y1 y2), .int .i64 (mT x1 x2 y1 y2)] 24)
      have b4 := Boxed2.new C3 (mF x1 x2 y1 y2, mT x1 x2 y1 y2)
      have c40 := b4.cell0
      have c41 := b4.cell1
      have cY4 := bY4.cell
      have hB4 : Below w.heap.size C (C3.alloc (.cells #[.int .i64 (mF x1 x2 y1 y2), .int .i64 (mT x1 x2 y1 y2)] 24)) := (hb3.mono (by have := hB2.size; omega)).alloc (by have := hB2.size; have := hb3.size; omega) _
      have hK4 : ∀ k, KeepsFrom k C (C3.alloc (.cells #[.int .i64 (mF x1 x2 y1 y2), .int .i64 (mT x1 x2 y1 y2)] 24)) := fun k => (KeepsFrom.of_grownBy hg3 (fun j e => by cases e)).trans ((KeepsOthers.alloc _ _).from _)
      have hF4 := HF.out _ _ _ hj4
      obtain ⟨fn, tmps, assign, body, hy, hR⟩ := HY.out _ Φ (mF x1 x2 y1 y2, mT x1 x2 y1 y2) _ hj4 (meet_bound _ hlt hlt2)
      simp only [encS] at hy
      cases hmB : mB x1 x2 y1 y2
      · gi_wp2
        refine ⟨(fun f e => nomatch e), ?_⟩
        gi_wp2
        refine ⟨hK4 _, hB4, ⟨⟨⟨Φ, ?_, hnY2, hnX2⟩, bY4⟩, bX4⟩, hB2.trans hB4, hK2.trans (hK4 _)⟩
        rw [meetOne_snoc, if_neg (by simp [hmB]), List.append_nil]
        exact hj4
      · gi_wp2
        refine ⟨(fun h => nomatch h), (round_deep hR).mono ?_⟩
        rintro e C5 ⟨rfl, Φ5, hj5, hf5⟩
        gi_wp2
        have hk5 : ∀ k, KeepsFrom k _ C5 := fun k => hf5.keeps k (fun j hj => (hF4 j hj).2)
        have hB5 := hf5.below (fun j hj => (hF4 j hj).1) (Nat.le_trans hsA (Nat.le_trans hB2.size hB4.size))
        refine ⟨(hK4 _).trans (hk5 _), hB4.trans hB5, ⟨⟨⟨Φ5, ?_, fun h => ?_, fun h => ?_⟩, (hf5.same _ bY4.lt hnY2).trans bY4⟩, (hf5.same _ bX4.lt hnX2).trans bX4⟩, hB2.trans (hB4.trans hB5), hK2.trans ((hK4 _).trans (hk5 _))⟩
        · rw [meetOne_snoc, if_pos hmB, ← List.append_assoc]
          exact hj5
        · exact (hf5.new _ h).elim hnY2 (fun h => Nat.lt_irrefl _ (Nat.lt_of_lt_of_le bY4.lt h))
        · exact (hf5.new _ h).elim hnX2 (fun h => Nat.lt_irrefl _ (Nat.lt_of_lt_of_le bX4.lt h))
    case done2 =>
      rintro zs C rfl ⟨⟨⟨⟨Φ, hj2, hnY2, hnX2⟩, bY2⟩, bX2⟩, hB2, hK2⟩
      gi_wp2
      exact ⟨hK2, hB2, ⟨⟨Φ, by rw [meetL_snoc]; exact hj2, hnY2⟩, bY2⟩, hBl.trans hB2⟩
    case stop2 =>
      rintro c pre' C _ h
      exact h.elim
  case done =>
    rintro D zs A hD rfl ⟨⟨⟨Φ, hj, hnY⟩, bY1⟩, hBl⟩ hK
    gi_wp2
    refine ⟨by simp, .inl ⟨_, _, rfl, run_takeDeferred hK, ?_⟩⟩
    exact ⟨_, results_none rfl _ _ _, ⟨_, rfl⟩, Φ, (HJ.out Φ).putObj _ hj (by omega) hK rfl⟩
  case stop =>
    rintro D c pre A _ _ h _
    exact h.elim
end Go.Proofs.Ytgclmldhdjmabab
