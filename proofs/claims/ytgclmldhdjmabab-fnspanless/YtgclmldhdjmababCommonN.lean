/-
  Walks: what is common to two iterators of spans, the second one by the wider word.
-/
import Derived.Test.YtgclmldhdjmababCommon
import Derived.Test.YtgclmldhdjmababAllN
namespace Go.Proofs.Ytgclmldhdjmabab
open Go.RowKit Go.Shelf

attribute [local go_sem] Oper.semAt_some

/-- A round of the wide fence, met within a round. -/
theorem round_deep1 {P : Program} {l l1 m m' : Nat} {f : FuncId} {tmps : Array Value} {assign body : Code} {w : World} {R : Ending → World → Prop} (h : RoundIn Fence.wide m P l f tmps assign body w R) : RoundIn (Fence.wide.inRound l1) m' P l f tmps assign body w R :=
  ⟨h.1, fun c cs _ => h.2 c cs (room_wide _)⟩

set_option maxRecDepth 100000 in
set_option maxHeartbeats 4000000 in
theorem common1_allN (n : Nat) (hn : 8 ≤ n) (ga gb : Nat) (la lb : Array Value) (ega : ∀ args w, (callFunc ga args).run Try.prog w = .ok (.enter ga args) w) (egb : ∀ args w, (callFunc gb args).run Try.prog w = .ok (.enter gb args) w)
    (Ba Bb : Nat) (xs ys : List (Int × Int)) (w : World) (bA : Boxed w Ba 117 (.func (.func ga) #[] la)) (bB : Boxed w Bb 117 (.func (.func gb) #[] lb))
    (hA : ∀ m, 1 ≤ m → SeqStopsK Fence.wide m Try.prog ga la encS (Below w.heap.size) (fun zs => zs = xs) (fun pre => pre <+: xs) xs.length w)
    (hB : ∀ m, 1 ≤ m → SeqAll m Try.prog gb lb encS w.heap.size ys ys.length w) :
    SeqAll n Try.prog 118 #[.pointer (some ⟨Ba, 0, none⟩), .pointer (some ⟨Bb, 0, none⟩)] encS w.heap.size (meetL xs ys) (xs.length * ys.length) w := by
  intro l J Φ0 W hW hJ hF hU hY h0
  have h1 : 1 ≤ n := by omega
  have HA := Lib.hid hA
  have HB := Lib.hid hB
  have HJ := Lib.hid hJ
  have HF := Lib.hid hF
  have HU := Lib.hid hU
  have HY := Lib.hid hY
  clear hA hB hJ hF hU hY
  have hsW := hW.size
  have hBaW : Ba < W.heap.size := Nat.lt_of_lt_of_le bA.lt hsW
  have cA := (hW.cell (p := ⟨Ba, 0, none⟩) bA.lt).trans bA.cell
  have bY0 := Boxed.new W 30 (Value.func (Fn.yield l) #[] #[])
  have hW0 : Below w.heap.size w (W.alloc (.cells #[(Value.func (Fn.yield l) #[] #[])] 30)) := hW.alloc hsW _
  have hj0 : J [] Φ0 (W.alloc (.cells #[(Value.func (Fn.yield l) #[] #[])] 30)) := (HJ.out Φ0).alloc _ h0
  have hnY0 : ¬ Φ0 W.heap.size := fun h => by
    obtain ⟨_, o, ho, _⟩ := HF.out _ _ _ h0 _ h
    rw [Array.getElem?_eq_none (Nat.le_refl _)] at ho
    cases ho
  refine callsIn_of_wp_marks Try.func118 rfl trivial ?_ rfl
  simp only [Try.ntmps118, List.size_toArray, List.length_cons, List.length_nil, Nat.reduceAdd, Nat.reduceSub, Array.replicate_succ, Array.replicate_zero, List.push_toArray, List.append_toArray, List.nil_append, List.cons_append]
  gi_wp2
  have hsz0 : (W.alloc (.cells #[(Value.func (Fn.yield l) #[] #[])] 30)).heap.size = W.heap.size + 1 := by simp
  generalize W.alloc (.cells #[(Value.func (Fn.yield l) #[] #[])] 30) = W0 at *
  refine wpIn_rangeFunc_ownH rfl h1 (gf := ga) (lb := la) rfl trivial ega (HA.out (n - 1) (by omega)) belowK_t (belowK_b (by omega)) hW0 (fun _ => rfl)
    (fun pre A => ((∃ Φ, J (meetL pre ys) Φ A ∧ ¬ Φ W.heap.size) ∧ Boxed A W.heap.size 30 (Value.func (Fn.yield l) #[] #[])) ∧ Below w.heap.size w A)
    (fun _ _ _ => False)
    (OwnFrom.and (OwnFrom.and (fun pre A B row hs hg hr => by
      obtain ⟨Φ, hj, hn'⟩ := hs
      exact ⟨Φ, HJ.out Φ _ A B row hj hg (fun r e => ⟨by have := (hr r e).1; omega, (hr r e).2⟩), hn'⟩) (Own.from (boxed_own _ _ _) _)) (ownFrom_below (Nat.le_refl _) (by omega)))
    (fun _ _ _ _ _ hs _ _ => hs)
    ⟨⟨⟨Φ0, by simpa [meetL] using hj0, hnY0⟩, bY0⟩, hW0⟩
    (fun x a' A => ∃ Bx, W.heap.size < Bx ∧ Boxed2 A Bx x ∧ (∃ s Φ, J s Φ A ∧ ¬ Φ Bx) ∧ a' = { tmps := #[(Value.func (Fn.yield l) #[] #[]), (Value.pointer (some ⟨Ba, 0, none⟩)), (Value.pointer (some ⟨Bb, 0, none⟩)), (Value.pointer (some ⟨W.heap.size, 0, none⟩)), (Value.pointer (some ⟨Bx, 0, none⟩)), undef, undef, undef, (Value.func (Fn.func ga) #[] la), .agg #[.int .i64 x.1, .int .i64 x.2], undef, undef, undef, undef, undef, undef, undef, undef, undef, undef, undef, undef, undef, undef, undef], defers := [] })
    (fun x a' _ A B row hs hg hr => by
      obtain ⟨Bx, e1, e2, ⟨s, Φ, hj, hn'⟩, e3⟩ := hs
      exact ⟨Bx, e1, e2.kept hg (fun r e => (hr r e).2), ⟨s, Φ, HJ.out Φ _ A B row hj hg (fun r e => ⟨by have := (hr r e).1; omega, (hr r e).2⟩), hn'⟩, e3⟩)
    ?assign ?body ?done ?stop
  case assign =>
    rintro l1 pre x A K ⟨⟨⟨Φ, hj, hnY⟩, bY⟩, hBl⟩ hK
    obtain ⟨x1, x2⟩ := x
    have hfr : ¬ Φ A.heap.size := fun h => by
      obtain ⟨_, o, ho, _⟩ := HF.out _ _ _ hj _ h
      rw [Array.getElem?_eq_none (Nat.le_refl _)] at ho
      cases ho
    have hjA := (HJ.out Φ).alloc (.cells #[.int .i64 x1, .int .i64 x2] 24) hj
    simp only [encS]
    gi_wp2
    exact hK _ _ ((KeepsOthers.alloc _ _).from _) ((Below.refl _ A).alloc hBl.size _) ⟨⟨⟨Φ, hjA, hnY⟩, bY.alloc _⟩, hBl.alloc hBl.size _⟩ ⟨A.heap.size, bY.lt, Boxed2.new A (x1, x2), ⟨_, Φ, hjA, hfr⟩, rfl⟩
  case body =>
    rintro l1 pre x a' A hl1 ⟨r, hr⟩ ⟨⟨⟨Φ, hj, hnY⟩, bY1⟩, hBl⟩ ⟨Bx, hBx, bX, ⟨s', Φ', hj', hnX'⟩, rfl⟩ hlt
    have hΦ := HU.out _ _ _ _ _ hj' hj
    subst hΦ
    have hsA := hBl.size
    have cB := (hBl.cell (p := ⟨Bb, 0, none⟩) bB.lt).trans bB.cell
    gi_wp2
    refine range_allN (r₀ := r) hr (by omega) (gf := gb) (lb := lb) rfl egb (HB.out (n - 1 - 1 - 1) (by omega)) hBl (fun _ => rfl)
      (fun pre' Φ A' => ((((J (meetL pre ys ++ meetOne x pre') Φ A' ∧ ¬ Φ W.heap.size ∧ ¬ Φ Bx)) ∧ Boxed A' W.heap.size 30 (Value.func (Fn.yield l) #[] #[])) ∧ Boxed2 A' Bx x) ∧ (Below w.heap.size A A' ∧ KeepsFrom W0.heap.size A A'))
      (fun Φ => OwnFrom.and (OwnFrom.and (OwnFrom.and (fun pre' C B row hs hg hr => by
        obtain ⟨hj, hn'⟩ := hs
        exact ⟨HJ.out Φ _ C B row hj hg (fun r e => ⟨by have := (hr r e).1; have := bY1.lt; omega, (hr r e).2⟩), hn'⟩) (Own.from (boxed_own _ _ _) _))
        (fun _ C B row hs hg hr => hs.kept hg (fun r e => (hr r e).2))) (OwnFrom.and (ownFrom_below hsA hsA) (ownFrom_keepsFrom (Nat.le_refl _))))
      (fun s Φ A' h => HF.out _ Φ A' h.1.1.1.1) (fun s s' Φ Φ' A' h h' => HU.out _ _ Φ Φ' A' h.1.1.1.1 h'.1.1.1.1) _
      ⟨⟨⟨⟨by simpa [meetOne] using hj, hnY, hnX'⟩, bY1⟩, bX⟩, Below.refl _ _, KeepsFrom.refl _ _⟩
      (fun y a'' A' => ∃ By, Boxed2 A' By y ∧ a'' = { tmps := #[(Value.func (Fn.yield l) #[] #[]), (Value.pointer (some ⟨Ba, 0, none⟩)), (Value.pointer (some ⟨Bb, 0, none⟩)), (Value.pointer (some ⟨W.heap.size, 0, none⟩)), (Value.pointer (some ⟨Bx, 0, none⟩)), (Value.pointer (some ⟨By, 0, none⟩)), undef, undef, (Value.func (Fn.func ga) #[] la), .agg #[.int .i64 x.1, .int .i64 x.2], (Value.func (Fn.func gb) #[] lb), .agg #[.int .i64 y.1, .int .i64 y.2], undef, undef, undef, undef, undef, undef, undef, undef, undef, undef, undef, undef, undef], defers := [] })
      (fun y a'' _ C B row hs hg hr => by obtain ⟨By, e2, e3⟩ := hs; exact ⟨By, e2.kept hg (fun r e => (hr r e).2), e3⟩)
      ?assign2 ?body2 ?done2
    case assign2 =>
      rintro l2 pre' Φ y C K ⟨⟨⟨⟨hj2, hnY2, hnX2⟩, bY2⟩, bX2⟩, hB2, hK2⟩ hK
      obtain ⟨y1, y2⟩ := y
      have hjC := (HJ.out Φ).alloc (.cells #[.int .i64 y1, .int .i64 y2] 24) hj2
      have hsC := hB2.size
      simp only [encS]
      gi_wp2
      exact hK _ _ ((KeepsOthers.alloc _ _).from _) (Foot.alloc C _) ⟨⟨⟨⟨hjC, hnY2, hnX2⟩, bY2.alloc _⟩, bX2.alloc _⟩, hB2.alloc (by omega) _, hK2.trans ((KeepsOthers.alloc _ _).from _)⟩ ⟨C.heap.size, Boxed2.new C (y1, y2), rfl⟩
    case body2 =>
      rintro l2 pre' Φ y a'' C ⟨⟨⟨⟨hj2, hnY2, hnX2⟩, bY2⟩, bX2⟩, hB2, hK2⟩ ⟨By, bY3, rfl⟩ hlt2
      obtain ⟨x1, x2⟩ := x
      obtain ⟨y1, y2⟩ := y
      have cY := bY2.cell
      have cx0 := bX2.cell0
      have cx1 := bX2.cell1
      have cy0 := bY3.cell0
      have cy1 := bY3.cell1
      gi_wp2
      refine ⟨trivial, (fun h => by cases h), ?_⟩
      refine (CallsIn.inRound l2 (callsIn_wide.2 (meet_any x1 x2 y1 y2 C))).mono ?_
      rintro e C3 ⟨rfl, hb3⟩
      have hg3 : C.grownBy C3 none := ⟨hb3.os, hb3.tape, hb3.output, hb3.size, fun k hk _ => hb3.block k hk⟩
      have hj3 := HJ.out Φ _ C C3 none hj2 hg3 (fun r e => by cases e)
      have hj4 := (HJ.out Φ).alloc (.cells #[.int .i64 (mF x1 x2 y1 y2), .int .i64 (mT x1 x2 y1 y2)] 24) hj3
      have bY4 := (bY2.kept hg3 (by simp)).alloc (.cells #[.int .i64 (mF x1 x2 y1 y2), .int .i64 (mT x1 x2 y1 y2)] 24)
      have bX4 := (bX2.kept hg3 (fun r e => by cases e)).alloc (.cells #[.int .i64 (mF x1 x2 y1 y2), .int .i64 (mT x1 x2 y1 y2)] 24)
      have b4 := Boxed2.new C3 (mF x1 x2 y1 y2, mT x1 x2 y1 y2)
      have c40 := b4.cell0
      have c41 := b4.cell1
      have cY4 := bY4.cell
      have hB4 : Below w.heap.size C (C3.alloc (.cells #[.int .i64 (mF x1 x2 y1 y2), .int .i64 (mT x1 x2 y1 y2)] 24)) := (hb3.mono (by have := hB2.size; omega)).alloc (by have := hB2.size; have := hb3.size; omega) _
      have hK4 : ∀ k, KeepsFrom k C (C3.alloc (.cells #[.int .i64 (mF x1 x2 y1 y2), .int .i64 (mT x1 x2 y1 y2)] 24)) := fun k => (KeepsFrom.of_grownBy hg3 (fun j e => by cases e)).trans ((KeepsOthers.alloc _ _).from _)
      have hF4 := HF.out _ _ _ hj4
      have hFt4 : Foot Φ Φ C (C3.alloc (.cells #[.int .i64 (mF x1 x2 y1 y2), .int .i64 (mT x1 x2 y1 y2)] 24)) := (show Foot Φ Φ C C3 from ⟨hb3.os, hb3.tape, hb3.output, hb3.size, fun k hk _ => hb3.block k hk, fun _ h => .inl h⟩).trans (Foot.alloc C3 _)
      obtain ⟨fn, tmps, assign, body, hy, hR⟩ := HY.out _ Φ (mF x1 x2 y1 y2, mT x1 x2 y1 y2) _ hj4 (meet_bound _ hlt hlt2)
      simp only [encS] at hy
      cases hmB : mB x1 x2 y1 y2
      · gi_wp2
        refine ⟨(fun f e => nomatch e), ?_⟩
        gi_wp2
        refine ⟨hK4 _, Φ, hFt4, ⟨⟨⟨?_, hnY2, hnX2⟩, bY4⟩, bX4⟩, hB2.trans hB4, hK2.trans (hK4 _)⟩
        rw [meetOne_snoc, if_neg (by simp [hmB]), List.append_nil]
        exact hj4
      · gi_wp2
        refine ⟨(fun h => nomatch h), (round_deep1 hR).mono ?_⟩
        rintro e C5 ⟨rfl, Φ5, hj5, hf5⟩
        gi_wp2
        have hk5 : ∀ k, KeepsFrom k _ C5 := fun k => hf5.keeps k (fun j hj => (hF4 j hj).2)
        have hB5 := hf5.below (fun j hj => (hF4 j hj).1) (Nat.le_trans hsA (Nat.le_trans hB2.size hB4.size))
        refine ⟨(hK4 _).trans (hk5 _), Φ5, hFt4.trans hf5, ⟨⟨⟨?_, fun h => ?_, fun h => ?_⟩, (hf5.same _ bY4.lt hnY2).trans bY4⟩, (hf5.same _ bX4.lt hnX2).trans bX4⟩, hB2.trans (hB4.trans hB5), hK2.trans ((hK4 _).trans (hk5 _))⟩
        · rw [meetOne_snoc, if_pos hmB, ← List.append_assoc]
          exact hj5
        · exact (hf5.new _ h).elim hnY2 (fun h => Nat.lt_irrefl _ (Nat.lt_of_lt_of_le bY4.lt h))
        · exact (hf5.new _ h).elim hnX2 (fun h => Nat.lt_irrefl _ (Nat.lt_of_lt_of_le bX4.lt h))
    case done2 =>
      rintro Φ C ⟨⟨⟨⟨hj2, hnY2, hnX2⟩, bY2⟩, bX2⟩, hB2, hK2⟩
      gi_wp2
      exact ⟨hK2, hB2, ⟨⟨Φ, by rw [meetL_snoc]; exact hj2, hnY2⟩, bY2⟩, hBl.trans hB2⟩
  case done =>
    rintro D zs A hD rfl ⟨⟨⟨Φ, hj, hnY⟩, bY1⟩, hBl⟩ hK
    gi_wp2
    refine ⟨by simp, .inl ⟨_, _, rfl, run_takeDeferred hK, ?_⟩⟩
    exact ⟨_, results_none rfl _ _ _, ⟨_, rfl⟩, Φ, (HJ.out Φ).putObj _ hj (by omega) hK rfl⟩
  case stop =>
    rintro D c pre A _ _ h _
    exact h.elim
end Go.Proofs.Ytgclmldhdjmabab
