/-
  Walks: what is common to two iterators of spans, the second one by the wider word.
-/
import Derived.Test.YtgclmldhdjmabaaGreatLies
import Derived.Test.YtgclmldhdjmabaaGreatCommon
namespace Go.Proofs.YtgclmldhdjmabaaGreat
open Go.RowKit
section
variable {P : Program} {n : Nat}
theorem range_allN {α : Type} {g : Operand} {ps : Array Tmp} {assign body : Code} {Q : Exit → Act → World → Prop} {a : Act} {w : World} {l₀ : Nat} {r₀ : Loop} (hl₀ : w.heap[l₀]? = some (.loop r₀)) (h1 : 1 ≤ n)
    {gf : Nat} {lb : Array Value} (hg : a.eval g = .func (.func gf) #[] lb) (eg : ∀ args w, (callFunc gf args).run P w = .ok (.enter gf args) w)
    {encs : α → Array Value} {n₀ : Nat} {zs : List α} {N : Nat} {w0 : World} (hseq : SeqAll (n - 1) P gf lb encs n₀ zs N w0) (hb0 : Below w0.heap.size w0 w) (hps : ∀ x, (encs x).size = ps.size)
    (I : List α → (Nat → Prop) → World → Prop) (hI : ∀ Φ, OwnFrom w.heap.size (fun s => I s Φ)) (hF : ∀ s Φ A, I s Φ A → ∀ k, Φ k → n₀ ≤ k ∧ ∃ o : Obj, A.heap[k]? = some o ∧ o.isCells = true) (hU : ∀ s s' Φ Φ' A, I s Φ A → I s' Φ' A → Φ = Φ') (Φ0 : Nat → Prop) (h0 : I [] Φ0 w)
    (Ax : α → Act → World → Prop) (hAx : ∀ x a', OwnFrom w.heap.size (fun (_ : Unit) W => Ax x a' W))
    (hassign : ∀ (l : Nat) (pre : List α) (Φ : Nat → Prop) (x : α) (W : World) (K : Act → World → Prop), I pre Φ W → (∀ a' W', KeepsFrom w.heap.size W W' → Foot Φ Φ W W' → I pre Φ W' → Ax x a' W' → K a' W') →
      assign.wpIn (Fence.wide.inRound l) (n - 1 - 1) P (Exit.then K (fun _ _ _ => False)) { tmps := (ps.zip (encs x)).foldl (fun t (p, v) => t.setIfInBounds p v) a.tmps, defers := [] } W)
    (hbody : ∀ (l : Nat) (pre : List α) (Φ : Nat → Prop) (x : α) (a' : Act) (W : World), I pre Φ W → Ax x a' W → pre.length < N →
      body.wpIn (Fence.wide.inRound l) (n - 1 - 1) P (goesOn w.heap.size I (pre ++ [x]) Φ W) a' W)
    (hdone : ∀ (Φ : Nat → Prop) (W : World), I zs Φ W → Q .normal a W) :
    (Code.rangeFunc g ps assign body).wpIn (Fence.wide.inRound l₀) n P Q a w := by
  refine wpIn_rangeFunc fun fn hfn => ?_
  -- the loop's record, in each of its states, and the world in which the iterator is called
  let rec_ : LoopState → Loop := fun st => { state := st, pending := none, fn, tmps := a.tmps, params := ps, assign, body, defers := r₀.defers }
  let W1 : World := w.alloc (.loop (rec_ .ready))
  have sz1 : W1.heap.size = w.heap.size + 1 := by simp [W1]
  have rec1 : W1.heap[w.heap.size]? = some (.loop (rec_ .ready)) := World.alloc_heap_new w _
  have low1 : Below w0.heap.size w0 W1 := hb0.trans (((Below.refl _ w).alloc (Nat.le_refl _) _).mono hb0.size)
  refine ⟨w.heap.size, [], W1, { target := .fn (.func gf) lb, args := #[.func (.yield w.heap.size) #[] #[]] }, W1, gf,
    #[.func (.yield w.heap.size) #[] #[]] ++ lb, W1, run_enterLoop_inner hl₀ _ _ _ _ _, ?_, fun _ _ => trivial, ?_, fun _ => h1, ?_⟩
  · simp only [resolve, hg]; simp [go_sem]
  · simp [invoke, go_sem, eg]
  refine (CallsIn.inRound l₀ (hseq w.heap.size (fun pre Φ W => I pre Φ W ∧ W.heap[w.heap.size]? = some (.loop (rec_ .ready))) Φ0 W1 low1 ?_ (fun s Φ A hj => hF s Φ A hj.1) (fun s s' Φ Φ' A hj hj' => hU s s' Φ Φ' A hj.1 hj'.1) ?_ ⟨?_, rec1⟩)).mono ?_
  · -- the caller's word abides
    rintro Φ s A B row ⟨hi, hl⟩ hgr hr
    have far : ∀ k, k < w.heap.size + 1 → some k ≠ row := fun k hk e => by have := (hr k e.symm).1; omega
    exact ⟨hI Φ s A B row hi hgr (fun r e => ⟨by have := (hr r e).1; omega, (hr r e).2⟩), (hgr.block _ (Array.getElem?_eq_some_iff.1 hl).1 (far _ (by omega))).trans hl⟩
  · -- one round
    rintro pre Φ x W ⟨hi, hl⟩ hlen
    refine ⟨fn, _, assign, body, run_yield (P := P) (args := encs x) hl (hps x), roundIn_of_wpIn hfn (hassign _ pre Φ x W _ hi ?_)⟩
    intro a' Wa ka fa ia ax
    have hl' := ka.same _ _ (Nat.le_refl _) hl rfl
    have hlt : w.heap.size < Wa.heap.size := (Array.getElem?_eq_some_iff.1 hl').1
    refine ⟨_, run_beginRound hl' rfl, ?_⟩
    have hlb : (Wa.putObj w.heap.size (.loop (rec_ .busy))).heap[w.heap.size]? = some (.loop (rec_ .busy)) := World.putObj_heap_same hlt
    refine wpIn_mono (hbody _ pre Φ x a' _ ((hI Φ).putObj _ ia (Nat.le_refl _) hl' rfl) ((hAx x a').putObj (s := ()) _ ax (Nat.le_refl _) hl' rfl) hlen) ?_
    intro e a3 W3 hp
    cases e <;> first | exact (hp : False).elim | skip
    obtain ⟨k3, Φ', f3, i3⟩ := hp
    have hl3 := k3.same _ _ (Nat.le_refl _) hlb rfl
    have hlt3 := (Array.getElem?_eq_some_iff.1 hl3).1
    refine ⟨_, _, run_endRound (P := P) none hl3, rfl, Φ', ⟨(hI Φ').putObj _ i3 (Nat.le_refl _) hl3 rfl, World.putObj_heap_same hlt3⟩, ?_⟩
    have f3s : Wa.heap.size ≤ W3.heap.size := by have := f3.size; simpa [World.putObj] using this
    refine fa.trans ⟨f3.os, f3.tape, f3.output, by simpa [World.putObj] using f3s, fun k hk hn => ?_, fun k hk => ?_⟩
    · by_cases e : k = w.heap.size
      · subst e; exact (World.putObj_heap_same hlt3).trans hl'.symm
      · exact (World.putObj_heap_other e).trans ((f3.same k (by simpa [World.putObj] using hk) hn).trans (World.putObj_heap_other e))
    · exact (f3.new k hk).imp id (fun h => by simpa [World.putObj] using h)
  · exact (hI Φ0).alloc _ h0
  · -- behind the iterator
    rintro e W2 ⟨⟨v, rfl⟩, Φ, hi, hl⟩
    exact ⟨none, _, run_endLoop (P := P) hl (by simp [rec_]), hdone Φ _ ((hI Φ).putObj _ hi (Nat.le_refl _) hl rfl)⟩
end
end Go.Proofs.YtgclmldhdjmabaaGreat
namespace Go.Proofs.YtgclmldhdjmabaaGreat
open Go.RowKit Go.Shelf

attribute [local go_sem] Oper.semAt_some

/-- A round of the wide fence, met within a round. -/
theorem round_deep1 {P : Program} {l l1 m m' : Nat} {f : FuncId} {tmps : Array Value} {assign body : Code} {w : World} {R : Ending → World → Prop} (h : RoundIn Fence.wide m P l f tmps assign body w R) : RoundIn (Fence.wide.inRound l1) m' P l f tmps assign body w R :=
  ⟨h.1, fun c cs _ => h.2 c cs (room_wide _)⟩

set_option maxRecDepth 100000 in
set_option maxHeartbeats 4000000 in
theorem common1_allN (n : Nat) (hn : 8 ≤ n) (ga gb : Nat) (la lb : Array Value) (ega : ∀ args w, (callFunc ga args).run Tryz.prog w = .ok (.enter ga args) w) (egb : ∀ args w, (callFunc gb args).run Tryz.prog w = .ok (.enter gb args) w)
    (Ba Bb : Nat) (xs ys : List (Int × Int)) (w : World) (bA : Boxed w Ba 91 (.func (.func ga) #[] la)) (bB : Boxed w Bb 91 (.func (.func gb) #[] lb))
    (hA : ∀ m, 1 ≤ m → SeqStopsK Fence.wide m Tryz.prog ga la encS (Below w.heap.size) (fun zs => zs = xs) (fun pre => pre <+: xs) xs.length w)
    (hB : ∀ m, 1 ≤ m → SeqAll m Tryz.prog gb lb encS w.heap.size ys ys.length w) :
    SeqAll n Tryz.prog 91 #[.pointer (some ⟨Ba, 0, none⟩), .pointer (some ⟨Bb, 0, none⟩)] encS w.heap.size (meetL xs ys) (xs.length * ys.length) w := by
  intro l J Φ0 W hW hJ hF hU hY h0
  have h1 : 1 ≤ n := by omega
  have HA := Lib.hid hA
  have HB := Lib.hid hB
  have HJ := Lib.hid hJ
  have HF := Lib.hid hF
  have HU := Lib.hid hU
  have HY := Lib.hid hY
  clear hA hB hJ hF hU hY
  have hsW := hW.size
  have hBaW : Ba < W.heap.size := Nat.lt_of_lt_of_le bA.lt hsW
  have cA := (hW.cell (p := ⟨Ba, 0, none⟩) bA.lt).trans bA.cell
  have bY0 := Boxed.new W 64 (Value.func (Fn.yield l) #[] #[])
  have hW0 : Below w.heap.size w (W.alloc (.cells #[(Value.func (Fn.yield l) #[] #[])] 64)) := hW.alloc hsW _
  have hj0 : J [] Φ0 (W.alloc (.cells #[(Value.func (Fn.yield l) #[] #[])] 64)) := (HJ.out Φ0).alloc _ h0
  have hnY0 : ¬ Φ0 W.heap.size := fun h => by
    obtain ⟨_, o, ho, _⟩ := HF.out _ _ _ h0 _ h
    rw [Array.getElem?_eq_none (Nat.le_refl _)] at ho
    cases ho
  refine callsIn_of_wp_marks Tryz.func91 rfl trivial ?_ rfl
  simp only [Tryz.ntmps91, List.size_toArray, List.length_cons, List.length_nil, Nat.reduceAdd, Nat.reduceSub, Array.replicate_succ, Array.replicate_zero, List.push_toArray, List.append_toArray, List.nil_append, List.cons_append]
  gi_wp2
  have hsz0 : (W.alloc (.cells #[(Value.func (Fn.yield l) #[] #[])] 64)).heap.size = W.heap.size + 1 := by simp
  generalize W.alloc (.cells #[(Value.func (Fn.yield l) #[] #[])] 64) = W0 at *
  refine wpIn_rangeFunc_ownH rfl h1 (gf := ga) (lb := la) rfl trivial ega (HA.out (n - 1) (by omega)) belowK_t (belowK_b (by omega)) hW0 (fun _ => rfl)
    (fun pre A => ((∃ Φ, J (meetL pre ys) Φ A ∧ ¬ Φ W.heap.size) ∧ Boxed A W.heap.size 64 (Value.func (Fn.yield l) #[] #[])) ∧ Below w.heap.size w A)
    (fun _ _ _ => False)
    (OwnFrom.and (OwnFrom.and (fun pre A B row hs hg hr => by
      obtain ⟨Φ, hj, hn'⟩ := hs
      exact ⟨Φ, HJ.out Φ _ A B row hj hg (fun r e => ⟨by have := (hr r e).1; omega, (hr r e).2⟩), hn'⟩) (Own.from (boxed_own _ _ _) _)) (ownFrom_below (Nat.le_refl _) (by omega)))
    (fun _ _ _ _ _ hs _ _ => hs)
    ⟨⟨⟨Φ0, by simpa [meetL] using hj0, hnY0⟩, bY0⟩, hW0⟩
    (fun x a' A => ∃ Bx, W.heap.size < Bx ∧ Boxed2 A Bx x ∧ (∃ s Φ, J s Φ A ∧ ¬ Φ Bx) ∧ a' = { tmps := #[(Value.func (Fn.yield l) #[] #[]), (Value.pointer (some ⟨Ba, 0, none⟩)), (Value.pointer (some ⟨Bb, 0, none⟩)), (Value.pointer (some ⟨W.heap.size, 0, none⟩)), (Value.pointer (some ⟨Bx, 0, none⟩)), undef, undef, undef, (Value.func (Fn.func ga) #[] la), .agg #[.int .i64 x.1, .int .i64 x.2], undef, undef, undef, undef, undef, undef, undef, undef, undef, undef, undef, undef, undef, undef, undef], defers := [] })
    (fun x a' _ A B row hs hg hr => by
      obtain ⟨Bx, e1, e2, ⟨s, Φ, hj, hn'⟩, e3⟩ := hs
      exact ⟨Bx, e1, e2.kept hg (fun r e => (hr r e).2), ⟨s, Φ, HJ.out Φ _ A B row hj hg (fun r e => ⟨by have := (hr r e).1; omega, (hr r e).2⟩), hn'⟩, e3⟩)
    ?assign ?body ?done ?stop
  case assign =>
    rintro l1 pre x A K ⟨⟨⟨Φ, hj, hnY⟩, bY⟩, hBl⟩ hK
    obtain ⟨x1, x2⟩ := x
    have hfr : ¬ Φ A.heap.size := fun h => by
      obtain ⟨_, o, ho, _⟩ := HF.out _ _ _ hj _ h
      rw [Array.getElem?_eq_none (Nat.le_refl _)] at ho
      cases ho
    have hjA := (HJ.out Φ).alloc (.cells #[.int .i64 x1, .int .i64 x2] 25) hj
    simp only [encS]
    gi_wp2
    exact hK _ _ ((KeepsOthers.alloc _ _).from _) ((Below.refl _ A).alloc hBl.size _) ⟨⟨⟨Φ, hjA, hnY⟩, bY.alloc _⟩, hBl.alloc hBl.size _⟩ ⟨A.heap.size, bY.lt, Boxed2.new A (x1, x2), ⟨_, Φ, hjA, hfr⟩, rfl⟩
  case body =>
    rintro l1 pre x a' A hl1 ⟨r, hr⟩ ⟨⟨⟨Φ, hj, hnY⟩, bY1⟩, hBl⟩ ⟨Bx, hBx, bX, ⟨s', Φ', hj', hnX'⟩, rfl⟩ hlt
    have hΦ := HU.out _ _ _ _ _ hj' hj
    subst hΦ
    have hsA := hBl.size
    have cB := (hBl.cell (p := ⟨Bb, 0, none⟩) bB.lt).trans bB.cell
    gi_wp2
    refine range_allN (r₀ := r) hr (by omega) (gf := gb) (lb := lb) rfl egb (HB.out (n - 1 - 1 - 1) (by omega)) hBl (fun _ => rfl)
      (fun pre' Φ A' => ((((J (meetL pre ys ++ meetOne x pre') Φ A' ∧ ¬ Φ W.heap.size ∧ ¬ Φ Bx)) ∧ Boxed A' W.heap.size 64 (Value.func (Fn.yield l) #[] #[])) ∧ Boxed2 A' Bx x) ∧ (Below w.heap.size A A' ∧ KeepsFrom W0.heap.size A A'))
      (fun Φ => OwnFrom.and (OwnFrom.and (OwnFrom.and (fun pre' C B row hs hg hr => by
        obtain ⟨hj, hn'⟩ := hs
        exact ⟨HJ.out Φ _ C B row hj hg (fun r e => ⟨by have := (hr r e).1; have := bY1.lt; omega, (hr r e).2⟩), hn'⟩) (Own.from (boxed_own _ _ _) _))
        (fun _ C B row hs hg hr => hs.kept hg (fun r e => (hr r e).2))) (OwnFrom.and (ownFrom_below hsA hsA) (ownFrom_keepsFrom (Nat.le_refl _))))
      (fun s Φ A' h => HF.out _ Φ A' h.1.1.1.1) (fun s s' Φ Φ' A' h h' => HU.out _ _ Φ Φ' A' h.1.1.1.1 h'.1.1.1.1) _
      ⟨⟨⟨⟨by simpa [meetOne] using hj, hnY, hnX'⟩, bY1⟩, bX⟩, Below.refl _ _, KeepsFrom.refl _ _⟩
      (fun y a'' A' => ∃ By, Boxed2 A' By y ∧ a'' = { tmps := #[(Value.func (Fn.yield l) #[] #[]), (Value.pointer (some ⟨Ba, 0, none⟩)), (Value.pointer (some ⟨Bb, 0, none⟩)), (Value.pointer (some ⟨W.heap.size, 0, none⟩)), (Value.pointer (some ⟨Bx, 0, none⟩)), (Value.pointer (some ⟨By, 0, none⟩)), undef, undef, (Value.func (Fn.func ga) #[] la), .agg #[.int .i64 x.1, .int .i64 x.2], (Value.func (Fn.func gb) #[] lb), .agg #[.int .i64 y.1, .int .i64 y.2], undef, undef, undef, undef, undef, undef, undef, undef, undef, undef, undef, undef, undef], defers := [] })
      (fun y a'' _ C B row hs hg hr => by obtain ⟨By, e2, e3⟩ := hs; exact ⟨By, e2.kept hg (fun r e => (hr r e).2), e3⟩)
      ?assign2 ?body2 ?done2
    case assign2 =>
      rintro l2 pre' Φ y C K ⟨⟨⟨⟨hj2, hnY2, hnX2⟩, bY2⟩, bX2⟩, hB2, hK2⟩ hK
      obtain ⟨y1, y2⟩ := y
      have hjC := (HJ.out Φ).alloc (.cells #[.int .i64 y1, .int .i64 y2] 25) hj2
      have hsC := hB2.size
      simp only [encS]
      gi_wp2
      exact hK _ _ ((KeepsOthers.alloc _ _).from _) (Foot.alloc C _) ⟨⟨⟨⟨hjC, hnY2, hnX2⟩, bY2.alloc _⟩, bX2.alloc _⟩, hB2.alloc (by omega) _, hK2.trans ((KeepsOthers.alloc _ _).from _)⟩ ⟨C.heap.size, Boxed2.new C (y1, y2), rfl⟩
    case body2 =>
      rintro l2 pre' Φ y a'' C ⟨⟨⟨⟨hj2, hnY2, hnX2⟩, bY2⟩, bX2⟩, hB2, hK2⟩ ⟨By, bY3, rfl⟩ hlt2
      obtain ⟨x1, x2⟩ := x
      obtain ⟨y1, y2⟩ := y
      have cY := bY2.cell
      have cx0 := bX2.cell0
      have cx1 := bX2.cell1
      have cy0 := bY3.cell0
      have cy1 := bY3.cell1
      gi_wp2
      refine ⟨trivial, (fun h => by cases h), ?_⟩
      refine (CallsIn.inRound l2 (callsIn_wide.2 (meet_any x1 x2 y1 y2 C))).mono ?_
      rintro e C3 ⟨rfl, hb3⟩
      have hg3 : C.grownBy C3 none := ⟨hb3.os, hb3.tape, hb3.output, hb3.size, fun k hk _ => hb3.block k hk⟩
      have hj3 := HJ.out Φ _ C C3 none hj2 hg3 (fun r e => by cases e)
      have hj4 := (HJ.out Φ).alloc (.cells #[.int .i64 (mF x1 x2 y1 y2), .int .i64 (mT x1 x2 y1 y2)] 25) hj3
      have bY4 := (bY2.kept hg3 (by simp)).alloc (.cells #[.int .i64 (mF x1 x2 y1 y2), .int .i64 (mT x1 x2 y1 y2)] 25)
      have bX4 := (bX2.kept hg3 (fun r e => by cases e)).alloc (.cells #[.int .i64 (mF x1 x2 y1 y2), .int .i64 (mT x1 x2 y1 y2)] 25)
      have b4 := Boxed2.new C3 (mF x1 x2 y1 y2, mT x1 x2 y1 y2)
      have c40 := b4.cell0
      have c41 := b4.cell1
      have cY4 := bY4.cell
      have hB4 : Below w.heap.size C (C3.alloc (.cells #[.int .i64 (mF x1 x2 y1 y2), .int .i64 (mT x1 x2 y1 y2)] 25)) := (hb3.mono (by have := hB2.size; omega)).alloc (by have := hB2.size; have := hb3.size; omega) _
      have hK4 : ∀ k, KeepsFrom k C (C3.alloc (.cells #[.int .i64 (mF x1 x2 y1 y2), .int .i64 (mT x1 x2 y1 y2)] 25)) := fun k => (KeepsFrom.of_grownBy hg3 (fun j e => by cases e)).trans ((KeepsOthers.alloc _ _).from _)
      have hF4 := HF.out _ _ _ hj4
      have hFt4 : Foot Φ Φ C (C3.alloc (.cells #[.int .i64 (mF x1 x2 y1 y2), .int .i64 (mT x1 x2 y1 y2)] 25)) := (show Foot Φ Φ C C3 from ⟨hb3.os, hb3.tape, hb3.output, hb3.size, fun k hk _ => hb3.block k hk, fun _ h => .inl h⟩).trans (Foot.alloc C3 _)
      obtain ⟨fn, tmps, assign, body, hy, hR⟩ := HY.out _ Φ (mF x1 x2 y1 y2, mT x1 x2 y1 y2) _ hj4 (meet_bound _ hlt hlt2)
      simp only [encS] at hy
      cases hmB : mB x1 x2 y1 y2
      · gi_wp2
        refine ⟨(fun f e => nomatch e), ?_⟩
        gi_wp2
        refine ⟨hK4 _, Φ, hFt4, ⟨⟨⟨?_, hnY2, hnX2⟩, bY4⟩, bX4⟩, hB2.trans hB4, hK2.trans (hK4 _)⟩
        rw [meetOne_snoc, if_neg (by simp [hmB]), List.append_nil]
        exact hj4
      · gi_wp2
        refine ⟨(fun h => nomatch h), (round_deep1 hR).mono ?_⟩
        rintro e C5 ⟨rfl, Φ5, hj5, hf5⟩
        gi_wp2
        have hk5 : ∀ k, KeepsFrom k _ C5 := fun k => hf5.keeps k (fun j hj => (hF4 j hj).2)
        have hB5 := hf5.below (fun j hj => (hF4 j hj).1) (Nat.le_trans hsA (Nat.le_trans hB2.size hB4.size))
        refine ⟨(hK4 _).trans (hk5 _), Φ5, hFt4.trans hf5, ⟨⟨⟨?_, fun h => ?_, fun h => ?_⟩, (hf5.same _ bY4.lt hnY2).trans bY4⟩, (hf5.same _ bX4.lt hnX2).trans bX4⟩, hB2.trans (hB4.trans hB5), hK2.trans ((hK4 _).trans (hk5 _))⟩
        · rw [meetOne_snoc, if_pos hmB, ← List.append_assoc]
          exact hj5
        · exact (hf5.new _ h).elim hnY2 (fun h => Nat.lt_irrefl _ (Nat.lt_of_lt_of_le bY4.lt h))
        · exact (hf5.new _ h).elim hnX2 (fun h => Nat.lt_irrefl _ (Nat.lt_of_lt_of_le bX4.lt h))
    case done2 =>
      rintro Φ C ⟨⟨⟨⟨hj2, hnY2, hnX2⟩, bY2⟩, bX2⟩, hB2, hK2⟩
      gi_wp2
      exact ⟨hK2, hB2, ⟨⟨Φ, by rw [meetL_snoc]; exact hj2, hnY2⟩, bY2⟩, hBl.trans hB2⟩
  case done =>
    rintro D zs A hD rfl ⟨⟨⟨Φ, hj, hnY⟩, bY1⟩, hBl⟩ hK
    gi_wp2
    refine ⟨by simp, .inl ⟨_, _, rfl, run_takeDeferred hK, ?_⟩⟩
    exact ⟨_, results_none rfl _ _ _, ⟨_, rfl⟩, Φ, (HJ.out Φ).putObj _ hj (by omega) hK rfl⟩
  case stop =>
    rintro D c pre A _ _ h _
    exact h.elim
end Go.Proofs.YtgclmldhdjmabaaGreat
