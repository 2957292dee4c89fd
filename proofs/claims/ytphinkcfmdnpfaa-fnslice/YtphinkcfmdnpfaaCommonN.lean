/-
  Walks: what is common to two iterators of spans, the second one by the wider word.
-/
import Derived.Test.YtphinkcfmdnpfaaLies
import Derived.Test.YtphinkcfmdnpfaaCommon
namespace Go.Proofs.Ytphinkcfmdnpfaa
open Go.RowKit
section
variable {P : Program} {n : Nat}
theorem range_allN {α : Type} {g : Operand} {ps : Array Tmp} {assign body : Code} {Q : Exit → Act → World → Prop} {a : Act} {w : World} {l₀ : Nat} {r₀ : Loop} (hl₀ : w.heap[l₀]? = some (.loop r₀)) (h1 : 1 ≤ n)
    {gf : Nat} {lb : Array Value} (hg : a.eval g = .func (.func gf) #[] lb) (eg : ∀ args w, (callFunc gf args).run P w = .ok (.enter gf args) w)
    {encs : α → Array Value} {n₀ : Nat} {zs : List α} {N : Nat} {w0 : World} (hseq : SeqAll (n - 1) P gf lb encs n₀ zs N w0) (hb0 : Below w0.heap.size w0 w) (hps : ∀ x, (encs x).size = ps.size)
    (I : List α → (Nat → Prop) → World → Prop) (hI : ∀ Φ, OwnFrom w.heap.size (fun s => I s Φ)) (hF : ∀ s Φ A, I s Φ A → ∀ k, Φ k → n₀ ≤ k ∧ ∃ o : Obj, A.heap[k]? = some o ∧ o.isCells = true) (hU : ∀ s s' Φ Φ' A, I s Φ A → I s' Φ' A → Φ = Φ') (Φ0 : Nat → Prop) (h0 : I [] Φ0 w)
    (Ax : α → Act → World → Prop) (hAx : ∀ x a', OwnFrom w.heap.size (fun (_ : Unit) W => Ax x a' W))
    (hassign : ∀ (l : Nat) (pre : List α) (Φ : Nat → Prop) (x : α) (W : World) (K : Act → World → Prop), I pre Φ W → (∀ a' W', KeepsFrom w.heap.size W W' → Foot Φ Φ W W' → I pre Φ W' → Ax x a' W' → K a' W') →
      assign.wpIn (Fence.wide.inRound l) (n - 1 - 1) P (Exit.then K (fun _ _ _ => False)) { tmps := (ps.zip (encs x)).foldl (fun t (p, v) => t.setIfInBounds p v) a.tmps, defers := [] } W)
    (hbody : ∀ (l : Nat) (pre : List α) (Φ : Nat → Prop) (x : α) (a' : Act) (W : World), I pre Φ W → Ax x a' W → pre.length < N →
      body.wpIn (Fence.wide.inRound l) (n - 1 - 1) P (goesOn w.heap.size I (pre ++ [x]) Φ W) a' W)
    (hdone : ∀ (Φ : Nat → Prop) (W : World), I zs Φ W → Q .normal a W) :
    (Code.rangeFunc g ps assign body).wpIn (Fence.wide.inRound l₀) n P Q a w := by
  refine wpIn_rangeFunc fun fn hfn => ?_
  -- the loop's record, in each of its states, and the world in which the iterator is called
  let rec_ : LoopState → Loop := fun st => { state := st, pending := none, fn, tmps := a.tmps, params := ps, assign, body, defers := r₀.defers }
  let W1 : World := w.alloc (.loop (rec_ .ready))
  have sz1 : W1.heap.size = w.heap.size + 1 := by simp [W1]
  have rec1 : W1.heap[w.heap.size]? = some (.loop (rec_ .ready)) := World.alloc_heap_new w _
  have low1 : Below w0.heap.size w0 W1 := hb0.trans (((Below.refl _ w).alloc (Nat.le_refl _) _).mono hb0.size)
  refine ⟨w.heap.size, [], W1, { target := .fn (.func gf) lb, args := #[.func (.yield w.heap.size) #[] #[]] }, W1, gf,
    #[.func (.yield w.heap.size) #[] #[]] ++ lb, W1, run_enterLoop_inner hl₀ _ _ _ _ _, ?_, fun _ _ => trivial, ?_, fun _ => h1, ?_⟩
  · simp only [resolve, hg]; simp [go_sem]
  · simp [invoke, go_sem, eg]
  refine (CallsIn.inRound l₀ (hseq w.heap.size (fun pre Φ W => I pre Φ W ∧ W.heap[w.heap.size]? = some (.loop (rec_ .ready))) Φ0 W1 low1 ?_ (fun s Φ A hj => hF s Φ A hj.1) (fun s s' Φ Φ' A hj hj' => hU s s' Φ Φ' A hj.1 hj'.1) ?_ ⟨?_, rec1⟩)).mono ?_
  · -- the caller's word abides
    rintro Φ s A B row ⟨hi, hl⟩ hgr hr
    have far : ∀ k, k < w.heap.size + 1 → some k ≠ row := fun k hk e => by have := (hr k e.symm).1; omega
    exact ⟨hI Φ s A B row hi hgr (fun r e => ⟨by have := (hr r e).1; omega, (hr r e).2⟩), (hgr.block _ (Array.getElem?_eq_some_iff.1 hl).1 (far _ (by omega))).trans hl⟩
  · -- one round
    rintro pre Φ x W ⟨hi, hl⟩ hlen
    refine ⟨fn, _, assign, body, run_yield (P := P) (args := encs x) hl (hps x), roundIn_of_wpIn hfn (hassign _ pre Φ x W _ hi ?_)⟩
    intro a' Wa ka fa ia ax
    have hl' := ka.same _ _ (Nat.le_refl _) hl rfl
    have hlt : w.heap.size < Wa.heap.size := (Array.getElem?_eq_some_iff.1 hl').1
    refine ⟨_, run_beginRound hl' rfl, ?_⟩
    have hlb : (Wa.putObj w.heap.size (.loop (rec_ .busy))).heap[w.heap.size]? = some (.loop (rec_ .busy)) := World.putObj_heap_same hlt
    refine wpIn_mono (hbody _ pre Φ x a' _ ((hI Φ).putObj _ ia (Nat.le_refl _) hl' rfl) ((hAx x a').putObj (s := ()) _ ax (Nat.le_refl _) hl' rfl) hlen) ?_
    intro e a3 W3 hp
    cases e <;> first | exact (hp : False).elim | skip
    obtain ⟨k3, Φ', f3, i3⟩ := hp
    have hl3 := k3.same _ _ (Nat.le_refl _) hlb rfl
    have hlt3 := (Array.getElem?_eq_some_iff.1 hl3).1
    refine ⟨_, _, run_endRound (P := P) none hl3, rfl, Φ', ⟨(hI Φ').putObj _ i3 (Nat.le_refl _) hl3 rfl, World.putObj_heap_same hlt3⟩, ?_⟩
    have f3s : Wa.heap.size ≤ W3.heap.size := by have := f3.size; simpa [World.putObj] using this
    refine fa.trans ⟨f3.os, f3.tape, f3.output, by simpa [World.putObj] using f3s, fun k hk hn => ?_, fun k hk => ?_⟩
    · by_cases e : k = w.heap.size
      · subst e; exact (World.putObj_heap_same hlt3).trans hl'.symm
      · exact (World.putObj_heap_other e).trans ((f3.same k (by simpa [World.putObj] using hk) hn).trans (World.putObj_heap_other e))
    · exact (f3.new k hk).imp id (fun h => by simpa [World.putObj] using h)
  · exact (hI Φ0).alloc _ h0
  · -- behind the iterator
    rintro e W2 ⟨⟨v, rfl⟩, Φ, hi, hl⟩
    exact ⟨none, _, run_endLoop (P := P) hl (by simp [rec_]), hdone Φ _ ((hI Φ).putObj _ hi (Nat.le_refl _) hl rfl)⟩
end
end Go.Proofs.Ytphinkcfmdnpfaa
namespace Go.Proofs.Ytphinkcfmdnpfaa
open Go.RowKit Go.Shelf

attribute [local go_sem] Oper.semAt_some

/-- A round of the wide fence, met within a round. -/
theorem round_deep1 {P : Program} {l l1 m m' : Nat} {f : FuncId} {tmps : Array Value} {assign body : Code} {w : World} {R : Ending → World → Prop} (h : RoundIn Fence.wide m P l f tmps assign body w R) : RoundIn (Fence.wide.inRound l1) m' P l f tmps assign body w R :=
  ⟨h.1, fun c cs _ => h.2 c cs (room_wide _)⟩

end Go.Proofs.Ytphinkcfmdnpfaa
