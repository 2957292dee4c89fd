/-
  A law: append in a round, and where the new row lies. No program is named here.
-/
import Derived.Test.YtphinkcfmdnpfaaSets
import Derived.RangeFuncNested
import Derived.RangeFuncBound
import Derived.RangeFuncCalls
import Derived.RangeFuncLeaves
import Derived.Shelf.Abstract
import Derived.Shelf.RegionOpen
import Derived.WalkKit
import Derived.OwnWalkIn
import Derived.TacticsInMore
import Derived.LoopNIn
import Derived.LoopIn
import Derived.RangeFuncBox
import Derived.Lib.Hide
import Derived.Deep.AppendLies
namespace Go.Proofs.Ytphinkcfmdnpfaa
open Go.RowKit Go.Shelf

attribute [local go_sem] Oper.semAt_some

/-- a span as a value -/
def encS (p : Int × Int) : Array Value := #[.agg #[.int .i64 p.1, .int .i64 p.2]]

theorem abides_alloc {β : Type} {B : Nat} {J : β → World → Prop} (h : AbidesFrom B J) {s : β} {W : World} (o : Obj) (hJ : J s W) : J s (W.alloc o) :=
  h s W (W.alloc o) none hJ (World.grownBy_alloc W o none) (fun r e => by cases e)

end Go.Proofs.Ytphinkcfmdnpfaa
namespace Go.Proofs.Ytphinkcfmdnpfaa
open Go.RowKit

/-- What a round does: blocks outside its foot lie as they lay; its new foot is its old one, or new. -/
structure Foot (Φ Φ' : Nat → Prop) (W W' : World) : Prop where
  os : W'.os = W.os
  tape : W'.tape = W.tape
  output : W'.output = W.output
  size : W.heap.size ≤ W'.heap.size
  same : ∀ k, k < W.heap.size → ¬ Φ k → W'.heap[k]? = W.heap[k]?
  new : ∀ k, Φ' k → Φ k ∨ W.heap.size ≤ k

theorem Foot.trans {Φ Φ' Φ'' : Nat → Prop} {A B C : World} (h : Foot Φ Φ' A B) (k : Foot Φ' Φ'' B C) : Foot Φ Φ'' A C :=
  ⟨k.os.trans h.os, k.tape.trans h.tape, k.output.trans h.output, Nat.le_trans h.size k.size, fun j hj hn => (k.same j (Nat.lt_of_lt_of_le hj h.size) (fun hp => (h.new j hp).elim hn (fun h' => by omega))).trans (h.same j hj hn),
    fun j hp => (k.new j hp).elim (fun hp' => h.new j hp') (fun h' => .inr (Nat.le_trans h.size h'))⟩
theorem Foot.below {Φ Φ' : Nat → Prop} {W W' : World} {n₀ : Nat} (h : Foot Φ Φ' W W') (hΦ : ∀ k, Φ k → n₀ ≤ k) (hn : n₀ ≤ W.heap.size) : Below n₀ W W' :=
  ⟨h.os, h.tape, h.output, h.size, fun k hk => h.same k (by omega) (fun hp => by have := hΦ k hp; omega)⟩
theorem Foot.alloc {Φ : Nat → Prop} (W : World) (o : Obj) : Foot Φ Φ W (W.alloc o) := ⟨rfl, rfl, rfl, by simp, fun k hk _ => Below.heap_alloc W o k hk, fun _ h => .inl h⟩

/-- The iterator hands on all of zs, in order, to whatever yield goes on each time. J: its caller's word, Φ: its caller's foot. -/
def SeqAll {α : Type} (n : Nat) (P : Program) (g : Nat) (lb : Array Value) (encs : α → Array Value) (n₀ : Nat) (zs : List α) (N : Nat) (w : World) : Prop :=
  ∀ (l : Nat) (J : List α → (Nat → Prop) → World → Prop) (Φ0 : Nat → Prop) (W : World), Below w.heap.size w W → (∀ Φ, OwnFrom W.heap.size (fun s => J s Φ)) →
    (∀ s Φ A, J s Φ A → ∀ k, Φ k → n₀ ≤ k ∧ ∃ o : Obj, A.heap[k]? = some o ∧ o.isCells = true) → (∀ s s' Φ Φ' A, J s Φ A → J s' Φ' A → Φ = Φ') →
    (∀ pre Φ x A, J pre Φ A → pre.length < N → YieldAt Fence.wide (n - 1) P l (encs x) A fun e A' => e = .returned (.bool true) ∧ ∃ Φ', J (pre ++ [x]) Φ' A' ∧ Foot Φ Φ' A A') →
    J [] Φ0 W → CallsIn Fence.wide n P g (#[.func (.yield l) #[] #[]] ++ lb) W fun e W' => (∃ v, e = .returned v) ∧ ∃ Φ, J zs Φ W'

/-- What has its contract by the library's word has it by this one. -/
theorem seqAll_of_stops {α : Type} {n : Nat} {P : Program} {g : Nat} {lb : Array Value} {encs : α → Array Value} {n₀ : Nat} {zs : List α} {Sp : List α → Prop} {w : World} (hn : n₀ ≤ w.heap.size)
    (h : SeqStopsK Fence.wide n P g lb encs (Below n₀) (fun ys => ys = zs) Sp zs.length w) : SeqAll n P g lb encs n₀ zs zs.length w := fun l J Φ0 W hW hJ hF _ hY h0 =>
  (h l (fun s A => n₀ ≤ A.heap.size ∧ ∃ Φ, J s Φ A) (fun _ _ => False) W hW
    (fun s A B row hs hg hr => by
      obtain ⟨hz, Φ, hj⟩ := hs
      exact ⟨Nat.le_trans hz hg.size, Φ, hJ Φ s A B row hj hg (fun r e => by obtain ⟨h1, o, h2, h3⟩ := hr r e; exact ⟨h1, o, h2, Obj.not_cells_of_walk h3⟩)⟩)
    (fun _ _ _ _ hs _ _ => hs)
    (fun pre x A hj hl => by
      obtain ⟨hz, Φ, hj⟩ := hj
      exact (hY pre Φ x A hj hl).mono fun e A' ⟨he, Φ', hj', hf⟩ => .inl ⟨he, ⟨Nat.le_trans hz hf.size, Φ', hj'⟩, hf.below (fun k hk => (hF _ _ _ hj k hk).1) hz⟩)
    ⟨Nat.le_trans hn hW.size, Φ0, h0⟩).mono fun e W' ⟨hv, hR⟩ => ⟨hv, by
      rcases hR with ⟨xs, rfl, _, Φ, hj⟩ | ⟨pre, _, hf⟩
      · exact ⟨Φ, hj⟩
      · exact hf.elim⟩

/-- How a round is left: it goes on. -/
def goesOn {α : Type} (B : Nat) (I : List α → (Nat → Prop) → World → Prop) (xs : List α) (Φ : Nat → Prop) (W : World) : Exit → Act → World → Prop
  | .normal, _, W' => KeepsFrom B W W' ∧ ∃ Φ', Foot Φ Φ' W W' ∧ I xs Φ' W'
  | _, _, _ => False

section
variable {P : Program} {n : Nat}

theorem range_all {α : Type} {g : Operand} {ps : Array Tmp} {assign body : Code} {Q : Exit → Act → World → Prop} {a : Act} {w : World} (h1 : 1 ≤ n)
    {gf : Nat} {lb : Array Value} (hg : a.eval g = .func (.func gf) #[] lb) (eg : ∀ args w, (callFunc gf args).run P w = .ok (.enter gf args) w)
    {encs : α → Array Value} {n₀ : Nat} {zs : List α} {N : Nat} {w0 : World} (hseq : SeqAll (n - 1) P gf lb encs n₀ zs N w0) (hb0 : Below w0.heap.size w0 w) (hps : ∀ x, (encs x).size = ps.size)
    (I : List α → (Nat → Prop) → World → Prop) (hI : ∀ Φ, OwnFrom w.heap.size (fun s => I s Φ)) (hF : ∀ s Φ A, I s Φ A → ∀ k, Φ k → n₀ ≤ k ∧ ∃ o : Obj, A.heap[k]? = some o ∧ o.isCells = true) (hU : ∀ s s' Φ Φ' A, I s Φ A → I s' Φ' A → Φ = Φ') (Φ0 : Nat → Prop) (h0 : I [] Φ0 w)
    (Ax : α → Act → World → Prop) (hAx : ∀ x a', OwnFrom w.heap.size (fun (_ : Unit) W => Ax x a' W))
    (hassign : ∀ (l : Nat) (pre : List α) (Φ : Nat → Prop) (x : α) (W : World) (K : Act → World → Prop), I pre Φ W → (∀ a' W', KeepsFrom w.heap.size W W' → Foot Φ Φ W W' → I pre Φ W' → Ax x a' W' → K a' W') →
      assign.wpIn (Fence.wide.inRound l) (n - 1 - 1) P (Exit.then K (fun _ _ _ => False)) { tmps := (ps.zip (encs x)).foldl (fun t (p, v) => t.setIfInBounds p v) a.tmps, defers := [] } W)
    (hbody : ∀ (l : Nat) (pre : List α) (Φ : Nat → Prop) (x : α) (a' : Act) (W : World), I pre Φ W → Ax x a' W → pre.length < N →
      body.wpIn (Fence.wide.inRound l) (n - 1 - 1) P (goesOn w.heap.size I (pre ++ [x]) Φ W) a' W)
    (hdone : ∀ (D : Nat) (Φ : Nat → Prop) (W : World), w.heap.size ≤ D → I zs Φ W → W.heap[D]? = some (.deferred (some [])) → Q .normal { a with defers := { target := .collected D, args := #[] } :: a.defers } W) :
    (Code.rangeFunc g ps assign body).wpIn Fence.wide n P Q a w := by
  refine wpIn_rangeFunc fun fn hfn => ?_
  -- the loop's record, in each of its states, and the world in which the iterator is called
  let rec_ : LoopState → Loop := fun st => { state := st, pending := none, fn, tmps := a.tmps, params := ps, assign, body, defers := w.heap.size }
  let W1 : World := (w.alloc (.deferred (some []))).alloc (.loop (rec_ .ready))
  have sz1 : W1.heap.size = w.heap.size + 2 := by simp [W1]
  have rec1 : W1.heap[w.heap.size + 1]? = some (.loop (rec_ .ready)) := by
    have := World.alloc_heap_new (w.alloc (.deferred (some []))) (.loop (rec_ .ready)); rwa [World.size_alloc] at this
  have def1 : W1.heap[w.heap.size]? = some (.deferred (some [])) := (Below.heap_alloc _ _ _ (by simp)).trans (World.alloc_heap_new w _)
  have low1 : Below w0.heap.size w0 W1 := hb0.trans ((((Below.refl _ w).alloc (Nat.le_refl _) _).alloc (by simp) _).mono hb0.size)
  refine ⟨w.heap.size + 1, [{ target := .collected w.heap.size, args := #[] }], W1, { target := .fn (.func gf) lb, args := #[.func (.yield (w.heap.size + 1)) #[] #[]] }, W1, gf,
    #[.func (.yield (w.heap.size + 1)) #[] #[]] ++ lb, W1, run_enterLoop_outer _ _ _ _ _, ?_, fun _ _ => trivial, ?_, fun _ => h1, ?_⟩
  · simp only [resolve, hg]; simp [go_sem]
  · simp [invoke, go_sem, eg]
  refine (hseq (w.heap.size + 1) (fun pre Φ W => I pre Φ W ∧ W.heap[w.heap.size + 1]? = some (.loop (rec_ .ready)) ∧ W.heap[w.heap.size]? = some (.deferred (some []))) Φ0 W1 low1 ?_ (fun s Φ A hj => hF s Φ A hj.1) (fun s s' Φ Φ' A hj hj' => hU s s' Φ Φ' A hj.1 hj'.1) ?_ ⟨?_, rec1, def1⟩).mono ?_
  · -- the caller's word abides
    rintro Φ s A B row ⟨hi, hl, hd⟩ hgr hr
    have far : ∀ k, k < w.heap.size + 2 → some k ≠ row := fun k hk e => by have := (hr k e.symm).1; omega
    refine ⟨hI Φ s A B row hi hgr (fun r e => ⟨by have := (hr r e).1; omega, (hr r e).2⟩), ?_, ?_⟩
    · exact (hgr.block _ (Array.getElem?_eq_some_iff.1 hl).1 (far _ (by omega))).trans hl
    · exact (hgr.block _ (Array.getElem?_eq_some_iff.1 hd).1 (far _ (by omega))).trans hd
  · -- one round
    rintro pre Φ x W ⟨hi, hl, hd⟩ hlen
    refine ⟨fn, _, assign, body, run_yield (P := P) (args := encs x) hl (hps x), roundIn_of_wpIn hfn (hassign _ pre Φ x W _ hi ?_)⟩
    intro a' Wa ka fa ia ax
    have hl' := ka.same _ _ (by omega) hl rfl
    have hd' := ka.same _ _ (Nat.le_refl _) hd rfl
    have hlt : w.heap.size + 1 < Wa.heap.size := (Array.getElem?_eq_some_iff.1 hl').1
    refine ⟨_, run_beginRound hl' rfl, ?_⟩
    have hlb : (Wa.putObj (w.heap.size + 1) (.loop (rec_ .busy))).heap[w.heap.size + 1]? = some (.loop (rec_ .busy)) := World.putObj_heap_same hlt
    have hdb : (Wa.putObj (w.heap.size + 1) (.loop (rec_ .busy))).heap[w.heap.size]? = some (.deferred (some [])) := (World.putObj_heap_other (by omega)).trans hd'
    refine wpIn_mono (hbody _ pre Φ x a' _ ((hI Φ).putObj _ ia (by omega) hl' rfl) ((hAx x a').putObj (s := ()) _ ax (by omega) hl' rfl) hlen) ?_
    intro e a3 W3 hp
    cases e <;> first | exact (hp : False).elim | skip
    obtain ⟨k3, Φ', f3, i3⟩ := hp
    have hl3 := k3.same _ _ (by omega) hlb rfl
    have hd3 := k3.same _ _ (Nat.le_refl _) hdb rfl
    have hlt3 := (Array.getElem?_eq_some_iff.1 hl3).1
    refine ⟨_, _, run_endRound (P := P) none hl3, rfl, Φ', ⟨(hI Φ').putObj _ i3 (by omega) hl3 rfl, World.putObj_heap_same hlt3, (World.putObj_heap_other (by omega)).trans hd3⟩, ?_⟩
    have f3s : Wa.heap.size ≤ W3.heap.size := by have := f3.size; simpa [World.putObj] using this
    refine fa.trans ⟨f3.os, f3.tape, f3.output, by simpa [World.putObj] using f3s, fun k hk hn => ?_, fun k hk => ?_⟩
    · by_cases e : k = w.heap.size + 1
      · subst e; exact (World.putObj_heap_same hlt3).trans hl'.symm
      · exact (World.putObj_heap_other e).trans ((f3.same k (by simpa [World.putObj] using hk) hn).trans (World.putObj_heap_other e))
    · exact (f3.new k hk).imp id (fun h => by simpa [World.putObj] using h)
  · exact (hI Φ0).alloc _ ((hI Φ0).alloc _ h0)
  · -- behind the iterator
    rintro e W2 ⟨⟨v, rfl⟩, Φ, hi, hl, hd⟩
    exact ⟨none, _, run_endLoop (P := P) hl (by simp [rec_]), hdone _ Φ _ (Nat.le_refl _) ((hI Φ).putObj _ hi (by omega) hl rfl) ((World.putObj_heap_other (by omega)).trans hd)⟩
/-- A round of the wide fence, met within two rounds. -/
theorem round_deep {l l1 l2 m m' : Nat} {f : FuncId} {tmps : Array Value} {assign body : Code} {w : World} {R : Ending → World → Prop} (h : RoundIn Fence.wide m P l f tmps assign body w R) : RoundIn ((Fence.wide.inRound l1).inRound l2) m' P l f tmps assign body w R :=
  ⟨h.1, fun c cs _ => h.2 c cs (room_wide _)⟩
end
end Go.Proofs.Ytphinkcfmdnpfaa
namespace Go.Proofs.Ytphinkcfmdnpfaa
open Go.RowKit

theorem appendIn_lies {F : Fence} {n : Nat} {P : Program} (w : World) {ops : Array Oper} {rest : List Oper} {o : Oper} {a : Act} {Q : Exit → Act → World → Prop}
    (hg : o.guard = none) (s x : Operand) (t : TypeId) (hop : o.op = Op.call { callee := Callee.builtin Builtin.append, args := #[s, x], argTypes := #[t, t] })
    (base : Nat) (e : TypeId) (i : TypeInfo) (z : Value) (size bytes : Nat) (h1 : P.underlying t = some (.slice e)) (h2 : P.info? e = some i) (h3 : i.zero = some z) (h4 : i.size = size) (h5 : i.bytes = bytes) (h6 : z.cells.size = size) (h7 : 0 < size)
    (v : Value) (k : Nat) (xs : List Value) (hs : a.eval s = v) (hown : w.ownsRow base e size v k xs) (ad : Addr) (m c : Nat) (news : List Value) (hx : a.eval x = .slice (some ad) m c) (hn : news.length = m * size)
    (hc : ∀ j u, news[j]? = some u → w.cell? (ad.add j) = some u) (h1c : ∀ u ∈ news, u.oneCell' = true) (hm : 0 < m) (b1 : k + m ≤ maxLen) (b2 : (k + m) * bytes ≤ 140737488355328) (b3 : base ≤ w.heap.size)
    (hK : ∀ g cap w', w'.ownsRow base e size (.slice (some ⟨g, 0, none⟩) (k + m) cap) (k + m) (xs ++ news) → w.grownBy w' v.ownBlock → (v.ownBlock = some g ∨ g = w.heap.size) → wpListIn F n P ops Q rest (a.put o.dst (.slice (some ⟨g, 0, none⟩) (k + m) cap)) w') :
    wpListIn F n P ops Q (o :: rest) a w := by
  refine wpListIn_plain hg fun K hK' => ?_
  obtain ⟨g, cap, w', hrun, r1, r2, r3, _⟩ := run_append_lies (P := P) w t o.type base e i z size bytes h1 h2 h3 h4 h5 h6 h7 v k xs hown ad m c news hn hc h1c hm b1 b2 b3 w.heap.size rfl
  unfold Oper.wpIn
  refine ⟨?_, ?_⟩
  · simp [Oper.about, hop, resolve, Target.leads, Sem.run_pure]
  · rw [Oper.semAt_plain F _ _ (by rw [hop]; intro c hc'; cases hc')]
    simp [execOp, hop, resolve, invoke, builtin, hs, hx, hrun, Result.andThen]
    exact hK' _ _ (hK g cap w' r1 r2 r3)
end Go.Proofs.Ytphinkcfmdnpfaa
