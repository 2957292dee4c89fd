/-
  Walks: slices.AppendSeq and slices.Collect over whatever iterator of spans has its contract.
-/
import Derived.Test.YtfolppahdmkaoaaLies
import Derived.Test.YtfolppahdmkaoaaAddL
import Derived.Maps.AppendAt
namespace Go.Proofs.Ytfolppahdmkaoaa
open Go.RowKit Go.Shelf

attribute [local go_sem] Oper.semAt_some

/-- A block that holds a span. -/
def Boxed2 (W : World) (B : Nat) (x : Int × Int) : Prop := W.heap[B]? = some (.cells #[.int .i64 x.1, .int .i64 x.2] 43 (0, 0))
theorem Boxed2.lt {W : World} {B : Nat} {x : Int × Int} (h : Boxed2 W B x) : B < W.heap.size := (Array.getElem?_eq_some_iff.1 h).1
theorem Boxed2.cell0 {W : World} {B : Nat} {x : Int × Int} (h : Boxed2 W B x) : W.cell? ⟨B, 0, none⟩ = some (.int .i64 x.1) := by simp [World.cell?, show W.heap[B]? = _ from h]
theorem Boxed2.cell1 {W : World} {B : Nat} {x : Int × Int} (h : Boxed2 W B x) : W.cell? ⟨B, 1, none⟩ = some (.int .i64 x.2) := by simp [World.cell?, show W.heap[B]? = _ from h]
theorem Boxed2.new (W : World) (x : Int × Int) : Boxed2 (W.alloc (.cells #[.int .i64 x.1, .int .i64 x.2] 43)) W.heap.size x := World.alloc_heap_new W _
theorem Boxed2.kept {W W' : World} {row : Option Nat} {B : Nat} {x : Int × Int} (h : Boxed2 W B x) (hg : W.grownBy W' row) (hr : ∀ r, row = some r → ∃ o : Obj, W.heap[r]? = some o ∧ o.isCells = false) : Boxed2 W' B x :=
  (hg.block B h.lt (fun e => by
    obtain ⟨o, ho, hc⟩ := hr B e.symm
    rw [show W.heap[B]? = _ from h] at ho
    cases ho
    cases hc)).trans h
theorem Boxed2.alloc {W : World} {B : Nat} {x : Int × Int} (h : Boxed2 W B x) (o : Obj) : Boxed2 (W.alloc o) B x := h.kept (World.grownBy_alloc W o none) (fun r e => by cases e)

def Coll (w : World) (zs : List (Int × Int)) (e : Ending) (W' : World) : Prop :=
  ∃ v, e = .returned v ∧ W'.ownsRow w.heap.size 43 2 v zs.length (flat zs) ∧ (v = .slice none 0 0 ↔ zs = []) ∧ Below w.heap.size w W'

set_option maxRecDepth 100000 in
set_option maxHeartbeats 2000000 in
theorem AppendSeq_in (n : Nat) (hn : 3 ≤ n) (gf : Nat) (lb : Array Value) (zs : List (Int × Int)) (N : Nat) (hl : N ≤ 4194304) (n₀ : Nat) (w0 w : World)
    (hseq : SeqAll (n - 1) Try.prog gf lb encS n₀ zs N w0) (hb0 : Below w0.heap.size w0 w) (hn₀ : n₀ ≤ w.heap.size)
    (eg : ∀ args w, (callFunc gf args).run Try.prog w = .ok (.enter gf args) w) :
    CallsIn Fence.wide n Try.prog 99 #[.slice none 0 0, .func (.func gf) #[] lb] w (Coll w zs) := by
  have h1 : 1 ≤ n := by omega
  obtain ⟨i0, hi, hz0, hz1, hz2⟩ := info_parts Try.info43
  refine callsIn_of_wp_marks Try.func99 rfl trivial ?_ rfl
  simp only [Try.ntmps99, List.size_toArray, List.length_cons, List.length_nil, Nat.reduceAdd, Nat.reduceSub, Array.replicate_succ, Array.replicate_zero, List.push_toArray, List.append_toArray, List.nil_append, List.cons_append]
  gi_wp2
  have bO := Boxed.new w 36 (.slice none 0 0)
  have hB0 : Below w.heap.size w (w.alloc (.cells #[.slice none 0 0] 36)) := (Below.refl _ w).alloc (Nat.le_refl _) _
  refine range_all h1 (gf := gf) (lb := lb) rfl eg hseq (hb0.trans (hB0.mono hb0.size)) (fun _ => rfl)
    (fun pre Φ W => (∃ v, Boxed W w.heap.size 36 v ∧ W.ownsRow w.heap.size 43 2 v pre.length (flat pre) ∧ ((v = .slice none 0 0 ↔ pre = []) ∧ Φ = fun k => k = w.heap.size ∨ v.ownBlock = some k)) ∧ Below w.heap.size w W)
    (fun Φ => OwnFrom.and (Own.from (holdsRow_own w.heap.size w.heap.size 36 43 2 (fun pre => pre.length) (fun pre => flat pre) (fun pre v => (v = .slice none 0 0 ↔ pre = []) ∧ Φ = fun k => k = w.heap.size ∨ v.ownBlock = some k)) _) (ownFrom_below (Nat.le_refl _) (by simp)))
    ?foot (fun s s' Φ Φ' A h h' => by
      obtain ⟨⟨v, bv, _, _, rfl⟩, _⟩ := h
      obtain ⟨⟨v', bv', _, _, rfl⟩, _⟩ := h'
      have : v = v' := by have := bv.cell.symm.trans bv'.cell; injection this
      rw [this]) (fun k => k = w.heap.size ∨ (Value.slice none 0 0).ownBlock = some k)
    ⟨⟨_, bO, World.ownsRow_nil _ _ _ _, by simp, rfl⟩, hB0⟩
    (fun x a' W => ∃ Bx, w.heap.size < Bx ∧ Boxed2 W Bx x ∧ a' = { tmps := #[.slice none 0 0, .func (.func gf) #[] lb, .pointer (some ⟨w.heap.size, 0, none⟩), undef, .slice none 0 0, .pointer (some ⟨Bx, 0, none⟩), .func (.func gf) #[] lb, .agg #[.int .i64 x.1, .int .i64 x.2], undef, undef, undef, undef, undef], defers := [] })
    (fun x a' _ X Y row hs hg hr => by obtain ⟨Bx, e1, e2, e3⟩ := hs; exact ⟨Bx, e1, e2.kept hg (fun r e => (hr r e).2), e3⟩)
    ?assign ?body ?done
  case foot =>
    rintro pre Φ A ⟨⟨v, bv, hrow, hnil, rfl⟩, hB⟩ k hk
    rcases hk with rfl | hk
    · exact ⟨hn₀, _, bv, rfl⟩
    · rcases hrow.2 with ⟨rfl, _⟩ | ⟨g, c, cur, rfl, h2, h3, _⟩
      · simp [Value.ownBlock] at hk
      · have : g = k := by simpa [Value.ownBlock] using hk
        subst this
        exact ⟨Nat.le_trans hn₀ h2, _, h3, rfl⟩
  case assign =>
    rintro l pre Φ x W K ⟨⟨v, bv, hrow, hnil, hΦ⟩, hB⟩ hK
    obtain ⟨x1, x2⟩ := x
    have HΦ := Lib.hid hΦ
    clear hΦ
    simp only [encS]
    gi_wp2
    exact hK _ _ ((KeepsOthers.alloc _ _).from _) (Foot.alloc W _) ⟨⟨v, bv.alloc _, hrow.alloc _, hnil, HΦ.out⟩, hB.alloc hB.size _⟩ ⟨W.heap.size, bv.lt, Boxed2.new W (x1, x2), rfl⟩
  case body =>
    rintro l pre Φ x a' W ⟨⟨v, hv, hrow, hnil, hΦ⟩, hB⟩ ⟨Bx, hBx, bX, rfl⟩ hlt
    obtain ⟨x1, x2⟩ := x
    have HΦ := Lib.hid hΦ
    clear hΦ
    have hc := hv.cell
    have c0 := bX.cell0
    have c1 := bX.cell1
    gi_wp2_with (gi_at_builtin; refine appendIn_lies _ rfl _ _ 36 rfl w.heap.size 43 i0 _ 2 16 Try.underlying36 hi hz0 hz1 hz2 rfl (by decide) _ _ _ rfl (hrow.alloc _) ⟨W.heap.size, 0, none⟩ 1 1 [.int .i64 x1, .int .i64 x2] rfl rfl (news_two (by simp) (by simp)) (by simp [Value.oneCell']) (by decide) (by unfold maxLen; omega) (by omega) (by have := hB.size; simp; omega) ?_; intro g' cap' w1 hown' hgrow hat; obtain ⟨hv1, hv2, hr2, hk2, hb2⟩ := hv.appended (by decide) hrow hB.size (Nat.le_refl _) hown' hgrow; have hc1 := hv1.cell; have hf1 := hv1.frozen)
    refine ⟨hk2.from _, _, ?_, ⟨_, hv2, owns_snoc hr2 rfl, by simp, rfl⟩, hB.trans hb2⟩
    have hlt' := hv.lt
    refine ⟨hgrow.os, hgrow.tape, hgrow.output, ?_, ?_, ?_⟩
    · have := hgrow.size; simp [World.setCell] at this ⊢; omega
    · intro k hk hn
      rw [HΦ.out] at hn
      have h1' : k ≠ w.heap.size := fun e => hn (.inl e)
      have h2' : some k ≠ v.ownBlock := fun e => hn (.inr e.symm)
      rw [Below.heap_setCell _ _ _ _ h1', hgrow.block k (by simp; omega) h2', Below.heap_alloc W _ k hk]
    · intro k hk
      rw [HΦ.out]
      rcases hk with e | e
      · exact .inl (.inl e)
      · have e' : g' = k := by simpa [Value.ownBlock] using e
        subst e'
        rcases hat with h | h
        · exact .inl (.inr h)
        · exact .inr (by rw [h]; simp)
  case done =>
    rintro D Φ W hD ⟨⟨v, hv, hrow, hnil, _⟩, hB⟩ hK
    have hc := hv.cell
    gi_wp2
    refine ⟨by simp, .inl ⟨_, _, rfl, run_takeDeferred hK, ?_⟩⟩
    exact ⟨_, results_tmp rfl _ _ _, v, rfl, ownsRow_putObj hrow _ hK rfl, hnil, hB.trans (belowK_b (w := w) (Nat.le_refl _) W D _ _ (by simp at hD; omega) hK rfl rfl)⟩

set_option maxHeartbeats 1000000 in
theorem Collect_in (n : Nat) (hn : 3 ≤ n) (gf : Nat) (lb : Array Value) (zs : List (Int × Int)) (N : Nat) (hl : N ≤ 4194304) (n₀ : Nat) (w0 w : World)
    (hseq : SeqAll (n - 1) Try.prog gf lb encS n₀ zs N w0) (hb0 : Below w0.heap.size w0 w) (hn₀ : n₀ ≤ w.heap.size)
    (eg : ∀ args w, (callFunc gf args).run Try.prog w = .ok (.enter gf args) w) :
    Calls Try.prog 94 #[.func (.func gf) #[] lb] w (Coll w zs) := by
  have hA := (callsIn_wide (n := n)).1 (AppendSeq_in n hn gf lb zs N hl n₀ w0 w hseq hb0 hn₀ eg)
  have HA := Lib.hid hA
  clear hA hseq eg
  go_enter Try.func94, Try.ntmps94
  go_wp2_with fail
  refine HA.out.mono ?_
  rintro e w1 ⟨v, rfl, ho, hv, hb⟩
  have Ho := Lib.hid ho
  have Hv := Lib.hid hv
  clear ho hv
  go_wp2
  go_ret
  exact ⟨v, rfl, Ho.out, Hv.out, hb⟩
end Go.Proofs.Ytfolppahdmkaoaa
