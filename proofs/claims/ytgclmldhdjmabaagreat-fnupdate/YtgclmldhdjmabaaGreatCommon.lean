/-
  Walks: what is common to two iterators of spans.
-/
import Derived.Test.YtgclmldhdjmabaaGreatLies
import Derived.Test.YtgclmldhdjmabaaGreatAddL
import Derived.Maps.AppendAt
namespace Go.Proofs.YtgclmldhdjmabaaGreat
open Go.RowKit Go.Shelf

attribute [local go_sem] Oper.semAt_some

/-- A block that holds a span. -/
def Boxed2 (W : World) (B : Nat) (x : Int × Int) : Prop := W.heap[B]? = some (.cells #[.int .i64 x.1, .int .i64 x.2] 25 (0, 0))
theorem Boxed2.lt {W : World} {B : Nat} {x : Int × Int} (h : Boxed2 W B x) : B < W.heap.size := (Array.getElem?_eq_some_iff.1 h).1
theorem Boxed2.cell0 {W : World} {B : Nat} {x : Int × Int} (h : Boxed2 W B x) : W.cell? ⟨B, 0, none⟩ = some (.int .i64 x.1) := by simp [World.cell?, show W.heap[B]? = _ from h]
theorem Boxed2.cell1 {W : World} {B : Nat} {x : Int × Int} (h : Boxed2 W B x) : W.cell? ⟨B, 1, none⟩ = some (.int .i64 x.2) := by simp [World.cell?, show W.heap[B]? = _ from h]
theorem Boxed2.new (W : World) (x : Int × Int) : Boxed2 (W.alloc (.cells #[.int .i64 x.1, .int .i64 x.2] 25)) W.heap.size x := World.alloc_heap_new W _
theorem Boxed2.kept {W W' : World} {row : Option Nat} {B : Nat} {x : Int × Int} (h : Boxed2 W B x) (hg : W.grownBy W' row) (hr : ∀ r, row = some r → ∃ o : Obj, W.heap[r]? = some o ∧ o.isCells = false) : Boxed2 W' B x :=
  (hg.block B h.lt (fun e => by
    obtain ⟨o, ho, hc⟩ := hr B e.symm
    rw [show W.heap[B]? = _ from h] at ho
    cases ho
    cases hc)).trans h
theorem Boxed2.alloc {W : World} {B : Nat} {x : Int × Int} (h : Boxed2 W B x) (o : Obj) : Boxed2 (W.alloc o) B x := h.kept (World.grownBy_alloc W o none) (fun r e => by cases e)

def Coll (w : World) (zs : List (Int × Int)) (e : Ending) (W' : World) : Prop :=
  ∃ v, e = .returned v ∧ W'.ownsRow w.heap.size 25 2 v zs.length (flat zs) ∧ (v = .slice none 0 0 ↔ zs = []) ∧ Below w.heap.size w W'

set_option maxRecDepth 100000 in
set_option maxHeartbeats 2000000 in
theorem AppendSeq_in (n : Nat) (hn : 3 ≤ n) (gf : Nat) (lb : Array Value) (zs : List (Int × Int)) (N : Nat) (hl : N ≤ 4194304) (n₀ : Nat) (w0 w : World)
    (hseq : SeqAll (n - 1) Tryz.prog gf lb encS n₀ zs N w0) (hb0 : Below w0.heap.size w0 w) (hn₀ : n₀ ≤ w.heap.size)
    (eg : ∀ args w, (callFunc gf args).run Tryz.prog w = .ok (.enter gf args) w) :
    CallsIn Fence.wide n Tryz.prog 86 #[.slice none 0 0, .func (.func gf) #[] lb] w (Coll w zs) := by
  have h1 : 1 ≤ n := by omega
  obtain ⟨i0, hi, hz0, hz1, hz2⟩ := info_parts Tryz.info25
  refine callsIn_of_wp_marks Tryz.func86 rfl trivial ?_ rfl
  simp only [Tryz.ntmps86, List.size_toArray, List.length_cons, List.length_nil, Nat.reduceAdd, Nat.reduceSub, Array.replicate_succ, Array.replicate_zero, List.push_toArray, List.append_toArray, List.nil_append, List.cons_append]
  gi_wp2
  have bO := Boxed.new w 36 (.slice none 0 0)
  have hB0 : Below w.heap.size w (w.alloc (.cells #[.slice none 0 0] 36)) := (Below.refl _ w).alloc (Nat.le_refl _) _
  refine range_all h1 (gf := gf) (lb := lb) rfl eg hseq (hb0.trans (hB0.mono hb0.size)) (fun _ => rfl)
    (fun pre Φ W => (∃ v, Boxed W w.heap.size 36 v ∧ W.ownsRow w.heap.size 25 2 v pre.length (flat pre) ∧ ((v = .slice none 0 0 ↔ pre = []) ∧ Φ = fun k => k = w.heap.size ∨ v.ownBlock = some k)) ∧ Below w.heap.size w W)
    (fun Φ => OwnFrom.and (Own.from (holdsRow_own w.heap.size w.heap.size 36 25 2 (fun pre => pre.length) (fun pre => flat pre) (fun pre v => (v = .slice none 0 0 ↔ pre = []) ∧ Φ = fun k => k = w.heap.size ∨ v.ownBlock = some k)) _) (ownFrom_below (Nat.le_refl _) (by simp)))
    ?foot (fun s s' Φ Φ' A h h' => by
      obtain ⟨⟨v, bv, _, _, rfl⟩, _⟩ := h
      obtain ⟨⟨v', bv', _, _, rfl⟩, _⟩ := h'
      have : v = v' := by have := bv.cell.symm.trans bv'.cell; injection this
      rw [this]) (fun k => k = w.heap.size ∨ (Value.slice none 0 0).ownBlock = some k)
    ⟨⟨_, bO, World.ownsRow_nil _ _ _ _, by simp, rfl⟩, hB0⟩
    (fun x a' W => ∃ Bx, w.heap.size < Bx ∧ Boxed2 W Bx x ∧ a' = { tmps := #[.slice none 0 0, .func (.func gf) #[] lb, .pointer (some ⟨w.heap.size, 0, none⟩), undef, .slice none 0 0, .pointer (some ⟨Bx, 0, none⟩), .func (.func gf) #[] lb, .agg #[.int .i64 x.1, .int .i64 x.2], undef, undef, undef, undef, undef], defers := [] })
    (fun x a' _ X Y row hs hg hr => by obtain ⟨Bx, e1, e2, e3⟩ := hs; exact ⟨Bx, e1, e2.kept hg (fun r e => (hr r e).2), e3⟩)
    ?assign ?body ?done
  case foot =>
    rintro pre Φ A ⟨⟨v, bv, hrow, hnil, rfl⟩, hB⟩ k hk
    rcases hk with rfl | hk
    · exact ⟨hn₀, _, bv, rfl⟩
    · rcases hrow.2 with ⟨rfl, _⟩ | ⟨g, c, cur, rfl, h2, h3, _⟩
      · simp [Value.ownBlock] at hk
      · have : g = k := by simpa [Value.ownBlock] using hk
        subst this
        exact ⟨Nat.le_trans hn₀ h2, _, h3, rfl⟩
  case assign =>
    rintro l pre Φ x W K ⟨⟨v, bv, hrow, hnil, hΦ⟩, hB⟩ hK
    obtain ⟨x1, x2⟩ := x
    have HΦ := Lib.hid hΦ
    clear hΦ
    simp only [encS]
    gi_wp2
    exact hK _ _ ((KeepsOthers.alloc _ _).from _) (Foot.alloc W _) ⟨⟨v, bv.alloc _, hrow.alloc _, hnil, HΦ.out⟩, hB.alloc hB.size _⟩ ⟨W.heap.size, bv.lt, Boxed2.new W (x1, x2), rfl⟩
  case body =>
    rintro l pre Φ x a' W ⟨⟨v, hv, hrow, hnil, hΦ⟩, hB⟩ ⟨Bx, hBx, bX, rfl⟩ hlt
    obtain ⟨x1, x2⟩ := x
    have HΦ := Lib.hid hΦ
    clear hΦ
    have hc := hv.cell
    have c0 := bX.cell0
    have c1 := bX.cell1
    gi_wp2_with (gi_at_builtin; refine appendIn_lies _ rfl _ _ 36 rfl w.heap.size 25 i0 _ 2 16 Tryz.underlying36 hi hz0 hz1 hz2 rfl (by decide) _ _ _ rfl (hrow.alloc _) ⟨W.heap.size, 0, none⟩ 1 1 [.int .i64 x1, .int .i64 x2] rfl rfl (news_two (by simp) (by simp)) (by simp [Value.oneCell']) (by decide) (by unfold maxLen; omega) (by omega) (by have := hB.size; simp; omega) ?_; intro g' cap' w1 hown' hgrow hat; obtain ⟨hv1, hv2, hr2, hk2, hb2⟩ := hv.appended (by decide) hrow hB.size (Nat.le_refl _) hown' hgrow; have hc1 := hv1.cell; have hf1 := hv1.frozen)
    refine ⟨hk2.from _, _, ?_, ⟨_, hv2, owns_snoc hr2 rfl, by simp, rfl⟩, hB.trans hb2⟩
    have hlt' := hv.lt
    refine ⟨hgrow.os, hgrow.tape, hgrow.output, ?_, ?_, ?_⟩
    · have := hgrow.size; simp [World.setCell] at this ⊢; omega
    · intro k hk hn
      rw [HΦ.out] at hn
      have h1' : k ≠ w.heap.size := fun e => hn (.inl e)
      have h2' : some k ≠ v.ownBlock := fun e => hn (.inr e.symm)
      rw [Below.heap_setCell _ _ _ _ h1', hgrow.block k (by simp; omega) h2', Below.heap_alloc W _ k hk]
    · intro k hk
      rw [HΦ.out]
      rcases hk with e | e
      · exact .inl (.inl e)
      · have e' : g' = k := by simpa [Value.ownBlock] using e
        subst e'
        rcases hat with h | h
        · exact .inl (.inr h)
        · exact .inr (by rw [h]; simp)
  case done =>
    rintro D Φ W hD ⟨⟨v, hv, hrow, hnil, _⟩, hB⟩ hK
    have hc := hv.cell
    gi_wp2
    refine ⟨by simp, .inl ⟨_, _, rfl, run_takeDeferred hK, ?_⟩⟩
    exact ⟨_, results_tmp rfl _ _ _, v, rfl, ownsRow_putObj hrow _ hK rfl, hnil, hB.trans (belowK_b (w := w) (Nat.le_refl _) W D _ _ (by simp at hD; omega) hK rfl rfl)⟩

set_option maxHeartbeats 1000000 in
theorem Collect_in (n : Nat) (hn : 3 ≤ n) (gf : Nat) (lb : Array Value) (zs : List (Int × Int)) (N : Nat) (hl : N ≤ 4194304) (n₀ : Nat) (w0 w : World)
    (hseq : SeqAll (n - 1) Tryz.prog gf lb encS n₀ zs N w0) (hb0 : Below w0.heap.size w0 w) (hn₀ : n₀ ≤ w.heap.size)
    (eg : ∀ args w, (callFunc gf args).run Tryz.prog w = .ok (.enter gf args) w) :
    Calls Tryz.prog 78 #[.func (.func gf) #[] lb] w (Coll w zs) := by
  have hA := (callsIn_wide (n := n)).1 (AppendSeq_in n hn gf lb zs N hl n₀ w0 w hseq hb0 hn₀ eg)
  have HA := Lib.hid hA
  clear hA hseq eg
  go_enter Tryz.func78, Tryz.ntmps78
  go_wp2_with fail
  refine HA.out.mono ?_
  rintro e w1 ⟨v, rfl, ho, hv, hb⟩
  have Ho := Lib.hid ho
  have Hv := Lib.hid hv
  clear ho hv
  go_wp2
  go_ret
  exact ⟨v, rfl, Ho.out, Hv.out, hb⟩
end Go.Proofs.YtgclmldhdjmabaaGreat
namespace Go.Proofs.YtgclmldhdjmabaaGreat
open Go.RowKit Go.Shelf

attribute [local go_sem] Oper.semAt_some

def meetOne (x : Int × Int) : List (Int × Int) → List (Int × Int)
  | [] => []
  | y :: ys => if mB x.1 x.2 y.1 y.2 then (mF x.1 x.2 y.1 y.2, mT x.1 x.2 y.1 y.2) :: meetOne x ys else meetOne x ys
def meetL (xs ys : List (Int × Int)) : List (Int × Int) := xs.flatMap fun x => meetOne x ys
theorem meetOne_snoc (x y : Int × Int) : ∀ l : List (Int × Int), meetOne x (l ++ [y]) = meetOne x l ++ (if mB x.1 x.2 y.1 y.2 then [(mF x.1 x.2 y.1 y.2, mT x.1 x.2 y.1 y.2)] else [])
  | [] => by simp [meetOne]
  | z :: l => by
    simp only [List.cons_append, meetOne, meetOne_snoc x y l]
    split <;> rfl
theorem meetL_snoc (xs ys : List (Int × Int)) (x : Int × Int) : meetL (xs ++ [x]) ys = meetL xs ys ++ meetOne x ys := by simp [meetL]

theorem meetOne_len (x : Int × Int) : ∀ l : List (Int × Int), (meetOne x l).length ≤ l.length
  | [] => by simp [meetOne]
  | z :: l => by
    have := meetOne_len x l
    simp only [meetOne]
    split <;> simp <;> omega
theorem meetL_len (ys : List (Int × Int)) : ∀ xs : List (Int × Int), (meetL xs ys).length ≤ xs.length * ys.length
  | [] => by simp [meetL]
  | x :: xs => by
    have h1 := meetL_len ys xs
    have h2 := meetOne_len x ys
    have e : meetL (x :: xs) ys = meetOne x ys ++ meetL xs ys := by simp [meetL]
    rw [e, List.length_append, List.length_cons, Nat.succ_mul]
    omega
theorem meet_bound {xs ys pre pre' : List (Int × Int)} (x : Int × Int) (h : pre.length < xs.length) (h' : pre'.length < ys.length) : (meetL pre ys ++ meetOne x pre').length < xs.length * ys.length := by
  have h1 := meetL_len ys pre
  have h2 := meetOne_len x pre'
  have h3 : (pre.length + 1) * ys.length ≤ xs.length * ys.length := Nat.mul_le_mul_right _ h
  rw [Nat.succ_mul] at h3
  rw [List.length_append]
  omega
theorem Foot.keeps {Φ Φ' : Nat → Prop} {A B : World} (h : Foot Φ Φ' A B) (n : Nat) (hF : ∀ k, Φ k → ∃ o : Obj, A.heap[k]? = some o ∧ o.isCells = true) : KeepsFrom n A B :=
  ⟨h.size, fun k o _ hk ho => (h.same k (Array.getElem?_eq_some_iff.1 hk).1 (fun hp => by
    obtain ⟨o', h1, h2⟩ := hF k hp
    rw [hk] at h1; cases h1; rw [ho] at h2; cases h2)).trans hk⟩

set_option maxHeartbeats 400000 in
theorem common_any (fa fb : Value) (w : World) (ha : fa.oneCell' = true) (hb : fb.oneCell' = true) :
    Calls Tryz.prog 84 #[fa, fb] w fun e w' => e = .returned (.func (.func 91) #[] #[.pointer (some ⟨w.heap.size, 0, none⟩), .pointer (some ⟨w.heap.size + 1, 0, none⟩)]) ∧ w' = (w.alloc (.cells #[fa] 91)).alloc (.cells #[fb] 91) := by
  go_enter Tryz.func84, Tryz.ntmps84
  go_wp2
  go_ret
  exact ⟨rfl, rfl⟩

set_option maxRecDepth 100000 in
set_option maxHeartbeats 4000000 in
theorem common1_all (n : Nat) (hn : 8 ≤ n) (ga gb : Nat) (la lb : Array Value) (ega : ∀ args w, (callFunc ga args).run Tryz.prog w = .ok (.enter ga args) w) (egb : ∀ args w, (callFunc gb args).run Tryz.prog w = .ok (.enter gb args) w)
    (Ba Bb : Nat) (xs ys : List (Int × Int)) (w : World) (bA : Boxed w Ba 91 (.func (.func ga) #[] la)) (bB : Boxed w Bb 91 (.func (.func gb) #[] lb))
    (hA : ∀ m, 1 ≤ m → SeqStopsK Fence.wide m Tryz.prog ga la encS (Below w.heap.size) (fun zs => zs = xs) (fun pre => pre <+: xs) xs.length w)
    (hB : ∀ m, 1 ≤ m → SeqStopsK Fence.wide m Tryz.prog gb lb encS (Below w.heap.size) (fun zs => zs = ys) (fun pre => pre <+: ys) ys.length w) :
    SeqAll n Tryz.prog 91 #[.pointer (some ⟨Ba, 0, none⟩), .pointer (some ⟨Bb, 0, none⟩)] encS w.heap.size (meetL xs ys) (xs.length * ys.length) w := by
  intro l J Φ0 W hW hJ hF hU hY h0
  have h1 : 1 ≤ n := by omega
  have HA := Lib.hid hA
  have HB := Lib.hid hB
  have HJ := Lib.hid hJ
  have HF := Lib.hid hF
  have HU := Lib.hid hU
  have HY := Lib.hid hY
  clear hA hB hJ hF hU hY
  have hsW := hW.size
  have hBaW : Ba < W.heap.size := Nat.lt_of_lt_of_le bA.lt hsW
  have cA := (hW.cell (p := ⟨Ba, 0, none⟩) bA.lt).trans bA.cell
  have bY0 := Boxed.new W 64 (Value.func (Fn.yield l) #[] #[])
  have hW0 : Below w.heap.size w (W.alloc (.cells #[(Value.func (Fn.yield l) #[] #[])] 64)) := hW.alloc hsW _
  have hj0 : J [] Φ0 (W.alloc (.cells #[(Value.func (Fn.yield l) #[] #[])] 64)) := (HJ.out Φ0).alloc _ h0
  have hnY0 : ¬ Φ0 W.heap.size := fun h => by
    obtain ⟨_, o, ho, _⟩ := HF.out _ _ _ h0 _ h
    rw [Array.getElem?_eq_none (Nat.le_refl _)] at ho
    cases ho
  refine callsIn_of_wp_marks Tryz.func91 rfl trivial ?_ rfl
  simp only [Tryz.ntmps91, List.size_toArray, List.length_cons, List.length_nil, Nat.reduceAdd, Nat.reduceSub, Array.replicate_succ, Array.replicate_zero, List.push_toArray, List.append_toArray, List.nil_append, List.cons_append]
  gi_wp2
  have hsz0 : (W.alloc (.cells #[(Value.func (Fn.yield l) #[] #[])] 64)).heap.size = W.heap.size + 1 := by simp
  generalize W.alloc (.cells #[(Value.func (Fn.yield l) #[] #[])] 64) = W0 at *
  refine wpIn_rangeFunc_ownH rfl h1 (gf := ga) (lb := la) rfl trivial ega (HA.out (n - 1) (by omega)) belowK_t (belowK_b (by omega)) hW0 (fun _ => rfl)
    (fun pre A => ((∃ Φ, J (meetL pre ys) Φ A ∧ ¬ Φ W.heap.size) ∧ Boxed A W.heap.size 64 (Value.func (Fn.yield l) #[] #[])) ∧ Below w.heap.size w A)
    (fun _ _ _ => False)
    (OwnFrom.and (OwnFrom.and (fun pre A B row hs hg hr => by
      obtain ⟨Φ, hj, hn'⟩ := hs
      exact ⟨Φ, HJ.out Φ _ A B row hj hg (fun r e => ⟨by have := (hr r e).1; omega, (hr r e).2⟩), hn'⟩) (Own.from (boxed_own _ _ _) _)) (ownFrom_below (Nat.le_refl _) (by omega)))
    (fun _ _ _ _ _ hs _ _ => hs)
    ⟨⟨⟨Φ0, by simpa [meetL] using hj0, hnY0⟩, bY0⟩, hW0⟩
    (fun x a' A => ∃ Bx, W.heap.size < Bx ∧ Boxed2 A Bx x ∧ (∃ s Φ, J s Φ A ∧ ¬ Φ Bx) ∧ a' = { tmps := #[(Value.func (Fn.yield l) #[] #[]), (Value.pointer (some ⟨Ba, 0, none⟩)), (Value.pointer (some ⟨Bb, 0, none⟩)), (Value.pointer (some ⟨W.heap.size, 0, none⟩)), (Value.pointer (some ⟨Bx, 0, none⟩)), undef, undef, undef, (Value.func (Fn.func ga) #[] la), .agg #[.int .i64 x.1, .int .i64 x.2], undef, undef, undef, undef, undef, undef, undef, undef, undef, undef, undef, undef, undef, undef, undef], defers := [] })
    (fun x a' _ A B row hs hg hr => by
      obtain ⟨Bx, e1, e2, ⟨s, Φ, hj, hn'⟩, e3⟩ := hs
      exact ⟨Bx, e1, e2.kept hg (fun r e => (hr r e).2), ⟨s, Φ, HJ.out Φ _ A B row hj hg (fun r e => ⟨by have := (hr r e).1; omega, (hr r e).2⟩), hn'⟩, e3⟩)
    ?assign ?body ?done ?stop
  case assign =>
    rintro l1 pre x A K ⟨⟨⟨Φ, hj, hnY⟩, bY⟩, hBl⟩ hK
    obtain ⟨x1, x2⟩ := x
    have hfr : ¬ Φ A.heap.size := fun h => by
      obtain ⟨_, o, ho, _⟩ := HF.out _ _ _ hj _ h
      rw [Array.getElem?_eq_none (Nat.le_refl _)] at ho
      cases ho
    have hjA := (HJ.out Φ).alloc (.cells #[.int .i64 x1, .int .i64 x2] 25) hj
    simp only [encS]
    gi_wp2
    exact hK _ _ ((KeepsOthers.alloc _ _).from _) ((Below.refl _ A).alloc hBl.size _) ⟨⟨⟨Φ, hjA, hnY⟩, bY.alloc _⟩, hBl.alloc hBl.size _⟩ ⟨A.heap.size, bY.lt, Boxed2.new A (x1, x2), ⟨_, Φ, hjA, hfr⟩, rfl⟩
  case body =>
    rintro l1 pre x a' A hl1 ⟨r, hr⟩ ⟨⟨⟨Φ, hj, hnY⟩, bY1⟩, hBl⟩ ⟨Bx, hBx, bX, ⟨s', Φ', hj', hnX'⟩, rfl⟩ hlt
    have hΦ := HU.out _ _ _ _ _ hj' hj
    subst hΦ
    have hsA := hBl.size
    have cB := (hBl.cell (p := ⟨Bb, 0, none⟩) bB.lt).trans bB.cell
    gi_wp2
    refine wpIn_rangeFunc_ownN (l₀ := l1) (r₀ := r) rfl hr (by omega) (gf := gb) (lb := lb) rfl trivial egb ((HB.out (n - 1 - 1 - 1) (by omega)).inRound l1) belowK_t (belowK_b hsA) hBl (fun _ => rfl)
      (fun pre' A' => (((∃ Φ, J (meetL pre ys ++ meetOne x pre') Φ A' ∧ ¬ Φ W.heap.size ∧ ¬ Φ Bx) ∧ Boxed A' W.heap.size 64 (Value.func (Fn.yield l) #[] #[])) ∧ Boxed2 A' Bx x) ∧ (Below w.heap.size A A' ∧ KeepsFrom W0.heap.size A A'))
      (fun _ _ _ => False)
      (OwnFrom.and (OwnFrom.and (OwnFrom.and (fun pre' C B row hs hg hr => by
        obtain ⟨Φ, hj, hn'⟩ := hs
        exact ⟨Φ, HJ.out Φ _ C B row hj hg (fun r e => ⟨by have := (hr r e).1; have := bY1.lt; omega, (hr r e).2⟩), hn'⟩) (Own.from (boxed_own _ _ _) _))
        (fun _ C B row hs hg hr => hs.kept hg (fun r e => (hr r e).2))) (OwnFrom.and (ownFrom_below hsA hsA) (ownFrom_keepsFrom (Nat.le_refl _))))
      (fun _ _ _ _ _ hs _ _ => hs)
      ⟨⟨⟨⟨_, by simpa [meetOne] using hj, hnY, hnX'⟩, bY1⟩, bX⟩, Below.refl _ _, KeepsFrom.refl _ _⟩
      (fun y a'' A' => ∃ By, Boxed2 A' By y ∧ a'' = { tmps := #[(Value.func (Fn.yield l) #[] #[]), (Value.pointer (some ⟨Ba, 0, none⟩)), (Value.pointer (some ⟨Bb, 0, none⟩)), (Value.pointer (some ⟨W.heap.size, 0, none⟩)), (Value.pointer (some ⟨Bx, 0, none⟩)), (Value.pointer (some ⟨By, 0, none⟩)), undef, undef, (Value.func (Fn.func ga) #[] la), .agg #[.int .i64 x.1, .int .i64 x.2], (Value.func (Fn.func gb) #[] lb), .agg #[.int .i64 y.1, .int .i64 y.2], undef, undef, undef, undef, undef, undef, undef, undef, undef, undef, undef, undef, undef], defers := [] })
      (fun y a'' _ C B row hs hg hr => by obtain ⟨By, e2, e3⟩ := hs; exact ⟨By, e2.kept hg (fun r e => (hr r e).2), e3⟩)
      ?assign2 ?body2 ?done2 ?stop2
    case assign2 =>
      rintro l2 pre' y C K ⟨⟨⟨⟨Φ, hj2, hnY2, hnX2⟩, bY2⟩, bX2⟩, hB2, hK2⟩ hK
      obtain ⟨y1, y2⟩ := y
      have hjC := (HJ.out Φ).alloc (.cells #[.int .i64 y1, .int .i64 y2] 25) hj2
      have hsC := hB2.size
      simp only [encS]
      gi_wp2
      exact hK _ _ ((KeepsOthers.alloc _ _).from _) ((Below.refl _ C).alloc (by omega) _) ⟨⟨⟨⟨Φ, hjC, hnY2, hnX2⟩, bY2.alloc _⟩, bX2.alloc _⟩, hB2.alloc (by omega) _, hK2.trans ((KeepsOthers.alloc _ _).from _)⟩ ⟨C.heap.size, Boxed2.new C (y1, y2), rfl⟩
    case body2 =>
      rintro l2 pre' y a'' C _ _ ⟨⟨⟨⟨Φ, hj2, hnY2, hnX2⟩, bY2⟩, bX2⟩, hB2, hK2⟩ ⟨By, bY3, rfl⟩ hlt2
      obtain ⟨x1, x2⟩ := x
      obtain ⟨y1, y2⟩ := y
      have cY := bY2.cell
      have cx0 := bX2.cell0
      have cx1 := bX2.cell1
      have cy0 := bY3.cell0
      have cy1 := bY3.cell1
      gi_wp2
      refine ⟨trivial, (fun h => by cases h), ?_⟩
      refine (CallsIn.inRound l2 (CallsIn.inRound l1 (callsIn_wide.2 (meet_any x1 x2 y1 y2 C)))).mono ?_
      rintro e C3 ⟨rfl, hb3⟩
      have hg3 : C.grownBy C3 none := ⟨hb3.os, hb3.tape, hb3.output, hb3.size, fun k hk _ => hb3.block k hk⟩
      have hj3 := HJ.out Φ _ C C3 none hj2 hg3 (fun r e => by cases e)
      have hj4 := (HJ.out Φ).alloc (.cells #[.int .i64 (mF x1 x2 y1 y2), .int .i64 (mT x1 x2 y1 y2)] 25) hj3
      have bY4 := (bY2.kept hg3 (by simp)).alloc (.cells #[.int .i64 (mF x1 x2 y1 y2), .int .i64 (mT x1 x2 y1 y2)] 25)
      have bX4 := (bX2.kept hg3 (fun r e => by cases e)).alloc (.cells #[.int .i64 (mF x1 x2 y1 y2), .int .i64 (mT x1 x2 y1 y2)] 25)
      have b4 := Boxed2.new C3 (mF x1 x2 y1 y2, mT x1 x2 y1 y2)
      have c40 := b4.cell0
      have c41 := b4.cell1
      have cY4 := bY4.cell
      have hB4 : Below w.heap.size C (C3.alloc (.cells #[.int .i64 (mF x1 x2 y1 y2), .int .i64 (mT x1 x2 y1 y2)] 25)) := (hb3.mono (by have := hB2.size; omega)).alloc (by have := hB2.size; have := hb3.size; omega) _
      have hK4 : ∀ k, KeepsFrom k C (C3.alloc (.cells #[.int .i64 (mF x1 x2 y1 y2), .int .i64 (mT x1 x2 y1 y2)] 25)) := fun k => (KeepsFrom.of_grownBy hg3 (fun j e => by cases e)).trans ((KeepsOthers.alloc _ _).from _)
      have hF4 := HF.out _ _ _ hj4
      obtain ⟨fn, tmps, assign, body, hy, hR⟩ := HY.out _ Φ (mF x1 x2 y1 y2, mT x1 x2 y1 y2) _ hj4 (meet_bound _ hlt hlt2)
      simp only [encS] at hy
      cases hmB : mB x1 x2 y1 y2
      · gi_wp2
        refine ⟨(fun f e => nomatch e), ?_⟩
        gi_wp2
        refine ⟨hK4 _, hB4, ⟨⟨⟨Φ, ?_, hnY2, hnX2⟩, bY4⟩, bX4⟩, hB2.trans hB4, hK2.trans (hK4 _)⟩
        rw [meetOne_snoc, if_neg (by simp [hmB]), List.append_nil]
        exact hj4
      · gi_wp2
        refine ⟨(fun h => nomatch h), (round_deep hR).mono ?_⟩
        rintro e C5 ⟨rfl, Φ5, hj5, hf5⟩
        gi_wp2
        have hk5 : ∀ k, KeepsFrom k _ C5 := fun k => hf5.keeps k (fun j hj => (hF4 j hj).2)
        have hB5 := hf5.below (fun j hj => (hF4 j hj).1) (Nat.le_trans hsA (Nat.le_trans hB2.size hB4.size))
        refine ⟨(hK4 _).trans (hk5 _), hB4.trans hB5, ⟨⟨⟨Φ5, ?_, fun h => ?_, fun h => ?_⟩, (hf5.same _ bY4.lt hnY2).trans bY4⟩, (hf5.same _ bX4.lt hnX2).trans bX4⟩, hB2.trans (hB4.trans hB5), hK2.trans ((hK4 _).trans (hk5 _))⟩
        · rw [meetOne_snoc, if_pos hmB, ← List.append_assoc]
          exact hj5
        · exact (hf5.new _ h).elim hnY2 (fun h => Nat.lt_irrefl _ (Nat.lt_of_lt_of_le bY4.lt h))
        · exact (hf5.new _ h).elim hnX2 (fun h => Nat.lt_irrefl _ (Nat.lt_of_lt_of_le bX4.lt h))
    case done2 =>
      rintro zs C rfl ⟨⟨⟨⟨Φ, hj2, hnY2, hnX2⟩, bY2⟩, bX2⟩, hB2, hK2⟩
      gi_wp2
      exact ⟨hK2, hB2, ⟨⟨Φ, by rw [meetL_snoc]; exact hj2, hnY2⟩, bY2⟩, hBl.trans hB2⟩
    case stop2 =>
      rintro c pre' C _ h
      exact h.elim
  case done =>
    rintro D zs A hD rfl ⟨⟨⟨Φ, hj, hnY⟩, bY1⟩, hBl⟩ hK
    gi_wp2
    refine ⟨by simp, .inl ⟨_, _, rfl, run_takeDeferred hK, ?_⟩⟩
    exact ⟨_, results_none rfl _ _ _, ⟨_, rfl⟩, Φ, (HJ.out Φ).putObj _ hj (by omega) hK rfl⟩
  case stop =>
    rintro D c pre A _ _ h _
    exact h.elim
end Go.Proofs.YtgclmldhdjmabaaGreat
