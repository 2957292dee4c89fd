/-
  Walk: the function joined over whatever iterator of spans has its contract.
-/
import Derived.Test.YtfolppahdmkaoaaColl
import Derived.Test.YtfolppahdmkaoaaCommon
import Derived.Test.YtfolppahdmkaoaaJoinL
import Derived.Test.YtfolppahdmkaoaaQuietIn
namespace Go.Proofs.Ytfolppahdmkaoaa
open Go.RowKit Go.Shelf

attribute [local go_sem] Oper.semAt_some

theorem jstep_app {acc : List (Int × Int)} {s : Int × Int} (h : acc = [] ∨ ¬ s.1 ≤ (acc.getD (acc.length - 1) (0, 0)).2) : jstep acc s = acc ++ [s] := by
  unfold jstep
  rw [if_neg]
  rintro ⟨h1, h2⟩
  rcases h with rfl | h
  · simp at h1
  · exact h h2
theorem jstep_set {acc : List (Int × Int)} {s : Int × Int} (h : 0 < acc.length) (h2 : s.1 ≤ (acc.getD (acc.length - 1) (0, 0)).2) : jstep acc s = acc.set (acc.length - 1) ((acc.getD (acc.length - 1) (0, 0)).1, max (acc.getD (acc.length - 1) (0, 0)).2 s.2) := by
  unfold jstep
  rw [if_pos ⟨h, h2⟩]

theorem flat_set1 : ∀ (l : List (Int × Int)) (i : Nat) (b : Int), i < l.length → (flat l).set (i * 2 + 1) (.int .i64 b) = flat (l.set i ((l.getD i (0, 0)).1, b))
  | [], i, b, h => by simp at h
  | p :: l, 0, b, _ => by simp [flat]
  | p :: l, i + 1, b, h => by
    have := flat_set1 l i b (by simpa using h)
    rw [show (i + 1) * 2 + 1 = i * 2 + 1 + 1 + 1 from by omega]
    simpa [flat] using this
theorem max_if (a b : Int) : (if a < b then b else a) = max a b := by split <;> omega
theorem below_drewN' {w w' : World} {B : Nat} (h : Below B w w') (n : Nat) : Below B w (w'.drewN n) := by
  induction n with
  | zero => exact h
  | succ n ih => exact ih.drew
theorem foot_drewN {Φ : Nat → Prop} (W : World) (n : Nat) : Foot Φ Φ W (W.drewN n) := ⟨rfl, rfl, rfl, Nat.le_refl _, fun _ _ _ => rfl, fun _ h => .inl h⟩

set_option maxRecDepth 100000 in
set_option maxHeartbeats 8000000 in
theorem joined_in (n : Nat) (hn : 3 ≤ n) (gf : Nat) (lb : Array Value) (zs : List (Int × Int)) (N : Nat) (hl : N ≤ 4194304) (n₀ : Nat) (w0 w : World)
    (hseq : SeqAll (n - 1) Try.prog gf lb encS n₀ zs N w0) (hb0 : Below w0.heap.size w0 w) (hn₀ : n₀ ≤ w.heap.size)
    (eg : ∀ args w, (callFunc gf args).run Try.prog w = .ok (.enter gf args) w) :
    CallsIn Fence.wide n Try.prog 82 #[.func (.func gf) #[] lb] w (Coll w (joinL zs)) := by
  have h1 : 1 ≤ n := by omega
  obtain ⟨i0, hi, hz0, hz1, hz2⟩ := info_parts Try.info43
  refine callsIn_of_wp_marks Try.func82 rfl trivial ?_ rfl
  simp only [Try.ntmps82, List.size_toArray, List.length_cons, List.length_nil, Nat.reduceAdd, Nat.reduceSub, Array.replicate_succ, Array.replicate_zero, List.push_toArray, List.append_toArray, List.nil_append, List.cons_append]
  gi_wp2
  have bO := Boxed.new w 36 (.slice none 0 0)
  have hB0 : Below w.heap.size w (w.alloc (.cells #[.slice none 0 0] 36)) := (Below.refl _ w).alloc (Nat.le_refl _) _
  refine range_all h1 (gf := gf) (lb := lb) rfl eg hseq (hb0.trans (hB0.mono hb0.size)) (fun _ => rfl)
    (fun pre Φ W => (∃ v, Boxed W w.heap.size 36 v ∧ W.ownsRow w.heap.size 43 2 v (joinL pre).length (flat (joinL pre)) ∧ ((v = .slice none 0 0 ↔ joinL pre = []) ∧ Φ = fun k => k = w.heap.size ∨ v.ownBlock = some k)) ∧ Below w.heap.size w W)
    (fun Φ => OwnFrom.and (Own.from (holdsRow_own w.heap.size w.heap.size 36 43 2 (fun pre => (joinL pre).length) (fun pre => flat (joinL pre)) (fun pre v => (v = .slice none 0 0 ↔ joinL pre = []) ∧ Φ = fun k => k = w.heap.size ∨ v.ownBlock = some k)) _) (ownFrom_below (Nat.le_refl _) (by simp)))
    ?foot (fun s s' Φ Φ' A h h' => by
      obtain ⟨⟨v, bv, _, _, rfl⟩, _⟩ := h
      obtain ⟨⟨v', bv', _, _, rfl⟩, _⟩ := h'
      have : v = v' := by have := bv.cell.symm.trans bv'.cell; injection this
      rw [this]) (fun k => k = w.heap.size ∨ (Value.slice none 0 0).ownBlock = some k)
    ⟨⟨_, bO, World.ownsRow_nil _ _ _ _, by simp [joinL], rfl⟩, hB0⟩
    (fun x a' W => ∃ Bx, w.heap.size < Bx ∧ Boxed2 W Bx x ∧ a' = { tmps := #[.func (.func gf) #[] lb, undef, .slice none 0 0, .pointer (some ⟨w.heap.size, 0, none⟩), .pointer (some ⟨Bx, 0, none⟩), undef, .func (.func gf) #[] lb, .agg #[.int .i64 x.1, .int .i64 x.2], undef, undef, undef, undef, undef, undef, undef, undef, undef, undef, undef, undef, undef, undef, undef, undef, undef, undef, undef, undef, undef, undef, undef, undef, undef, undef, undef, undef, undef, undef, undef, undef], defers := [] })
    (fun x a' _ X Y row hs hg hr => by obtain ⟨Bx, e1, e2, e3⟩ := hs; exact ⟨Bx, e1, e2.kept hg (fun r e => (hr r e).2), e3⟩)
    ?assign ?body ?done
  case foot =>
    rintro pre Φ A ⟨⟨v, bv, hrow, hnil, rfl⟩, hB⟩ k hk
    rcases hk with rfl | hk
    · exact ⟨hn₀, _, bv, rfl⟩
    · rcases hrow.2 with ⟨rfl, _⟩ | ⟨g, c, cur, rfl, h2, h3, _⟩
      · simp [Value.ownBlock] at hk
      · have : g = k := by simpa [Value.ownBlock] using hk
        subst this
        exact ⟨Nat.le_trans hn₀ h2, _, h3, rfl⟩
  case assign =>
    rintro l pre Φ x W K ⟨⟨v, bv, hrow, hnil, hΦ⟩, hB⟩ hK
    obtain ⟨x1, x2⟩ := x
    have HΦ := Lib.hid hΦ
    clear hΦ
    simp only [encS]
    gi_wp2
    exact hK _ _ ((KeepsOthers.alloc _ _).from _) (Foot.alloc W _) ⟨⟨v, bv.alloc _, hrow.alloc _, hnil, HΦ.out⟩, hB.alloc hB.size _⟩ ⟨W.heap.size, bv.lt, Boxed2.new W (x1, x2), rfl⟩
  case body =>
    rintro l pre Φ x a' W ⟨⟨v, hv, hrow, hnil, hΦ⟩, hB⟩ ⟨Bx, hBx, bX, rfl⟩ hlt
    obtain ⟨x1, x2⟩ := x
    have HΦ := Lib.hid hΦ
    have HJ := Lib.hid (joinL_snoc pre (x1, x2))
    have hal : (joinL pre).length ≤ pre.length := joinL_len pre
    obtain ⟨acc, hacc⟩ : ∃ acc, joinL pre = acc := ⟨_, rfl⟩
    rw [hacc] at hrow hnil HJ hal
    clear hΦ hacc
    have hc := hv.cell
    have c0 := bX.cell0
    have c1 := bX.cell1
    have Hi := Lib.hid hi
    have Hz0 := Lib.hid hz0
    have Hz1 := Lib.hid hz1
    have Hz2 := Lib.hid hz2
    have HR := Lib.hid hrow
    have HV := Lib.hid hv
    have HX := Lib.hid bX
    have HB := Lib.hid hB
    have HN := Lib.hid hnil
    have HF := Lib.hid (show ∀ k, Φ k → ∃ o : Obj, W.heap[k]? = some o ∧ o.isCells = true from fun k hk => by
      rw [HΦ.out] at hk
      rcases hk with rfl | hk
      · exact ⟨_, hv, rfl⟩
      · rcases hrow.2 with ⟨rfl, _⟩ | ⟨g, c, cur, rfl, h2, h3, _⟩
        · simp [Value.ownBlock] at hk
        · have : g = k := by simpa [Value.ownBlock] using hk
          subst this
          exact ⟨_, h3, rfl⟩)
    clear hi hz0 hz1 hz2 hrow hv bX hB hnil hseq hb0 eg bO hB0
    by_cases hemp : acc = []
    · subst hemp
      obtain rfl := HN.out.2 rfl
      have HA := Lib.hid (jstep_app (acc := []) (s := (x1, x2)) (.inl rfl))
      gi_wp2
      refine wpIn_round_quiet (by kernel_rfl) (by kernel_rfl) (by kernel_rfl) ?_
      repeat (go_big_quiet_step (fail))
      refine wpQuiet_nil ?_
      rintro _ ⟨nq, rfl⟩
      have V5 := Lib.hid (show Boxed (W.drewN nq) w.heap.size 36 _ from HV.out)
      have R5 := Lib.hid (show (W.drewN nq).ownsRow _ _ _ _ _ _ from HR.out)
      have B5 := Lib.hid (show Below w.heap.size w (W.drewN nq) from below_drewN' HB.out nq)
      have F5 := Lib.hid (show Foot Φ Φ W (W.drewN nq) from foot_drewN W nq)
      have d0 : (W.drewN nq).cell? ⟨Bx, 0, none⟩ = some (.int .i64 x1) := c0
      have d1 : (W.drewN nq).cell? ⟨Bx, 1, none⟩ = some (.int .i64 x2) := c1
      have dc := V5.out.cell
      have dlt := V5.out.lt
      clear HV HR HB c0 c1 hc HX
      generalize W.drewN nq = W5 at *
      gi_wp2_with (gi_at_builtin; refine appendIn_lies _ rfl _ _ 36 rfl w.heap.size 43 i0 _ 2 16 Try.underlying36 Hi.out Hz0.out Hz1.out Hz2.out rfl (by decide) _ _ _ rfl (R5.out.alloc _) ⟨W5.heap.size, 0, none⟩ 1 1 [.int .i64 x1, .int .i64 x2] rfl rfl (news_two (by simp) (by simp)) (by simp [Value.oneCell']) (by decide) (by unfold maxLen; omega) (by omega) (by have := B5.out.size; simp; omega) ?_; intro g' cap' w1 hown' hgrow hat; obtain ⟨hv1, hv2, hr2, hk2, hb2⟩ := V5.out.appended (by decide) R5.out B5.out.size (Nat.le_refl _) hown' hgrow; have hc1 := hv1.cell; have hf1 := hv1.frozen)
      have FT : Foot Φ (fun k => k = w.heap.size ∨ (Value.slice (some ⟨g', 0, none⟩) (([] : List (Int × Int)).length + 1) cap').ownBlock = some k) W (w1.setCell ⟨w.heap.size, 0, none⟩ (.slice (some ⟨g', 0, none⟩) (([] : List (Int × Int)).length + 1) cap')) := by
        refine F5.out.trans ⟨hgrow.os, hgrow.tape, hgrow.output, ?_, ?_, ?_⟩
        · have := hgrow.size; simp [World.setCell] at this ⊢; omega
        · intro k hk hn
          rw [HΦ.out] at hn
          have h1' : k ≠ w.heap.size := fun e => hn (.inl e)
          have h2' : some k ≠ _ := fun e => hn (.inr e.symm)
          rw [Below.heap_setCell _ _ _ _ h1', hgrow.block k (by simp; omega) h2', Below.heap_alloc W5 _ k hk]
        · intro k hk
          rw [HΦ.out]
          rcases hk with e | e
          · exact .inl (.inl e)
          · have e' : g' = k := by simpa [Value.ownBlock] using e
            subst e'
            rcases hat with h | h
            · exact .inl (.inr h)
            · exact .inr (by rw [h]; simp)
      exact ⟨FT.keeps _ HF.out, _, FT, ⟨_, hv2, (by rw [HJ.out, HA.out]; exact owns_snoc hr2 rfl), (by rw [HJ.out, HA.out]; simp), rfl⟩, B5.out.trans hb2⟩
    · have hp : 0 < acc.length := List.length_pos_iff.2 hemp
      have hnn : v ≠ .slice none 0 0 := fun e => hemp (HN.out.1 e)
      obtain ⟨g, c, hv', hg, hgl⟩ := owns_form HR.out hnn
      subst hv'
      obtain ⟨m, hm⟩ : ∃ m, acc.length = m := ⟨_, rfl⟩
      have Hm := Lib.hid hm
      obtain ⟨pa, hpa⟩ : ∃ p, acc.getD (acc.length - 1) (0, 0) = p := ⟨_, rfl⟩
      have e0 : W.cell? ⟨g, (m - 1) * 2, none⟩ = some (.int .i64 pa.1) := by
        rw [HR.out.cellAt ((m - 1) * 2) (by omega), flat_get0 _ _ (by omega), ← hm, hpa]
      have e1 : W.cell? ⟨g, (m - 1) * 2 + 1, none⟩ = some (.int .i64 pa.2) := by
        rw [HR.out.cellAt ((m - 1) * 2 + 1) (by omega), flat_get1 _ _ (by omega), ← hm, hpa]
      have f1 := HR.out.frozenAt ((m - 1) * 2 + 1)
      obtain ⟨p1, p2⟩ := pa
      simp only [] at e0 e1
      have Hpa := Lib.hid hpa
      rw [hm] at hal hp HR hc HV HN HΦ
      clear hpa hm hemp hnn
      have q0 : (0 : Int) ≤ (m : Int) - 1 := by omega
      have q1 : (m : Int) - 1 < (m : Int) := by omega
      have q2 : ((m : Int) - 1).toNat = m - 1 := by omega
      have q3 : (1 : Int) ≤ (m : Int) := by omega
      by_cases hle : x1 ≤ p2
      · have HA := Lib.hid (jstep_set (acc := acc) (s := (x1, x2)) (by rw [Hm.out]; exact hp) (by rw [Hpa.out]; exact hle))
        have hld : decide (x1 ≤ p2) = true := decide_eq_true hle
        gi_wp2
        refine wpIn_round_quiet (by kernel_rfl) (by kernel_rfl) (by kernel_rfl) ?_
        repeat (go_big_quiet_step (fail))
        refine wpQuiet_nil ?_
        rintro _ ⟨nq, rfl⟩
        have V5 := Lib.hid (show Boxed (W.drewN nq) w.heap.size 36 _ from HV.out)
        have R5 := Lib.hid (show (W.drewN nq).ownsRow _ _ _ _ _ _ from HR.out)
        have B5 := Lib.hid (show Below w.heap.size w (W.drewN nq) from below_drewN' HB.out nq)
        have F5 := Lib.hid (show Foot Φ Φ W (W.drewN nq) from foot_drewN W nq)
        have d0 : (W.drewN nq).cell? ⟨Bx, 0, none⟩ = some (.int .i64 x1) := c0
        have d1 : (W.drewN nq).cell? ⟨Bx, 1, none⟩ = some (.int .i64 x2) := c1
        have e1' : (W.drewN nq).cell? ⟨g, (m - 1) * 2 + 1, none⟩ = some (.int .i64 p2) := e1
        have f1' : (W.drewN nq).frozen? ⟨g, (m - 1) * 2 + 1, none⟩ = false := f1
        have dc := V5.out.cell
        have dlt := V5.out.lt
        clear HV HR HB c0 c1 hc HX e0 e1 f1 hld
        generalize W.drewN nq = W5 at *
        gi_wp2
        refine wpIn_round_tail 12 (by kernel_rfl) (by kernel_rfl) (by kernel_rfl) ?_
        simp only [List.take_succ_cons, List.take_zero, List.drop_succ_cons, List.drop_zero]
        repeat still_step
        refine wpStill_nil ?_
        change wpListIn _ _ _ _ _ _ _ W5.drew
        obtain ⟨y, hy⟩ : ∃ y, (if p2 < x2 then x2 else p2) = y := ⟨_, rfl⟩
        rw [hy]
        have Hy := Lib.hid hy
        clear hy
        have HS := Lib.hid (show (W5.drew.setCell ⟨g, (m - 1) * 2 + 1, none⟩ (.int .i64 y)).ownsRow w.heap.size 43 2 (.slice (some ⟨g, 0, none⟩) (joinL (pre ++ [(x1, x2)])).length c) (joinL (pre ++ [(x1, x2)])).length (flat (joinL (pre ++ [(x1, x2)]))) from by
          have s0 := ((World.ownsRow.drew R5.out).stored ((m - 1) * 2 + 1) (.int .i64 y)).1
          rw [flat_set1 acc (m - 1) _ (by rw [Hm.out]; omega)] at s0
          rw [HJ.out, HA.out, List.length_set, Hpa.out, ← max_if, Hy.out, Hm.out]
          have e : acc.getD (m - 1) (0, 0) = (p1, p2) := by rw [← Hm.out]; exact Hpa.out
          rw [e] at s0
          exact s0)
        have hne : w.heap.size ≠ g := fun e => by
          have h1 := V5.out
          rcases R5.out.2 with ⟨h0, _⟩ | ⟨g', c', cur, h0, _, h3, _⟩
          · cases h0
          · injection h0 with h0 _ _
            injection h0 with h0
            injection h0 with h0 _ _
            subst h0
            rw [← e] at h3
            have := (show W5.heap[w.heap.size]? = _ from h1).symm.trans h3
            simp at this
        have HV6 := Lib.hid (show Boxed (W5.drew.setCell ⟨g, (m - 1) * 2 + 1, none⟩ (.int .i64 y)) w.heap.size 36 (.slice (some ⟨g, 0, none⟩) m c) from (Below.heap_setCell _ _ _ _ hne).trans V5.out)
        have FT := Lib.hid (show Foot Φ Φ W (W5.drew.setCell ⟨g, (m - 1) * 2 + 1, none⟩ (.int .i64 y)) from F5.out.trans ⟨rfl, rfl, rfl, (by show W5.heap.size ≤ (W5.setCell _ _).heap.size; simp), (fun k hk hn => by
          have : k ≠ g := fun e => hn (by rw [HΦ.out]; exact .inr (by rw [e]; rfl))
          exact Below.heap_setCell _ _ _ _ this), fun _ h => .inl h⟩)
        have HB6 := Lib.hid (show Below w.heap.size w (W5.drew.setCell ⟨g, (m - 1) * 2 + 1, none⟩ (.int .i64 y)) from (B5.out.drew).setCell (p := ⟨g, (m - 1) * 2 + 1, none⟩) hg _)
        have HL6 := Lib.hid (show (joinL (pre ++ [(x1, x2)])).length = m from by rw [HJ.out, HA.out, List.length_set, Hm.out])
        gi_wp2
        refine ⟨FT.out.keeps _ HF.out, _, FT.out, ⟨_, HV6.out, ?_, ?_, HΦ.out⟩, HB6.out⟩
        · have := HS.out
          rw [HL6.out] at this ⊢
          exact this
        · constructor
          · intro h; cases h
          · intro h
            have := HL6.out
            rw [h] at this
            simp at this
            omega
      · have HA := Lib.hid (jstep_app (acc := acc) (s := (x1, x2)) (.inr (by rw [Hpa.out]; exact hle)))
        have hld : decide (x1 ≤ p2) = false := decide_eq_false hle
        gi_wp2
        refine wpIn_round_quiet (by kernel_rfl) (by kernel_rfl) (by kernel_rfl) ?_
        repeat (go_big_quiet_step (fail))
        refine wpQuiet_nil ?_
        rintro _ ⟨nq, rfl⟩
        have V5 := Lib.hid (show Boxed (W.drewN nq) w.heap.size 36 _ from HV.out)
        have R5 := Lib.hid (show (W.drewN nq).ownsRow _ _ _ _ _ _ from HR.out)
        have B5 := Lib.hid (show Below w.heap.size w (W.drewN nq) from below_drewN' HB.out nq)
        have F5 := Lib.hid (show Foot Φ Φ W (W.drewN nq) from foot_drewN W nq)
        have d0 : (W.drewN nq).cell? ⟨Bx, 0, none⟩ = some (.int .i64 x1) := c0
        have d1 : (W.drewN nq).cell? ⟨Bx, 1, none⟩ = some (.int .i64 x2) := c1
        have dc := V5.out.cell
        have dlt := V5.out.lt
        clear HV HR HB c0 c1 hc HX
        generalize W.drewN nq = W5 at *
        gi_wp2_with (gi_at_builtin; refine appendIn_lies _ rfl _ _ 36 rfl w.heap.size 43 i0 _ 2 16 Try.underlying36 Hi.out Hz0.out Hz1.out Hz2.out rfl (by decide) _ _ _ rfl (R5.out.alloc _) ⟨W5.heap.size, 0, none⟩ 1 1 [.int .i64 x1, .int .i64 x2] rfl rfl (news_two (by simp) (by simp)) (by simp [Value.oneCell']) (by decide) (by unfold maxLen; omega) (by omega) (by have := B5.out.size; simp; omega) ?_; intro g' cap' w1 hown' hgrow hat; obtain ⟨hv1, hv2, hr2, hk2, hb2⟩ := V5.out.appended (by decide) R5.out B5.out.size (Nat.le_refl _) hown' hgrow; have hc1 := hv1.cell; have hf1 := hv1.frozen)
        have FT : Foot Φ (fun k => k = w.heap.size ∨ (Value.slice (some ⟨g', 0, none⟩) (m + 1) cap').ownBlock = some k) W (w1.setCell ⟨w.heap.size, 0, none⟩ (.slice (some ⟨g', 0, none⟩) (m + 1) cap')) := by
          refine F5.out.trans ⟨hgrow.os, hgrow.tape, hgrow.output, ?_, ?_, ?_⟩
          · have := hgrow.size; simp [World.setCell] at this ⊢; omega
          · intro k hk hn
            rw [HΦ.out] at hn
            have h1' : k ≠ w.heap.size := fun e => hn (.inl e)
            have h2' : some k ≠ _ := fun e => hn (.inr e.symm)
            rw [Below.heap_setCell _ _ _ _ h1', hgrow.block k (by simp; omega) h2', Below.heap_alloc W5 _ k hk]
          · intro k hk
            rw [HΦ.out]
            rcases hk with e | e
            · exact .inl (.inl e)
            · have e' : g' = k := by simpa [Value.ownBlock] using e
              subst e'
              rcases hat with h | h
              · exact .inl (.inr h)
              · exact .inr (by rw [h]; simp)
        exact ⟨FT.keeps _ HF.out, _, FT, ⟨_, hv2, (by rw [HJ.out, HA.out]; exact owns_snoc hr2 (by rw [Hm.out])), (by rw [HJ.out, HA.out]; simp), rfl⟩, B5.out.trans hb2⟩
  case done =>
    rintro D Φ W hD ⟨⟨v, hv, hrow, hnil, _⟩, hB⟩ hK
    have hc := hv.cell
    gi_wp2
    refine ⟨by simp, .inl ⟨_, _, rfl, run_takeDeferred hK, ?_⟩⟩
    exact ⟨_, results_tmp rfl _ _ _, v, rfl, ownsRow_putObj hrow _ hK rfl, hnil, hB.trans (belowK_b (w := w) (Nat.le_refl _) W D _ _ (by simp at hD; omega) hK rfl rfl)⟩
end Go.Proofs.Ytfolppahdmkaoaa
