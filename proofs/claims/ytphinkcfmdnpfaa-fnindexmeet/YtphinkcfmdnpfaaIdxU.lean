/-
  Walks: what of a tree meets a span, as the model looks for it in the tree's list.
-/
import Derived.Test.YtphinkcfmdnpfaaIdxF
import Derived.Test.YtphinkcfmdnpfaaTreG
import Derived.IntWalk
import Derived.Test.YtphinkcfmdnpfaaIdxO
namespace Go.Proofs.Ytphinkcfmdnpfaa
open Go.Shelf Go.RowKit Go.Lib

/-- Rows of one's own, and a number. -/
def GetsRN (w : World) (zs : List RowV) (n : Int) (e : Ending) (w' : World) : Prop :=
  ∃ A cap, e = .returned (.tuple #[.slice A zs.length cap, .int .i64 n]) ∧ w'.ownsRow w.heap.size 70 4 (.slice A zs.length cap) zs.length (flatOf rowC zs) ∧ Below w.heap.size w w'
theorem mB_in {f z a e : Int} (h1 : f < z) (h2 : a < e) (h3 : ¬ e ≤ f) : mB f z a e = decide (a < z) := by
  unfold mB
  rw [decide_eq_decide]
  omega

set_option maxRecDepth 100000 in
set_option maxHeartbeats 8000000 in
theorem meeting_any (a e : Int) (hae : a < e) (T : Tr) : ∀ (p : Option Addr) (w : World), TreeAt w T p → T.many ≤ 1000 → (∀ y ∈ T.rows, y.f < y.e) →
    Calls Try.prog 100 #[.pointer p, .agg #[.int .i64 a, .int .i64 e]] w (GetsRN w (meetT a e T).1 (meetT a e T).2) := by
  obtain ⟨i0, hi, hz0, hz1, hz2⟩ := info_parts Try.infoR70
  have Hi := Lib.hid hi
  have Hz0 := Lib.hid hz0
  have Hz1 := Lib.hid hz1
  have Hz2 := Lib.hid hz2
  have HAE := Lib.hid hae
  clear hi hz0 hz1 hz2 hae
  induction T with
  | nil =>
    intro p w h _ _
    have ep : p = none := h
    subst ep
    clear h
    go_enter Try.func100, Try.ntmps100
    go_wp2_with fail
    go_quiet (fail)
    have BN := Lib.hid (show Below w.heap.size w ((w.alloc (.cells #[.int .i64 a, .int .i64 e] 29)).drewN nq) from below_drewN ((Below.refl _ _).alloc (Nat.le_refl _) _) _)
    go_wp2
    refine bodyPost_ret (v := .tuple #[.slice none 0 0, .int .i64 0]) (by simp [results, Try.results100, go_sem]) rfl ?_
    exact ⟨none, 0, rfl, World.ownsRow_nil _ _ _ _, BN.out⟩
  | node x l r ihl ihr =>
    intro p w h hm hv
    obtain ⟨b, pl, pr, rfl, hbb, c0, c1, c2, c3, c4, c5, c6, c7, hl, hr⟩ := h.node_at
    have hme : (Tr.node x l r).many = l.many + 1 + r.many := rfl
    rw [hme] at hm
    have hx := hv x.r (by show x.r ∈ l.rows ++ x.r :: r.rows; simp)
    have HL := Lib.hid (fun w' (hb : Below w.heap.size w w') => ihl pl w' (hl.below hb) (by omega) (fun y hy => hv y (by show y ∈ l.rows ++ x.r :: r.rows; exact List.mem_append_left _ hy)))
    have HR := Lib.hid (fun w' (hb : Below w.heap.size w w') => ihr pr w' (hr.below hb) (by omega) (fun y hy => hv y (by show y ∈ l.rows ++ x.r :: r.rows; exact List.mem_append_right _ (List.mem_cons_of_mem _ hy))))
    have HMB := Lib.hid (fun (h3 : x.r.f < e) => mB_in hx HAE.out (show ¬ e ≤ x.r.f by omega))
    have hml := meetT_many a e l
    have hmr := meetT_many a e r
    have HF := Lib.hid (meetT_far (a := a) (e := e) (x := x) (l := l) (r := r))
    have HA := Lib.hid (fun (q1 : a < x.o) => meetT_ahead (a := a) (e := e) (x := x) (l := l) (r := r) (show ¬ x.o ≤ a by omega))
    have HN := Lib.hid (fun (q1 : a < x.o) (q2 : x.r.f < e) => meetT_in (a := a) (e := e) (x := x) (l := l) (r := r) (show ¬ x.o ≤ a by omega) (show ¬ e ≤ x.r.f by omega))
    obtain ⟨ml, hml0⟩ : ∃ ml, meetT a e l = ml := ⟨_, rfl⟩
    obtain ⟨mr, hmr0⟩ : ∃ mr, meetT a e r = mr := ⟨_, rfl⟩
    rw [hml0] at HL HA HN hml
    rw [hmr0] at HR HN hmr
    obtain ⟨zl, nl⟩ := ml
    obtain ⟨zr, nr⟩ := mr
    dsimp only at HL HR HA HN hml hmr
    obtain ⟨M, hM⟩ : ∃ M, meetT a e (Tr.node x l r) = M := ⟨_, rfl⟩
    rw [hM] at HF HA HN ⊢
    have hnl : nl ≤ 1000 := by omega
    have hnr : nr ≤ 1000 := by omega
    have hzl : zl.length ≤ 1000 := by omega
    have hzr : zr.length ≤ 1000 := by omega
    have hw1 : IntKind.i64.wrap ((nl : Int) + 1) = ((nl + 1 : Nat) : Int) := (IntWalk.i64_in _ (by omega)).trans (by omega)
    have hw2 : IntKind.i64.wrap (((nl + 1 : Nat) : Int) + nr) = ((nl + 1 + nr : Nat) : Int) := (IntWalk.i64_in _ (by omega)).trans (by omega)
    obtain ⟨n1, hn1⟩ : ∃ n1, nl + 1 = n1 := ⟨_, rfl⟩
    rw [hn1] at hw1 hw2 HA HN
    obtain ⟨n2, hn2⟩ : ∃ n2, n1 + nr = n2 := ⟨_, rfl⟩
    rw [hn2] at hw2 HN
    clear ihl ihr h hl hr hm hme hv hx hml hmr hml0 hmr0 hM hn1 hn2
    go_enter Try.func100, Try.ntmps100
    go_wp2_with fail
    generalize hW : w.alloc _ = W0
    have s0 : W0.cell? ⟨w.heap.size, 0, none⟩ = some (.int .i64 a) := by rw [← hW]; simp [go_sem]
    have s1 : W0.cell? ⟨w.heap.size, 1, none⟩ = some (.int .i64 e) := by rw [← hW]; simp [go_sem]
    have ls : w.heap.size < W0.heap.size := by rw [← hW]; simp
    have b0 : Below w.heap.size w W0 := by rw [← hW]; exact (Below.refl _ _).alloc (Nat.le_refl _) _
    clear hW
    replace c0 := cellBelow b0 hbb c0
    replace c1 := cellBelow b0 hbb c1
    replace c2 := cellBelow b0 hbb c2
    replace c3 := cellBelow b0 hbb c3
    replace c5 := cellBelow b0 hbb c5
    replace c6 := cellBelow b0 hbb c6
    replace c7 := cellBelow b0 hbb c7
    have hbW : b < W0.heap.size := Nat.lt_of_lt_of_le hbb b0.size
    have B0 := Lib.hid b0
    clear b0 c4
    by_cases h1 : x.o ≤ a
    · have n1 : decide (x.o ≤ a) = true := decide_eq_true h1
      have HM := Lib.hid (HF.out h1)
      clear h1
      go_quiet (fail)
      have BN := Lib.hid (show Below w.heap.size w (W0.drewN nq) from below_drewN B0.out _)
      go_wp2
      refine bodyPost_ret (v := .tuple #[.slice none 0 0, .int .i64 0]) (by simp [results, Try.results100, go_sem]) rfl ?_
      rw [HM.out]
      exact ⟨none, 0, rfl, World.ownsRow_nil _ _ _ _, BN.out⟩
    · have n1 : decide (x.o ≤ a) = false := decide_eq_false h1
      have H1 := Lib.hid (show a < x.o by omega)
      clear h1 HF
      go_quiet (fail)
      have bn : Below w.heap.size w (W0.drewN nq) := below_drewN B0.out _
      replace c0 : (W0.drewN nq).cell? ⟨b, 0, none⟩ = some (.string x.r.k) := c0
      replace c1 : (W0.drewN nq).cell? ⟨b, 1, none⟩ = some (.string x.r.t) := c1
      replace c2 : (W0.drewN nq).cell? ⟨b, 2, none⟩ = some (.int .i64 x.r.f) := c2
      replace c3 : (W0.drewN nq).cell? ⟨b, 3, none⟩ = some (.int .i64 x.r.e) := c3
      replace c6 : (W0.drewN nq).cell? ⟨b, 6, none⟩ = some (.pointer pl) := c6
      replace c7 : (W0.drewN nq).cell? ⟨b, 7, none⟩ = some (.pointer pr) := c7
      replace s0 : (W0.drewN nq).cell? ⟨w.heap.size, 0, none⟩ = some (.int .i64 a) := s0
      replace s1 : (W0.drewN nq).cell? ⟨w.heap.size, 1, none⟩ = some (.int .i64 e) := s1
      replace ls : w.heap.size < (W0.drewN nq).heap.size := ls
      replace hbW : b < (W0.drewN nq).heap.size := hbW
      clear B0 n1 c5
      generalize W0.drewN nq = W0 at *
      go_upto_region 4 with fail
      generalize hW : W0.alloc _ = W1
      obtain ⟨rb, hrb⟩ : ∃ rb, W0.heap.size = rb := ⟨_, rfl⟩
      have r0 : W1.cell? ⟨rb, 0, none⟩ = some (.string x.r.k) := by rw [← hW, ← hrb]; simp [go_sem]
      have r1 : W1.cell? ⟨rb, 1, none⟩ = some (.string x.r.t) := by rw [← hW, ← hrb]; simp [go_sem]
      have r2 : W1.cell? ⟨rb, 2, none⟩ = some (.int .i64 x.r.f) := by rw [← hW, ← hrb]; simp [go_sem]
      have r3 : W1.cell? ⟨rb, 3, none⟩ = some (.int .i64 x.r.e) := by rw [← hW, ← hrb]; simp [go_sem]
      have hb1 : Below W0.heap.size W0 W1 := by rw [← hW]; exact (Below.refl _ _).alloc (Nat.le_refl _) _
      have lr : rb < W1.heap.size := by rw [← hW, ← hrb]; simp
      replace c6 := cellBelow hb1 hbW c6
      replace c7 := cellBelow hb1 hbW c7
      replace s0 := cellBelow hb1 ls s0
      replace s1 := cellBelow hb1 ls s1
      replace ls : w.heap.size < W1.heap.size := Nat.lt_of_lt_of_le ls hb1.size
      replace hbW : b < W1.heap.size := Nat.lt_of_lt_of_le hbW hb1.size
      rw [hrb]
      have B1 := Lib.hid (bn.trans (hb1.mono bn.size))
      have hq0 : Below W1.heap.size W1 W1 := Below.refl _ _
      have HL1 := Lib.hid (fun w' (h : Below W1.heap.size W1 w') => HL.out w' (B1.out.trans (h.mono B1.out.size)))
      clear hW hb1 bn hrb c0 c1 c2 c3 HL
      go_region_held3 (fun w' => w'.cell? ⟨b, 6, none⟩ = some (.pointer pl) ∧ w'.cell? ⟨b, 7, none⟩ = some (.pointer pr) ∧ w'.cell? ⟨w.heap.size, 0, none⟩ = some (.int .i64 a) ∧ w'.cell? ⟨w.heap.size, 1, none⟩ = some (.int .i64 e) ∧ w'.cell? ⟨rb, 0, none⟩ = some (.string x.r.k) ∧ w'.cell? ⟨rb, 1, none⟩ = some (.string x.r.t) ∧ w'.cell? ⟨rb, 2, none⟩ = some (.int .i64 x.r.f) ∧ w'.cell? ⟨rb, 3, none⟩ = some (.int .i64 x.r.e) ∧ W1.heap.size ≤ w'.heap.size ∧ Below W1.heap.size W1 w')
        (((try go_split_ands); refine ⟨?cc90, ?cc91, ?cc92, ?cc93, ?cc94, ?cc95, ?cc96, ?cc97, ?sz9, ?bl9⟩; (case cc90 => (repeat (first | with_reducible assumption | with_reducible refine cell_below hb (by first | omega | (simp; done) | (simp; omega)) ?_ | with_reducible refine cell_set_far (by first | omega | (simp; done) | (simp; omega)) ?_ | with_reducible exact cell_alloc_swap (by with_reducible assumption) (by first | omega | (simp; done) | (simp; omega)) | with_reducible refine cell_alloc_far ?_ | with_reducible refine cell_drew ?_))); (case cc91 => (repeat (first | with_reducible assumption | with_reducible refine cell_below hb (by first | omega | (simp; done) | (simp; omega)) ?_ | with_reducible refine cell_set_far (by first | omega | (simp; done) | (simp; omega)) ?_ | with_reducible exact cell_alloc_swap (by with_reducible assumption) (by first | omega | (simp; done) | (simp; omega)) | with_reducible refine cell_alloc_far ?_ | with_reducible refine cell_drew ?_))); (case cc92 => (repeat (first | with_reducible assumption | with_reducible refine cell_below hb (by first | omega | (simp; done) | (simp; omega)) ?_ | with_reducible refine cell_set_far (by first | omega | (simp; done) | (simp; omega)) ?_ | with_reducible exact cell_alloc_swap (by with_reducible assumption) (by first | omega | (simp; done) | (simp; omega)) | with_reducible refine cell_alloc_far ?_ | with_reducible refine cell_drew ?_))); (case cc93 => (repeat (first | with_reducible assumption | with_reducible refine cell_below hb (by first | omega | (simp; done) | (simp; omega)) ?_ | with_reducible refine cell_set_far (by first | omega | (simp; done) | (simp; omega)) ?_ | with_reducible exact cell_alloc_swap (by with_reducible assumption) (by first | omega | (simp; done) | (simp; omega)) | with_reducible refine cell_alloc_far ?_ | with_reducible refine cell_drew ?_))); (case cc94 => (repeat (first | with_reducible assumption | with_reducible refine cell_below hb (by first | omega | (simp; done) | (simp; omega)) ?_ | with_reducible refine cell_set_far (by first | omega | (simp; done) | (simp; omega)) ?_ | with_reducible exact cell_alloc_swap (by with_reducible assumption) (by first | omega | (simp; done) | (simp; omega)) | with_reducible refine cell_alloc_far ?_ | with_reducible refine cell_drew ?_))); (case cc95 => (repeat (first | with_reducible assumption | with_reducible refine cell_below hb (by first | omega | (simp; done) | (simp; omega)) ?_ | with_reducible refine cell_set_far (by first | omega | (simp; done) | (simp; omega)) ?_ | with_reducible exact cell_alloc_swap (by with_reducible assumption) (by first | omega | (simp; done) | (simp; omega)) | with_reducible refine cell_alloc_far ?_ | with_reducible refine cell_drew ?_))); (case cc96 => (repeat (first | with_reducible assumption | with_reducible refine cell_below hb (by first | omega | (simp; done) | (simp; omega)) ?_ | with_reducible refine cell_set_far (by first | omega | (simp; done) | (simp; omega)) ?_ | with_reducible exact cell_alloc_swap (by with_reducible assumption) (by first | omega | (simp; done) | (simp; omega)) | with_reducible refine cell_alloc_far ?_ | with_reducible refine cell_drew ?_))); (case cc97 => (repeat (first | with_reducible assumption | with_reducible refine cell_below hb (by first | omega | (simp; done) | (simp; omega)) ?_ | with_reducible refine cell_set_far (by first | omega | (simp; done) | (simp; omega)) ?_ | with_reducible exact cell_alloc_swap (by with_reducible assumption) (by first | omega | (simp; done) | (simp; omega)) | with_reducible refine cell_alloc_far ?_ | with_reducible refine cell_drew ?_))); (case sz9 => (first | with_reducible assumption | (have := hb.size; omega) | omega | (simp; done) | (simp; omega) | (have := hb.size; simp at this ⊢; omega))); (case bl9 => (repeat (first | with_reducible assumption | with_reducible exact hq0 | with_reducible refine Below.drew ?_ | with_reducible refine Below.trans ?_ (hb.mono (by first | omega | (simp; done) | (simp; omega))) | with_reducible refine Below.setCell ?_ (by first | omega | (simp; done) | (simp; omega)) _ | with_reducible exact below_alloc_swap (by with_reducible assumption) (by first | omega | (simp; done) | (simp; omega)) | with_reducible refine Below.alloc ?_ (by first | omega | (simp; done) | (simp; omega)) _)))))
        ((go_at_call 100; (try go_split_ands); (with_reducible refine (HL1.out _ (by with_reducible assumption)).mono ?_); rintro ex wL ⟨AL, cL, rfl, ho, hb⟩; have OL := Lib.hid (ownsBase (base' := W1.heap.size) ho (by first | omega | (simp; omega))); clear ho; have hsL : W1.heap.size ≤ wL.heap.size := (by have := hb.size; first | omega | (simp at this; omega)); obtain ⟨hc, hf, hlb⟩ := bcell3 hb; dsimp only))
      all_goals (
        rename_i hH
        obtain ⟨g6, g7, t0, t1, u0, u1, u2, u3, hsz, hbl⟩ := hH
        have BL := Lib.hid (B1.out.trans (hbl.mono B1.out.size))
        have HNS := Lib.hid (show ¬ (Value.slice AL zl.length cL).ownBlock = some w.heap.size from fun e => by have := (OL.out.lt _ e).1; omega)
        have OLw := Lib.hid (ownsBase (base' := w.heap.size) OL.out B1.out.size)
        have hbL : b < wL.heap.size := Nat.lt_of_lt_of_le hbW hsz
        have lsL : w.heap.size < wL.heap.size := Nat.lt_of_lt_of_le ls hsz
        have lrL : rb < wL.heap.size := Nat.lt_of_lt_of_le lr hsz
        clear g6 OL HL1 hq0 hbl c6 c7 s0 s1 r0 r1 r2 r3 hbW ls lr hsz B1
        by_cases h2 : e ≤ x.r.f
        · have HM := Lib.hid (HA.out H1.out h2)
          go_wp2
          refine bodyPost_ret (v := .tuple #[.slice AL zl.length cL, .int .i64 n1]) (by simp [results, Try.results100, go_sem]) rfl ?_
          rw [HM.out]
          exact ⟨AL, cL, rfl, OLw.out, BL.out⟩
        · have h2' : x.r.f < e := by omega
          have HM := Lib.hid (HN.out H1.out h2')
          have HMX := Lib.hid (HMB.out h2')
          go_wp2_with fail
          refine (meet_any _ _ _ _ _).mono ?_
          rw [HMX.out]
          rintro ex wM ⟨rfl, hb⟩
          have OM := Lib.hid (ownsKeep OLw.out hb)
          have BM := Lib.hid (BL.out.trans (hb.mono BL.out.size))
          have hsM := BM.out.size
          replace g7 := cellBelow hb hbL g7
          replace t0 := cellBelow hb lsL t0
          replace t1 := cellBelow hb lsL t1
          replace u0 := cellBelow hb lrL u0
          replace u1 := cellBelow hb lrL u1
          replace u2 := cellBelow hb lrL u2
          replace u3 := cellBelow hb lrL u3
          replace hbL : b < wM.heap.size := Nat.lt_of_lt_of_le hbL hb.size
          replace lsL : w.heap.size < wM.heap.size := Nat.lt_of_lt_of_le lsL hb.size
          replace lrL : rb < wM.heap.size := Nat.lt_of_lt_of_le lrL hb.size
          clear hb OLw BL h2 HMX HMB HA
          by_cases h3 : a < x.r.e
          · rw [if_pos h3] at HM
            have h3d : decide (a < x.r.e) = true := decide_eq_true h3
            rw [h3d]
            clear h3 h3d
            go_upto_region 10 with fail
            generalize hW : World.alloc _ _ = W4
            have O4 := Lib.hid (show W4.ownsRow w.heap.size 70 4 (.slice AL zl.length cL) zl.length (flatOf rowC zl) from by rw [← hW]; exact OM.out.alloc _)
            have hbX : Below wM.heap.size wM W4 := by rw [← hW]; exact (Below.refl _ _).alloc (Nat.le_refl _) _
            have B4 := Lib.hid (BM.out.trans (hbX.mono hsM))
            have hs4 := B4.out.size
            replace g7 := cellBelow hbX hbL g7
            replace t0 := cellBelow hbX lsL t0
            replace t1 := cellBelow hbX lsL t1
            replace u0 := cellBelow hbX lrL u0
            replace u1 := cellBelow hbX lrL u1
            replace u2 := cellBelow hbX lrL u2
            replace u3 := cellBelow hbX lrL u3
            replace hbL : b < W4.heap.size := Nat.lt_of_lt_of_le hbL hbX.size
            replace lsL : w.heap.size < W4.heap.size := Nat.lt_of_lt_of_le lsL hbX.size
            clear hbX hW OM BM hsM lrL
            go_upto_region 11 with (at_builtin; refine wpList_append_own _ rfl _ _ 23 rfl w.heap.size 70 i0 _ 4 48 Try.underlying23 Hi.out Hz0.out Hz1.out Hz2.out rfl (by decide) _ zl.length (flatOf rowC zl) rfl (O4.out.alloc _) ⟨W4.heap.size, 0, none⟩ 1 1 [.string x.r.k, .string x.r.t, .int .i64 x.r.f, .int .i64 x.r.e] rfl rfl (newsFour (by simp) (by simp) (by simp) (by simp)) (by simp [Value.oneCell']) (by unfold maxLen; omega) (by omega) (by simp; omega) ?_; intro v5 w5 ho5 hg5 hn5; obtain ⟨A5, k5, rfl⟩ := owns_formN ho5; have O5 := Lib.hid (show w5.ownsRow w.heap.size 70 4 (.slice A5 (zl.length + 1) k5) (zl.length + 1) (flatOf rowC (zl ++ [x.r])) from by rw [flatOf_append, flatOf_one]; exact ho5); have B5p := Lib.hid ((B4.out.alloc hs4 _).grown hg5 (by simp; omega) (fun i e => (O4.out.lt i e).1)); have HK := Lib.hid (fun (bb oo : Nat) (vv : Value) (hlt : bb < W4.heap.size) (hne : some bb ≠ (Value.slice AL zl.length cL).ownBlock) (hc : W4.cell? ⟨bb, oo, none⟩ = some vv) => (World.cell?_of_block (a := ⟨bb, oo, none⟩) (hg5.block bb (by simp; omega) hne)).trans ((World.cell?_alloc_lt _ _ _ hlt).trans hc)); clear ho5 hg5 hn5)
            have hNb : some b ≠ (Value.slice AL zl.length cL).ownBlock := fun e => by have := (O4.out.lt b e.symm).1; omega
            have hNs : some w.heap.size ≠ (Value.slice AL zl.length cL).ownBlock := fun e => HNS.out e.symm
            replace g7 := HK.out b 7 _ hbL hNb g7
            replace t0 := HK.out w.heap.size 0 _ lsL hNs t0
            replace t1 := HK.out w.heap.size 1 _ lsL hNs t1
            have BW5 := Lib.hid B5p.out
            have hs5 := BW5.out.size
            clear hbL lsL u0 u1 u2 u3
            have lsL : w.heap.size < w5.heap.size := World.block_lt_of_cell? _ _ t0
            have HR1 := Lib.hid (fun w' (h : Below w5.heap.size w5 w') => HR.out w' (BW5.out.trans (h.mono BW5.out.size)))
            have hq0 : Below w5.heap.size w5 w5 := Below.refl _ _
            go_region_held3 (fun w' => w'.cell? ⟨b, 7, none⟩ = some (.pointer pr) ∧ w'.cell? ⟨w.heap.size, 0, none⟩ = some (.int .i64 a) ∧ w'.cell? ⟨w.heap.size, 1, none⟩ = some (.int .i64 e) ∧ w5.heap.size ≤ w'.heap.size ∧ Below w5.heap.size w5 w')
              (((try go_split_ands); refine ⟨?cc90, ?cc91, ?cc92, ?sz9, ?bl9⟩; (case cc90 => (repeat (first | with_reducible assumption | with_reducible refine cell_below hb (by first | omega | (simp; done) | (simp; omega)) ?_ | with_reducible refine cell_set_far (by first | omega | (simp; done) | (simp; omega)) ?_ | with_reducible exact cell_alloc_swap (by with_reducible assumption) (by first | omega | (simp; done) | (simp; omega)) | with_reducible refine cell_alloc_far ?_ | with_reducible refine cell_drew ?_))); (case cc91 => (repeat (first | with_reducible assumption | with_reducible refine cell_below hb (by first | omega | (simp; done) | (simp; omega)) ?_ | with_reducible refine cell_set_far (by first | omega | (simp; done) | (simp; omega)) ?_ | with_reducible exact cell_alloc_swap (by with_reducible assumption) (by first | omega | (simp; done) | (simp; omega)) | with_reducible refine cell_alloc_far ?_ | with_reducible refine cell_drew ?_))); (case cc92 => (repeat (first | with_reducible assumption | with_reducible refine cell_below hb (by first | omega | (simp; done) | (simp; omega)) ?_ | with_reducible refine cell_set_far (by first | omega | (simp; done) | (simp; omega)) ?_ | with_reducible exact cell_alloc_swap (by with_reducible assumption) (by first | omega | (simp; done) | (simp; omega)) | with_reducible refine cell_alloc_far ?_ | with_reducible refine cell_drew ?_))); (case sz9 => (first | with_reducible assumption | (have := hb.size; omega) | omega | (simp; done) | (simp; omega) | (have := hb.size; simp at this ⊢; omega))); (case bl9 => (repeat (first | with_reducible assumption | with_reducible exact hq0 | with_reducible refine Below.drew ?_ | with_reducible refine Below.trans ?_ (hb.mono (by first | omega | (simp; done) | (simp; omega))) | with_reducible refine Below.setCell ?_ (by first | omega | (simp; done) | (simp; omega)) _ | with_reducible exact below_alloc_swap (by with_reducible assumption) (by first | omega | (simp; done) | (simp; omega)) | with_reducible refine Below.alloc ?_ (by first | omega | (simp; done) | (simp; omega)) _)))))
              ((go_at_call 100; (try go_split_ands); (with_reducible refine (HR1.out _ (by with_reducible assumption)).mono ?_); rintro ex wR ⟨AR, cR, rfl, ho, hb⟩; have OR := Lib.hid (ownsBase (base' := w5.heap.size) ho (by first | omega | (simp; omega))); clear ho; have hsR : w5.heap.size ≤ wR.heap.size := (by have := hb.size; first | omega | (simp at this; omega)); obtain ⟨hc, hf, hlb⟩ := bcell3 hb; dsimp only))
            all_goals (
              rename_i hH
              obtain ⟨-, -, -, -, hbl5⟩ := hH
              have O6 := Lib.hid (ownsKeep O5.out hbl5)
              have SR := Lib.hid (src_of (rowsA_own OR.out rfl) (owns_nilcap OR.out))
              have B6 := Lib.hid (BW5.out.trans (hbl5.mono BW5.out.size))
              have hs6 := B6.out.size
              clear g7 t0 t1 HR1 hq0 hbl5 BW5 O5 OR
              go_wp2_with (at_builtin; refine wpList_append_src _ rfl _ _ 23 rfl w.heap.size 70 i0 _ 48 Try.underlying23 Hi.out Hz0.out Hz1.out Hz2.out rfl _ (zl.length + 1) (zl ++ [x.r]) rfl O6.out _ zr rfl SR.out (by unfold maxLen; omega) (by omega) hs6 ?_; intro v7 w7 ho7 hg7; obtain ⟨A7, k7, rfl⟩ := owns_formN ho7; have O7 := Lib.hid ho7; have B7 := Lib.hid (B6.out.grown hg7 hs6 (fun i e => (O6.out.lt i e).1)); clear ho7 hg7)
              refine bodyPost_ret (v := .tuple #[.slice A7 ((zl.length + 1) + zr.length) k7, .int .i64 n2]) (by simp [results, Try.results100, go_sem]) rfl ?_
              rw [HM.out]
              have hlen : ((zl ++ [x.r]) ++ zr).length = (zl.length + 1) + zr.length := by rw [List.length_append, List.length_append]; rfl
              refine ⟨A7, k7, by rw [hlen], ?_, B7.out⟩
              rw [hlen]
              exact O7.out)
          · rw [if_neg h3, List.append_nil] at HM
            have h3d : decide (a < x.r.e) = false := decide_eq_false h3
            rw [h3d]
            clear h3 h3d
            go_upto_region 11 with fail
            generalize hW : World.alloc _ _ = W5
            have O5 := Lib.hid (show W5.ownsRow w.heap.size 70 4 (.slice AL zl.length cL) zl.length (flatOf rowC zl) from by rw [← hW]; exact OM.out.alloc _)
            have hbX : Below wM.heap.size wM W5 := by rw [← hW]; exact (Below.refl _ _).alloc (Nat.le_refl _) _
            replace g7 := cellBelow hbX hbL g7
            replace t0 := cellBelow hbX lsL t0
            replace t1 := cellBelow hbX lsL t1
            clear hbX
            have BW5 := Lib.hid (show Below w.heap.size w W5 from by rw [← hW]; exact BM.out.alloc hsM _)
            have hs5 := BW5.out.size
            clear hbL lsL u0 u1 u2 u3
            have lsL : w.heap.size < W5.heap.size := World.block_lt_of_cell? _ _ t0
            have HR1 := Lib.hid (fun w' (h : Below W5.heap.size W5 w') => HR.out w' (BW5.out.trans (h.mono BW5.out.size)))
            have hq0 : Below W5.heap.size W5 W5 := Below.refl _ _
            go_region_held3 (fun w' => w'.cell? ⟨b, 7, none⟩ = some (.pointer pr) ∧ w'.cell? ⟨w.heap.size, 0, none⟩ = some (.int .i64 a) ∧ w'.cell? ⟨w.heap.size, 1, none⟩ = some (.int .i64 e) ∧ W5.heap.size ≤ w'.heap.size ∧ Below W5.heap.size W5 w')
              (((try go_split_ands); refine ⟨?cc90, ?cc91, ?cc92, ?sz9, ?bl9⟩; (case cc90 => (repeat (first | with_reducible assumption | with_reducible refine cell_below hb (by first | omega | (simp; done) | (simp; omega)) ?_ | with_reducible refine cell_set_far (by first | omega | (simp; done) | (simp; omega)) ?_ | with_reducible exact cell_alloc_swap (by with_reducible assumption) (by first | omega | (simp; done) | (simp; omega)) | with_reducible refine cell_alloc_far ?_ | with_reducible refine cell_drew ?_))); (case cc91 => (repeat (first | with_reducible assumption | with_reducible refine cell_below hb (by first | omega | (simp; done) | (simp; omega)) ?_ | with_reducible refine cell_set_far (by first | omega | (simp; done) | (simp; omega)) ?_ | with_reducible exact cell_alloc_swap (by with_reducible assumption) (by first | omega | (simp; done) | (simp; omega)) | with_reducible refine cell_alloc_far ?_ | with_reducible refine cell_drew ?_))); (case cc92 => (repeat (first | with_reducible assumption | with_reducible refine cell_below hb (by first | omega | (simp; done) | (simp; omega)) ?_ | with_reducible refine cell_set_far (by first | omega | (simp; done) | (simp; omega)) ?_ | with_reducible exact cell_alloc_swap (by with_reducible assumption) (by first | omega | (simp; done) | (simp; omega)) | with_reducible refine cell_alloc_far ?_ | with_reducible refine cell_drew ?_))); (case sz9 => (first | with_reducible assumption | (have := hb.size; omega) | omega | (simp; done) | (simp; omega) | (have := hb.size; simp at this ⊢; omega))); (case bl9 => (repeat (first | with_reducible assumption | with_reducible exact hq0 | with_reducible refine Below.drew ?_ | with_reducible refine Below.trans ?_ (hb.mono (by first | omega | (simp; done) | (simp; omega))) | with_reducible refine Below.setCell ?_ (by first | omega | (simp; done) | (simp; omega)) _ | with_reducible exact below_alloc_swap (by with_reducible assumption) (by first | omega | (simp; done) | (simp; omega)) | with_reducible refine Below.alloc ?_ (by first | omega | (simp; done) | (simp; omega)) _)))))
              ((go_at_call 100; (try go_split_ands); (with_reducible refine (HR1.out _ (by with_reducible assumption)).mono ?_); rintro ex wR ⟨AR, cR, rfl, ho, hb⟩; have OR := Lib.hid (ownsBase (base' := W5.heap.size) ho (by first | omega | (simp; omega))); clear ho; have hsR : W5.heap.size ≤ wR.heap.size := (by have := hb.size; first | omega | (simp at this; omega)); obtain ⟨hc, hf, hlb⟩ := bcell3 hb; dsimp only))
            all_goals (
              rename_i hH
              obtain ⟨-, -, -, -, hbl5⟩ := hH
              have O6 := Lib.hid (ownsKeep O5.out hbl5)
              have SR := Lib.hid (src_of (rowsA_own OR.out rfl) (owns_nilcap OR.out))
              have B6 := Lib.hid (BW5.out.trans (hbl5.mono BW5.out.size))
              have hs6 := B6.out.size
              clear g7 t0 t1 HR1 hq0 hbl5 BW5 O5 OR
              go_wp2_with (at_builtin; refine wpList_append_src _ rfl _ _ 23 rfl w.heap.size 70 i0 _ 48 Try.underlying23 Hi.out Hz0.out Hz1.out Hz2.out rfl _ zl.length zl rfl O6.out _ zr rfl SR.out (by unfold maxLen; omega) (by omega) hs6 ?_; intro v7 w7 ho7 hg7; obtain ⟨A7, k7, rfl⟩ := owns_formN ho7; have O7 := Lib.hid ho7; have B7 := Lib.hid (B6.out.grown hg7 hs6 (fun i e => (O6.out.lt i e).1)); clear ho7 hg7)
              refine bodyPost_ret (v := .tuple #[.slice A7 (zl.length + zr.length) k7, .int .i64 n2]) (by simp [results, Try.results100, go_sem]) rfl ?_
              rw [HM.out]
              have hlen : (zl ++ zr).length = zl.length + zr.length := by simp
              refine ⟨A7, k7, by rw [hlen], ?_, B7.out⟩
              rw [hlen]
              exact O7.out))
end Go.Proofs.Ytphinkcfmdnpfaa
namespace Go.Proofs.Ytphinkcfmdnpfaa
open Go.Shelf Go.RowKit Go.Lib

/-- Each node tells how many stand in its first tree. -/
def LeftT : Tr → Prop
  | .nil => True
  | .node x l r => x.i = l.many ∧ LeftT l ∧ LeftT r
theorem left_good : ∀ {T : Tr}, GoodT T → LeftT T
  | .nil, _ => trivial
  | .node _ _ _, h => ⟨h.1, left_good h.2.2.1, left_good h.2.2.2⟩
theorem nods_part {w : World} {b off lo n : Nat} {zs : List NodV} (h : NodsA w (some ⟨b, off, none⟩) zs) (hn : lo + n ≤ zs.length) : NodsA w (some ⟨b, off + lo * 6, none⟩) ((zs.drop lo).take n) := fun h0 => by
  have hz : 0 < zs.length := by rw [List.length_take, List.length_drop] at h0; omega
  obtain ⟨b', off', e, hlt, hc⟩ := h hz
  injection e with e
  injection e with e1 e2 e3
  subst e1 e2
  refine ⟨b, off + lo * 6, rfl, hlt, fun i x hx j v hv => ?_⟩
  have hx' : zs[lo + i]? = some x := by
    have hi : i < ((zs.drop lo).take n).length := (List.getElem?_eq_some_iff.1 hx).1
    rw [List.length_take, List.length_drop] at hi
    rw [List.getElem?_take_of_lt (by omega), List.getElem?_drop] at hx
    exact hx
  have := hc (lo + i) x hx' j v hv
  rwa [Nat.add_mul, ← Nat.add_assoc] at this

set_option maxRecDepth 100000 in
set_option maxHeartbeats 8000000 in
theorem l8Meet_any (a e : Int) (T : Tr) : ∀ (A : Option Addr) (cap : Nat) (w : World), NodsA w A T.list → T.list.length ≤ cap → T.many ≤ 1000 → LeftT T →
    Calls Try.prog 98 #[.slice A T.list.length cap, .agg #[.int .i64 a, .int .i64 e]] w (GetsRN w (meetT a e T).1 (meetT a e T).2) := by
  obtain ⟨i0, hi, hz0, hz1, hz2⟩ := info_parts Try.infoR70
  have Hi := Lib.hid hi
  have Hz0 := Lib.hid hz0
  have Hz1 := Lib.hid hz1
  have Hz2 := Lib.hid hz2
  clear hi hz0 hz1 hz2
  induction T with
  | nil =>
    intro A cap w _ _ _ _
    have e0 : Tr.nil.list.length = 0 := rfl
    rw [e0]
    go_enter Try.func98, Try.ntmps98
    go_wp2_with fail
    go_quiet (fail)
    have BN := Lib.hid (show Below w.heap.size w ((w.alloc (.cells #[.int .i64 a, .int .i64 e] 29)).drewN nq) from below_drewN ((Below.refl _ _).alloc (Nat.le_refl _) _) _)
    go_wp2
    refine bodyPost_ret (v := .tuple #[.slice none 0 0, .int .i64 0]) (by simp [results, Try.results98, go_sem]) rfl ?_
    exact ⟨none, 0, rfl, World.ownsRow_nil _ _ _ _, BN.out⟩
  | node x l r ihl ihr =>
    intro A cap w hz hcap hm hg
    have hme : (Tr.node x l r).many = l.many + 1 + r.many := rfl
    have hle : (Tr.node x l r).list = x :: (l.list ++ r.list) := rfl
    have hln : (Tr.node x l r).list.length = l.many + 1 + r.many := by rw [Tr.list_len]; rfl
    rw [hme] at hm
    obtain ⟨b, off, x', rfl, hbb, hx, c0, c1, c2, c3, c4, c5⟩ := NodsA.at_ hz (i := 0) (by rw [hln]; omega)
    rw [hle] at hx
    obtain rfl : x = x' := by simpa using hx
    simp only [Nat.zero_mul, Nat.add_zero] at c0 c1 c2 c3 c4 c5
    have hxi := hg.1
    rw [hxi] at c4
    obtain ⟨ml, hml9⟩ : ∃ ml, l.many = ml := ⟨_, rfl⟩
    obtain ⟨mr, hmr9⟩ : ∃ mr, r.many = mr := ⟨_, rfl⟩
    have hl1 : l.list = ((Tr.node x l r).list.drop 1).take ml := by rw [hle, ← hml9, ← Tr.list_len]; simp
    have hl2 : r.list = ((Tr.node x l r).list.drop (1 + ml)).take mr := by
      rw [hle, ← hml9, ← hmr9, ← Tr.list_len, ← Tr.list_len, show 1 + l.list.length = l.list.length + 1 by omega, List.drop_succ_cons, List.drop_left, List.take_length]
    have hll := l.list_len
    have hlr := r.list_len
    have HL := Lib.hid (fun w' (hb : Below w.heap.size w w') (ad : Addr) (cc : Nat) (hcc : ml ≤ cc) (ha : ¬ ml = 0 → ad = ⟨b, off + 1 * 6, none⟩) => ihl (some ad) cc w' (by
      by_cases h0 : ml = 0
      · have : l.list = [] := List.length_eq_zero_iff.1 (by omega)
        rw [this]; exact ElAt.nil _ _
      · rw [ha h0, hl1]
        exact (nods_part (lo := 1) (n := ml) hz (by rw [hln]; omega)).below hb) (by omega) (by omega) hg.2.1)
    have HR := Lib.hid (fun w' (hb : Below w.heap.size w w') (ad : Addr) (cc : Nat) (hcc : mr ≤ cc) (ha : ¬ mr = 0 → ad = ⟨b, off + (1 + ml) * 6, none⟩) => ihr (some ad) cc w' (by
      by_cases h0 : mr = 0
      · have : r.list = [] := List.length_eq_zero_iff.1 (by omega)
        rw [this]; exact ElAt.nil _ _
      · rw [ha h0, hl2]
        exact (nods_part (lo := 1 + ml) (n := mr) hz (by rw [hln]; omega)).below hb) (by omega) (by omega) hg.2.2)
    rw [hll, hml9] at HL
    rw [hlr, hmr9] at HR
    rw [hln, hml9, hmr9] at hcap ⊢
    rw [hml9] at c4
    have nml := meetT_many a e l
    have nmr := meetT_many a e r
    have HF := Lib.hid (meetT_far (a := a) (e := e) (x := x) (l := l) (r := r))
    have HA := Lib.hid (fun (q1 : a < x.o) => meetT_ahead (a := a) (e := e) (x := x) (l := l) (r := r) (show ¬ x.o ≤ a by omega))
    have HN := Lib.hid (fun (q1 : a < x.o) (q2 : x.r.f < e) => meetT_in (a := a) (e := e) (x := x) (l := l) (r := r) (show ¬ x.o ≤ a by omega) (show ¬ e ≤ x.r.f by omega))
    obtain ⟨pl, hml0⟩ : ∃ pl, meetT a e l = pl := ⟨_, rfl⟩
    obtain ⟨pr, hmr0⟩ : ∃ pr, meetT a e r = pr := ⟨_, rfl⟩
    rw [hml0] at HL HA HN nml
    rw [hmr0] at HR HN nmr
    obtain ⟨zl, nl⟩ := pl
    obtain ⟨zr, nr⟩ := pr
    dsimp only at HL HR HA HN nml nmr
    obtain ⟨M, hM⟩ : ∃ M, meetT a e (Tr.node x l r) = M := ⟨_, rfl⟩
    rw [hM] at HF HA HN ⊢
    have hnl : nl ≤ 1000 := by omega
    have hnr : nr ≤ 1000 := by omega
    have hzl : zl.length ≤ 1000 := by omega
    have hzr : zr.length ≤ 1000 := by omega
    have hw1 : IntKind.i64.wrap ((nl : Int) + 1) = ((nl + 1 : Nat) : Int) := (IntWalk.i64_in _ (by omega)).trans (by omega)
    have hw0 : IntKind.i64.wrap (((nl + nr : Nat) : Int) + 1) = ((nl + 1 + nr : Nat) : Int) := (IntWalk.i64_in _ (by omega)).trans (by omega)
    have hw2 : IntKind.i64.wrap ((nl : Int) + nr) = ((nl + nr : Nat) : Int) := (IntWalk.i64_in _ (by omega)).trans (by omega)
    have hw3 : IntKind.i64.wrap (1 + (ml : Int)) = ((1 + ml : Nat) : Int) := (IntWalk.i64_in _ (by omega)).trans (by omega)
    obtain ⟨n1, hn1⟩ : ∃ n1, nl + 1 = n1 := ⟨_, rfl⟩
    rw [hn1] at hw1 hw0 HA HN
    obtain ⟨n2, hn2⟩ : ∃ n2, n1 + nr = n2 := ⟨_, rfl⟩
    rw [hn2] at hw0 HN
    obtain ⟨n3, hn3⟩ : ∃ n3, nl + nr = n3 := ⟨_, rfl⟩
    rw [hn3] at hw0 hw2
    obtain ⟨len, hlen⟩ : ∃ len, ml + 1 + mr = len := ⟨_, rfl⟩
    rw [hlen] at hcap ⊢
    obtain ⟨lo, hlo⟩ : ∃ lo, 1 + ml = lo := ⟨_, rfl⟩
    rw [hlo] at hw3 HR
    have z0 : ((len : Int) == 0) = false := by rw [beq_eq_false_iff_ne]; omega
    have a0 : (0 : Int) < (len : Int) := by omega
    have a1 : (1 : Int) ≤ (lo : Int) := by omega
    have a2 : (lo : Int) ≤ (len : Int) := by omega
    have a3 : (len : Int) ≤ (cap : Int) := by omega
    have a4 : (lo : Int) ≤ (cap : Int) := by omega
    have e1 : lo - 1 = ml := by omega
    have e2 : len - lo = mr := by omega
    have k1 : ml ≤ cap - 1 := by omega
    have k2 : mr ≤ cap - lo := by omega
    have k3 : cap = 1 → ml = 0 := by omega
    have k4 : cap = lo → mr = 0 := by omega
    have K1 := Lib.hid k1
    have K2 := Lib.hid k2
    have K3 := Lib.hid k3
    have K4 := Lib.hid k4
    clear ihl ihr hz hm hg hme hle hln hx hxi hml9 hmr9 hl1 hl2 hll hlr nml nmr hml0 hmr0 hM hn1 hn2 hn3 hlen hlo k3 k4
    go_enter Try.func98, Try.ntmps98
    go_wp2_with fail
    generalize hW : w.alloc _ = W0
    have s0 : W0.cell? ⟨w.heap.size, 0, none⟩ = some (.int .i64 a) := by rw [← hW]; simp [go_sem]
    have s1 : W0.cell? ⟨w.heap.size, 1, none⟩ = some (.int .i64 e) := by rw [← hW]; simp [go_sem]
    have ls : w.heap.size < W0.heap.size := by rw [← hW]; simp
    have b0 : Below w.heap.size w W0 := by rw [← hW]; exact (Below.refl _ _).alloc (Nat.le_refl _) _
    clear hW
    replace c0 := cellBelow b0 hbb c0
    replace c1 := cellBelow b0 hbb c1
    replace c2 := cellBelow b0 hbb c2
    replace c3 := cellBelow b0 hbb c3
    replace c4 := cellBelow b0 hbb c4
    replace c5 := cellBelow b0 hbb c5
    have hbW : b < W0.heap.size := Nat.lt_of_lt_of_le hbb b0.size
    have B0 := Lib.hid b0
    clear b0
    by_cases h1 : x.o ≤ a
    · have n1 : decide (x.o ≤ a) = true := decide_eq_true h1
      have HM := Lib.hid (HF.out h1)
      clear h1
      go_quiet (fail)
      have BN := Lib.hid (show Below w.heap.size w (W0.drewN nq) from below_drewN B0.out _)
      go_wp2
      refine bodyPost_ret (v := .tuple #[.slice none 0 0, .int .i64 0]) (by simp [results, Try.results98, go_sem]) rfl ?_
      rw [HM.out]
      exact ⟨none, 0, rfl, World.ownsRow_nil _ _ _ _, BN.out⟩
    · have n1 : decide (x.o ≤ a) = false := decide_eq_false h1
      have H1 := Lib.hid (show a < x.o by omega)
      clear h1 HF
      go_quiet (fail)
      have B0N := Lib.hid (show Below w.heap.size w (W0.drewN nq) from below_drewN B0.out _)
      replace c0 : (W0.drewN nq).cell? ⟨b, off, none⟩ = some (.string x.r.k) := c0
      replace c1 : (W0.drewN nq).cell? ⟨b, off + 1, none⟩ = some (.string x.r.t) := c1
      replace c2 : (W0.drewN nq).cell? ⟨b, off + 2, none⟩ = some (.int .i64 x.r.f) := c2
      replace c3 : (W0.drewN nq).cell? ⟨b, off + 3, none⟩ = some (.int .i64 x.r.e) := c3
      replace c4 : (W0.drewN nq).cell? ⟨b, off + 4, none⟩ = some (.int .i64 ml) := c4
      replace s0 : (W0.drewN nq).cell? ⟨w.heap.size, 0, none⟩ = some (.int .i64 a) := s0
      replace s1 : (W0.drewN nq).cell? ⟨w.heap.size, 1, none⟩ = some (.int .i64 e) := s1
      replace ls : w.heap.size < (W0.drewN nq).heap.size := ls
      replace hbW : b < (W0.drewN nq).heap.size := hbW
      clear B0 n1 c5
      generalize W0.drewN nq = W0 at *
      go_wp2_with fail
      all_goals (
        with_reducible refine (HL.out _ B0N.out _ _ (by have q1 := K1.out; have q2 := K2.out; have q3 := K3.out; have q4 := K4.out; omega) (by intro hh; first | rfl | (exfalso; have q1 := K1.out; have q2 := K2.out; have q3 := K3.out; have q4 := K4.out; omega))).mono ?_
        rintro ex wL ⟨AL, cL, rfl, ho, hb⟩
        have HNS := Lib.hid (show ¬ (Value.slice AL zl.length cL).ownBlock = some w.heap.size from fun e => by have := (ho.lt _ e).1; omega)
        have OLw := Lib.hid (ownsBase (base' := w.heap.size) ho B0N.out.size)
        have BL := Lib.hid (B0N.out.trans (hb.mono B0N.out.size))
        replace c0 := cellBelow hb hbW c0
        replace c1 := cellBelow hb hbW c1
        replace c2 := cellBelow hb hbW c2
        replace c3 := cellBelow hb hbW c3
        replace s0 := cellBelow hb ls s0
        replace s1 := cellBelow hb ls s1
        replace ls : w.heap.size < wL.heap.size := Nat.lt_of_lt_of_le ls hb.size
        clear ho hb HL B0N c4 hbW z0
        clear e1 e2 hw3 a1 a2 a3 a4 k1 k2 hcap
        try (replace h : lo = 1 := h.symm)
        go_upto_region 6 with fail
        by_cases h2 : e ≤ x.r.f
        · have n1d : decide (e ≤ x.r.f) = true := decide_eq_true h2
          have HM := Lib.hid (HA.out H1.out h2)
          clear h2
          go_quiet (fail)
          have BN := Lib.hid (show Below w.heap.size w (wL.drewN nq) from below_drewN BL.out _)
          have ON := Lib.hid (show (wL.drewN nq).ownsRow w.heap.size 70 4 (.slice AL zl.length cL) zl.length (flatOf rowC zl) from OLw.out)
          go_wp2
          refine bodyPost_ret (v := .tuple #[.slice AL zl.length cL, .int .i64 n1]) (by simp [results, Try.results98, go_sem]) rfl ?_
          rw [HM.out]
          exact ⟨AL, cL, rfl, ON.out, BN.out⟩
        · have h2' : x.r.f < e := by omega
          have n1d : decide (e ≤ x.r.f) = false := decide_eq_false h2
          have HM := Lib.hid (HN.out H1.out h2')
          clear h2 h2'
          go_quiet (fail)
          have BNq := Lib.hid (show Below w.heap.size w (wL.drewN nq) from below_drewN BL.out _)
          have ONq := Lib.hid (show (wL.drewN nq).ownsRow w.heap.size 70 4 (.slice AL zl.length cL) zl.length (flatOf rowC zl) from OLw.out)
          replace c0 : (wL.drewN nq).cell? ⟨b, off, none⟩ = some (.string x.r.k) := c0
          replace c1 : (wL.drewN nq).cell? ⟨b, off + 1, none⟩ = some (.string x.r.t) := c1
          replace c2 : (wL.drewN nq).cell? ⟨b, off + 2, none⟩ = some (.int .i64 x.r.f) := c2
          replace c3 : (wL.drewN nq).cell? ⟨b, off + 3, none⟩ = some (.int .i64 x.r.e) := c3
          replace s0 : (wL.drewN nq).cell? ⟨w.heap.size, 0, none⟩ = some (.int .i64 a) := s0
          replace s1 : (wL.drewN nq).cell? ⟨w.heap.size, 1, none⟩ = some (.int .i64 e) := s1
          replace ls : w.heap.size < (wL.drewN nq).heap.size := ls
          clear BL OLw
          generalize wL.drewN nq = wL2 at *
          have BL := Lib.hid BNq.out
          have OLw := Lib.hid ONq.out
          clear BNq ONq
          clear n1d
          by_cases h3 : a < x.r.e
          · have n2d : decide (a < x.r.e) = true := decide_eq_true h3
            rw [if_pos h3] at HM
            clear h3
            go_wp2_with fail
            go_quiet (fail)
            have BNq := Lib.hid (show Below w.heap.size w (wL2.drewN nq) from below_drewN BL.out _)
            have ONq := Lib.hid (show (wL2.drewN nq).ownsRow w.heap.size 70 4 (.slice AL zl.length cL) zl.length (flatOf rowC zl) from OLw.out)
            replace c0 : (wL2.drewN nq).cell? ⟨b, off, none⟩ = some (.string x.r.k) := c0
            replace c1 : (wL2.drewN nq).cell? ⟨b, off + 1, none⟩ = some (.string x.r.t) := c1
            replace c2 : (wL2.drewN nq).cell? ⟨b, off + 2, none⟩ = some (.int .i64 x.r.f) := c2
            replace c3 : (wL2.drewN nq).cell? ⟨b, off + 3, none⟩ = some (.int .i64 x.r.e) := c3
            replace s0 : (wL2.drewN nq).cell? ⟨w.heap.size, 0, none⟩ = some (.int .i64 a) := s0
            replace s1 : (wL2.drewN nq).cell? ⟨w.heap.size, 1, none⟩ = some (.int .i64 e) := s1
            replace ls : w.heap.size < (wL2.drewN nq).heap.size := ls
            clear BL OLw
            generalize wL2.drewN nq = wL3 at *
            have BL := Lib.hid BNq.out
            have OLw := Lib.hid ONq.out
            clear BNq ONq
            clear n2d
            have hsM := BL.out.size
            go_wp2_with (at_builtin; refine wpList_append_own _ rfl _ _ 23 rfl w.heap.size 70 i0 _ 4 48 Try.underlying23 Hi.out Hz0.out Hz1.out Hz2.out rfl (by decide) _ zl.length (flatOf rowC zl) rfl (OLw.out.alloc _) ⟨wL3.heap.size, 0, none⟩ 1 1 [.string x.r.k, .string x.r.t, .int .i64 x.r.f, .int .i64 x.r.e] rfl rfl (newsFour (by simp) (by simp) (by simp) (by simp)) (by simp [Value.oneCell']) (by unfold maxLen; omega) (by omega) (by simp; omega) ?_; intro v5 w5 ho5 hg5 hn5; obtain ⟨A5, k5, rfl⟩ := owns_formN ho5; have O5 := Lib.hid (show w5.ownsRow w.heap.size 70 4 (.slice A5 (zl.length + 1) k5) (zl.length + 1) (flatOf rowC (zl ++ [x.r])) from by rw [flatOf_append, flatOf_one]; exact ho5); have B5p := Lib.hid ((BL.out.alloc hsM _).grown hg5 (by simp; omega) (fun i e => (OLw.out.lt i e).1)); have q0' : w5.cell? ⟨w.heap.size, 0, none⟩ = some (.int .i64 a) := (World.cell?_of_block (a := ⟨w.heap.size, 0, none⟩) (hg5.block w.heap.size (by simp; omega) (fun e => HNS.out e.symm))).trans ((World.cell?_alloc_lt _ _ _ ls).trans s0); have q1' : w5.cell? ⟨w.heap.size, 1, none⟩ = some (.int .i64 e) := (World.cell?_of_block (a := ⟨w.heap.size, 1, none⟩) (hg5.block w.heap.size (by simp; omega) (fun e => HNS.out e.symm))).trans ((World.cell?_alloc_lt _ _ _ ls).trans s1); clear ho5 hg5 hn5)
            go_wp2_with fail
            with_reducible refine (HR.out _ B5p.out _ _ (by have q1 := K1.out; have q2 := K2.out; have q3 := K3.out; have q4 := K4.out; omega) (by intro hh; first | rfl | (exfalso; have q1 := K1.out; have q2 := K2.out; have q3 := K3.out; have q4 := K4.out; omega))).mono ?_
            rintro ex wR ⟨AR, cR, rfl, ho, hb⟩
            have O6 := Lib.hid (ownsKeep O5.out hb)
            have SR := Lib.hid (src_of (rowsA_own ho rfl) (owns_nilcap ho))
            have B6 := Lib.hid (B5p.out.trans (hb.mono B5p.out.size))
            have hs6 := B6.out.size
            clear ho hb O5 B5p s0 s1 HR
            go_wp2_with (at_builtin; refine wpList_append_src _ rfl _ _ 23 rfl w.heap.size 70 i0 _ 48 Try.underlying23 Hi.out Hz0.out Hz1.out Hz2.out rfl _ (zl.length + 1) (zl ++ [x.r]) rfl O6.out _ zr rfl SR.out (by unfold maxLen; omega) (by omega) hs6 ?_; intro v7 w7 ho7 hg7; obtain ⟨A7, k7, rfl⟩ := owns_formN ho7; have O7 := Lib.hid ho7; have B7 := Lib.hid (B6.out.grown hg7 hs6 (fun i e => (O6.out.lt i e).1)); clear ho7 hg7)
            refine bodyPost_ret (v := .tuple #[.slice A7 ((zl.length + 1) + zr.length) k7, .int .i64 n2]) (by simp [results, Try.results98, go_sem]) rfl ?_
            rw [HM.out]
            have hlen : ((zl ++ [x.r]) ++ zr).length = (zl.length + 1) + zr.length := by rw [List.length_append, List.length_append]; rfl
            refine ⟨A7, k7, by rw [hlen], ?_, B7.out⟩
            rw [hlen]
            exact O7.out
          · have n2d : decide (a < x.r.e) = false := decide_eq_false h3
            rw [if_neg h3, List.append_nil] at HM
            clear h3
            go_wp2_with fail
            go_quiet (fail)
            have BNq := Lib.hid (show Below w.heap.size w (wL2.drewN nq) from below_drewN BL.out _)
            have ONq := Lib.hid (show (wL2.drewN nq).ownsRow w.heap.size 70 4 (.slice AL zl.length cL) zl.length (flatOf rowC zl) from OLw.out)
            replace c0 : (wL2.drewN nq).cell? ⟨b, off, none⟩ = some (.string x.r.k) := c0
            replace c1 : (wL2.drewN nq).cell? ⟨b, off + 1, none⟩ = some (.string x.r.t) := c1
            replace c2 : (wL2.drewN nq).cell? ⟨b, off + 2, none⟩ = some (.int .i64 x.r.f) := c2
            replace c3 : (wL2.drewN nq).cell? ⟨b, off + 3, none⟩ = some (.int .i64 x.r.e) := c3
            replace s0 : (wL2.drewN nq).cell? ⟨w.heap.size, 0, none⟩ = some (.int .i64 a) := s0
            replace s1 : (wL2.drewN nq).cell? ⟨w.heap.size, 1, none⟩ = some (.int .i64 e) := s1
            replace ls : w.heap.size < (wL2.drewN nq).heap.size := ls
            clear BL OLw
            generalize wL2.drewN nq = wL3 at *
            have BL := Lib.hid BNq.out
            have OLw := Lib.hid ONq.out
            clear BNq ONq
            clear n2d
            have O5 := Lib.hid OLw.out
            go_wp2_with fail
            with_reducible refine (HR.out _ BL.out _ _ (by have q1 := K1.out; have q2 := K2.out; have q3 := K3.out; have q4 := K4.out; omega) (by intro hh; first | rfl | (exfalso; have q1 := K1.out; have q2 := K2.out; have q3 := K3.out; have q4 := K4.out; omega))).mono ?_
            rintro ex wR ⟨AR, cR, rfl, ho, hb⟩
            have O6 := Lib.hid (ownsKeep O5.out hb)
            have SR := Lib.hid (src_of (rowsA_own ho rfl) (owns_nilcap ho))
            have B6 := Lib.hid (BL.out.trans (hb.mono BL.out.size))
            have hs6 := B6.out.size
            clear ho hb O5 BL s0 s1 HR
            go_wp2_with (at_builtin; refine wpList_append_src _ rfl _ _ 23 rfl w.heap.size 70 i0 _ 48 Try.underlying23 Hi.out Hz0.out Hz1.out Hz2.out rfl _ zl.length zl rfl O6.out _ zr rfl SR.out (by unfold maxLen; omega) (by omega) hs6 ?_; intro v7 w7 ho7 hg7; obtain ⟨A7, k7, rfl⟩ := owns_formN ho7; have O7 := Lib.hid ho7; have B7 := Lib.hid (B6.out.grown hg7 hs6 (fun i e => (O6.out.lt i e).1)); clear ho7 hg7)
            refine bodyPost_ret (v := .tuple #[.slice A7 (zl.length + zr.length) k7, .int .i64 n2]) (by simp [results, Try.results98, go_sem]) rfl ?_
            rw [HM.out]
            have hlen : (zl ++ zr).length = zl.length + zr.length := by rw [List.length_append]
            refine ⟨A7, k7, by rw [hlen], ?_, B7.out⟩
            rw [hlen]
            exact O7.out)
end Go.Proofs.Ytphinkcfmdnpfaa
