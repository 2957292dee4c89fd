/-
  Walks: rows in order that touch become one; the table that they are.
-/
import Derived.Test.YtfolppahdmkaoaaPut
import Derived.Test.YtfolppahdmkaoaaRelS
namespace Go.Proofs.Ytfolppahdmkaoaa
open Go.Shelf Go.RowKit Go.Lib Go.Sort

theorem rowsA_own {w : World} {base n : Nat} {A : Option Addr} {cap : Nat} {t : TypeId} {zs : List RowV} (h : w.ownsRow base t 4 (.slice A n cap) n (flatOf rowC zs)) (hn : n = zs.length) : RowsA w A zs := by
  subst hn
  intro h0
  rcases h.2 with ⟨e0, h1⟩ | ⟨g, c, cur, e0, hb, hg, _⟩
  · omega
  · injection e0 with e1 _ e3
    subst e1
    subst e3
    refine ⟨g, 0, rfl, (Array.getElem?_eq_some_iff.1 hg).1, fun i x hx j u hu => ?_⟩
    have hj : j < 4 := by have := (List.getElem?_eq_some_iff.1 hu).1; rwa [rowC_len] at this
    have hi : i < zs.length := (List.getElem?_eq_some_iff.1 hx).1
    rw [Nat.zero_add, h.cellAt (i * 4 + j) (by omega), flatOf_get rowC_len zs i x j hx hj]
    exact hu
/-- The last row of a list that a call owns. -/
theorem last_own {w : World} {base n : Nat} {v : Value} {o : List RowV} {y : RowV} (h : w.ownsRow base 45 4 v n (flatOf rowC (o ++ [y]))) (hn : n = o.length + 1) :
    ∃ g c, v = .slice (some ⟨g, 0, none⟩) n c ∧ base ≤ g ∧ g < w.heap.size ∧ w.cell? ⟨g, o.length * 4, none⟩ = some (.string y.k) ∧ w.cell? ⟨g, o.length * 4 + 1, none⟩ = some (.string y.t) ∧ w.cell? ⟨g, o.length * 4 + 2, none⟩ = some (.int .i64 y.f) ∧ w.cell? ⟨g, o.length * 4 + 3, none⟩ = some (.int .i64 y.e) ∧ ∀ j, w.frozen? ⟨g, j, none⟩ = false := by
  rcases h.2 with ⟨e0, h1⟩ | ⟨g, c, cur, e0, hb, hg, _⟩
  · omega
  · subst e0
    have hx : (o ++ [y])[o.length]? = some y := by simp
    have at_ : ∀ j, j < 4 → w.cell? ⟨g, o.length * 4 + j, none⟩ = (rowC y)[j]? := fun j hj => by
      rw [h.cellAt (o.length * 4 + j) (by omega), flatOf_get rowC_len (o ++ [y]) o.length y j hx hj]
    refine ⟨g, c, rfl, hb, (Array.getElem?_eq_some_iff.1 hg).1, at_ 0 (by omega), at_ 1 (by omega), at_ 2 (by omega), at_ 3 (by omega), fun j => ?_⟩
    simp [World.frozen?, hg]
theorem flat_last (o : List RowV) (y z : RowV) : ((((flatOf rowC (o ++ [y])).set (o.length * 4) (.string z.k)).set (o.length * 4 + 1) (.string z.t)).set (o.length * 4 + 2) (.int .i64 z.f)).set (o.length * 4 + 3) (.int .i64 z.e) = flatOf rowC (o ++ [z]) := by
  have hl : (flatOf rowC o).length = o.length * 4 := flatOf_length rowC_len o
  rw [flatOf_append, flatOf_append, flatOf_one, flatOf_one, ← hl]
  rw [List.set_append_right _ _ (by omega), List.set_append_right _ _ (by omega), List.set_append_right _ _ (by omega), List.set_append_right _ _ (by omega)]
  simp [rowC]
theorem newsFour {w : World} {g : Nat} {a b c d : Value} (h0 : w.cell? ⟨g, 0, none⟩ = some a) (h1 : w.cell? ⟨g, 1, none⟩ = some b) (h2 : w.cell? ⟨g, 2, none⟩ = some c) (h3 : w.cell? ⟨g, 3, none⟩ = some d) : ∀ j u, [a, b, c, d][j]? = some u → w.cell? ((⟨g, 0, none⟩ : Addr).add j) = some u := by
  intro j u h
  match j, h with
  | 0, h => simp at h; subst h; simpa [Addr.add] using h0
  | 1, h => simp at h; subst h; simpa [Addr.add] using h1
  | 2, h => simp at h; subst h; simpa [Addr.add] using h2
  | 3, h => simp at h; subst h; simpa [Addr.add] using h3
  | j + 4, h => simp at h
/-- Behind the test whether two rows touch: what was told, and where the one row lies. -/
def AtJoin (W : World) (y x : RowV) (s9 s10 : Value) (wx : World) : Prop :=
  ∃ (g' : Nat) (r : RowV), s9 = .pointer (some ⟨g', 0, none⟩) ∧ s10 = .bool (joinB y x) ∧ (joinB y x = true → r = ⟨y.k, y.t, y.f, x.e⟩) ∧ wx.cell? ⟨g', 0, none⟩ = some (.string r.k) ∧ wx.cell? ⟨g', 1, none⟩ = some (.string r.t) ∧ wx.cell? ⟨g', 2, none⟩ = some (.int .i64 r.f) ∧ wx.cell? ⟨g', 3, none⟩ = some (.int .i64 r.e) ∧ W.heap.size ≤ g' ∧ Below W.heap.size W wx
theorem touch_join (a b : RowV) : touchB a b = joinB a b := rfl

set_option maxRecDepth 100000 in
set_option maxHeartbeats 4000000 in
theorem folded_any (ob base : Nat) (v : Value) (zs : List RowV) (w : World) (hbx : BoxO w ob v) (hown : w.ownsRow base 45 4 v zs.length (flatOf rowC zs)) (hl : zs.length ≤ 4194304) :
    Calls Try.prog 73 #[.pointer (some ⟨ob, 0, none⟩), .func (.func 62) #[] #[]] w (GetsE rowC 4 45 w (joinRows zs)) := by
  obtain ⟨i0, hi, hz0, hz1, hz2⟩ := info_parts Try.infoR45
  have Hi := Lib.hid hi
  have Hz0 := Lib.hid hz0
  have Hz1 := Lib.hid hz1
  have Hz2 := Lib.hid hz2
  have c1 := hbx.cell1
  obtain ⟨A, kc, rfl⟩ := owns_sliceE hown
  have HZ := Lib.hid (rowsA_own hown rfl)
  clear hi hz0 hz1 hz2 hbx hown
  go_enter Try.func73, Try.ntmps73
  go_wp2
  go_loopw [5, 16] (fun v i wr => ∃ k : Nat, k ≤ zs.length ∧ i = .int .i64 k ∧ wr.ownsRow w.heap.size 45 4 v (joinRows (zs.take k)).length (flatOf rowC (joinRows (zs.take k))) ∧ Below w.heap.size w wr) (fun _ i _ => zs.length - (intOf i).toNat)
  case atStart => exact ⟨0, Nat.zero_le _, rfl, World.ownsRow_nil _ _ _ _, Below.refl _ _⟩
  case round =>
    obtain ⟨k, hk, rfl, hown, hbr⟩ := hrel
    have Hown := Lib.hid hown
    clear hown
    by_cases hlt : k < zs.length
    · obtain ⟨b, off, x, rfl, hb, hx, q0, q1, q2, q3⟩ := (HZ.out.below hbr).at_ hlt
      have HT := Lib.hid (join_take hx)
      have hlo := joinRows_len (zs.take k)
      rw [List.length_take, Nat.min_eq_left hk] at hlo
      obtain ⟨oo, hoo⟩ : ∃ oo, joinRows (zs.take k) = oo := ⟨_, rfl⟩
      rw [hoo] at Hown HT hlo
      clear hx hoo
      rcases List.eq_nil_or_concat oo with h0 | ⟨o, y, h0⟩
      · subst h0
        obtain ⟨A5, c5, rfl⟩ := owns_formN Hown.out
        have hs5 := hbr.size
        go_wp2_with (at_builtin; refine wpList_append_own _ rfl _ _ 27 rfl w.heap.size 45 i0 _ 4 48 Try.underlying27 Hi.out Hz0.out Hz1.out Hz2.out rfl (by decide) _ 0 (flatOf rowC []) rfl ((Hown.out.alloc _).alloc _) ⟨wr.heap.size + 1, 0, none⟩ 1 1 [.string x.k, .string x.t, .int .i64 x.f, .int .i64 x.e] rfl rfl (newsFour (by simp) (by simp) (by simp) (by simp)) (by simp [Value.oneCell']) (by unfold maxLen; omega) (by omega) (by simp; omega) ?_; intro v' w3 hown' hgrow hnil; have O3 := Lib.hid hown'; have B3 := Lib.hid (((hbr.alloc hs5 _).alloc (by simp; omega) _).grown hgrow (by simp; omega) (fun i e => by have := (Hown.out.lt i e).1; omega)); clear hown' hgrow hnil)
        refine ⟨⟨k + 1, by omega, by simp, ?_, B3.out⟩, ?_⟩
        · rw [HT.out]; exact O3.out
        · simp [intOf]; omega
      · rw [List.concat_eq_append] at h0
        subst h0
        have hlen : (o ++ [y]).length = o.length + 1 := by simp
        rw [hlen] at Hown hlo
        obtain ⟨g, c5, rfl, hgb, hgl, p0, p1, p2, p3, pf⟩ := last_own Hown.out rfl
        have hs5 := hbr.size
        clear hlen
        have hob1 : ((o.length : Nat) : Int) < (o.length : Int) + 1 := by omega
        have hob0 : (0 : Int) ≤ (o.length : Int) := by omega
        go_upto_region 7 with fail
        generalize hW : wr.alloc _ = W
        have e0 : W.cell? ⟨wr.heap.size, 0, none⟩ = some (.string x.k) := by rw [← hW]; simp [go_sem]
        have e1 : W.cell? ⟨wr.heap.size, 1, none⟩ = some (.string x.t) := by rw [← hW]; simp [go_sem]
        have e2 : W.cell? ⟨wr.heap.size, 2, none⟩ = some (.int .i64 x.f) := by rw [← hW]; simp [go_sem]
        have e3 : W.cell? ⟨wr.heap.size, 3, none⟩ = some (.int .i64 x.e) := by rw [← hW]; simp [go_sem]
        replace p0 : W.cell? ⟨g, o.length * 4, none⟩ = some (.string y.k) := by rw [← hW]; exact (World.cell?_alloc_lt _ _ _ hgl).trans p0
        replace p1 : W.cell? ⟨g, o.length * 4 + 1, none⟩ = some (.string y.t) := by rw [← hW]; exact (World.cell?_alloc_lt _ _ _ hgl).trans p1
        replace p2 : W.cell? ⟨g, o.length * 4 + 2, none⟩ = some (.int .i64 y.f) := by rw [← hW]; exact (World.cell?_alloc_lt _ _ _ hgl).trans p2
        replace p3 : W.cell? ⟨g, o.length * 4 + 3, none⟩ = some (.int .i64 y.e) := by rw [← hW]; exact (World.cell?_alloc_lt _ _ _ hgl).trans p3
        have OW := Lib.hid (show W.ownsRow w.heap.size 45 4 (.slice (some ⟨g, 0, none⟩) (o.length + 1) c5) (o.length + 1) (flatOf rowC (o ++ [y])) from by rw [← hW]; exact Hown.out.alloc _)
        have BW := Lib.hid (show Below w.heap.size w W from by rw [← hW]; exact hbr.alloc hs5 _)
        have lib : wr.heap.size < W.heap.size := by rw [← hW]; simp
        have lg : g < W.heap.size := by omega
        obtain ⟨ib, hib⟩ : ∃ ib, wr.heap.size = ib := ⟨_, rfl⟩
        rw [hib] at e0 e1 e2 e3 lib ⊢
        have hq0 : Below W.heap.size W W := Below.refl _ _
        clear hW q0 q1 q2 q3 Hown hbr hb hs5 hgl pf hib
        go_cut [9, 10] (fun s9 s10 wx => AtJoin W y x s9 s10 wx)
        case first =>
          go_region_held3 (fun w' => w'.cell? ⟨g, o.length * 4, none⟩ = some (.string y.k) ∧ w'.cell? ⟨g, o.length * 4 + 1, none⟩ = some (.string y.t) ∧ w'.cell? ⟨g, o.length * 4 + 2, none⟩ = some (.int .i64 y.f) ∧ w'.cell? ⟨g, o.length * 4 + 3, none⟩ = some (.int .i64 y.e) ∧ w'.cell? ⟨ib, 0, none⟩ = some (.string x.k) ∧ w'.cell? ⟨ib, 1, none⟩ = some (.string x.t) ∧ w'.cell? ⟨ib, 2, none⟩ = some (.int .i64 x.f) ∧ w'.cell? ⟨ib, 3, none⟩ = some (.int .i64 x.e) ∧ W.heap.size ≤ w'.heap.size ∧ Below W.heap.size W w')
            (((try go_split_ands); refine ⟨?c0, ?c1, ?c2, ?c3, ?c4, ?c5, ?c6, ?c7, ?s, ?b⟩; (case c0 => (repeat (first | with_reducible assumption | with_reducible refine cell_below hb (by first | omega | (simp; done) | (simp; omega)) ?_ | with_reducible refine cell_set_far (by first | omega | (simp; done) | (simp; omega)) ?_ | with_reducible exact cell_alloc_swap (by with_reducible assumption) (by first | omega | (simp; done) | (simp; omega)) | with_reducible refine cell_alloc_far ?_ | with_reducible refine cell_drew ?_))); (case c1 => (repeat (first | with_reducible assumption | with_reducible refine cell_below hb (by first | omega | (simp; done) | (simp; omega)) ?_ | with_reducible refine cell_set_far (by first | omega | (simp; done) | (simp; omega)) ?_ | with_reducible exact cell_alloc_swap (by with_reducible assumption) (by first | omega | (simp; done) | (simp; omega)) | with_reducible refine cell_alloc_far ?_ | with_reducible refine cell_drew ?_))); (case c2 => (repeat (first | with_reducible assumption | with_reducible refine cell_below hb (by first | omega | (simp; done) | (simp; omega)) ?_ | with_reducible refine cell_set_far (by first | omega | (simp; done) | (simp; omega)) ?_ | with_reducible exact cell_alloc_swap (by with_reducible assumption) (by first | omega | (simp; done) | (simp; omega)) | with_reducible refine cell_alloc_far ?_ | with_reducible refine cell_drew ?_))); (case c3 => (repeat (first | with_reducible assumption | with_reducible refine cell_below hb (by first | omega | (simp; done) | (simp; omega)) ?_ | with_reducible refine cell_set_far (by first | omega | (simp; done) | (simp; omega)) ?_ | with_reducible exact cell_alloc_swap (by with_reducible assumption) (by first | omega | (simp; done) | (simp; omega)) | with_reducible refine cell_alloc_far ?_ | with_reducible refine cell_drew ?_))); (case c4 => (repeat (first | with_reducible assumption | with_reducible refine cell_below hb (by first | omega | (simp; done) | (simp; omega)) ?_ | with_reducible refine cell_set_far (by first | omega | (simp; done) | (simp; omega)) ?_ | with_reducible exact cell_alloc_swap (by with_reducible assumption) (by first | omega | (simp; done) | (simp; omega)) | with_reducible refine cell_alloc_far ?_ | with_reducible refine cell_drew ?_))); (case c5 => (repeat (first | with_reducible assumption | with_reducible refine cell_below hb (by first | omega | (simp; done) | (simp; omega)) ?_ | with_reducible refine cell_set_far (by first | omega | (simp; done) | (simp; omega)) ?_ | with_reducible exact cell_alloc_swap (by with_reducible assumption) (by first | omega | (simp; done) | (simp; omega)) | with_reducible refine cell_alloc_far ?_ | with_reducible refine cell_drew ?_))); (case c6 => (repeat (first | with_reducible assumption | with_reducible refine cell_below hb (by first | omega | (simp; done) | (simp; omega)) ?_ | with_reducible refine cell_set_far (by first | omega | (simp; done) | (simp; omega)) ?_ | with_reducible exact cell_alloc_swap (by with_reducible assumption) (by first | omega | (simp; done) | (simp; omega)) | with_reducible refine cell_alloc_far ?_ | with_reducible refine cell_drew ?_))); (case c7 => (repeat (first | with_reducible assumption | with_reducible refine cell_below hb (by first | omega | (simp; done) | (simp; omega)) ?_ | with_reducible refine cell_set_far (by first | omega | (simp; done) | (simp; omega)) ?_ | with_reducible exact cell_alloc_swap (by with_reducible assumption) (by first | omega | (simp; done) | (simp; omega)) | with_reducible refine cell_alloc_far ?_ | with_reducible refine cell_drew ?_))); (case s => (first | with_reducible assumption | (have := hb.size; omega) | omega | (simp; done) | (simp; omega) | (have := hb.size; simp at this ⊢; omega))); (case b => (repeat (first | with_reducible assumption | with_reducible exact hq0 | with_reducible refine Below.drew ?_ | with_reducible refine Below.trans ?_ (hb.mono (by first | omega | (simp; done) | (simp; omega))) | with_reducible refine Below.setCell ?_ (by first | omega | (simp; done) | (simp; omega)) _ | with_reducible exact below_alloc_swap (by with_reducible assumption) (by first | omega | (simp; done) | (simp; omega)) | with_reducible refine Below.alloc ?_ (by first | omega | (simp; done) | (simp; omega)) _)))))
            ((go_at_call 62; refine (joined_any y x _).mono ?_; rintro e w1 ⟨⟨r, hr, rfl⟩, hb⟩; have hsz : W.heap.size ≤ w1.heap.size := (by have := hb.size; first | omega | (simp at this; omega)); obtain ⟨hc, hf, hl⟩ := bcell3 hb; (try (have hz2 : W.heap.size < w1.heap.size := (by have := hb.size; first | omega | (simp at this; omega))))))
          all_goals (go_wp2_with fail; go_meet; unfold AtJoin; rename_i hH; obtain ⟨z0, z1, z2, z3, z4, z5, z6, z7, z8, z9⟩ := hH; refine ⟨_, r, rfl, rfl, hr, ?_, ?_, ?_, ?_, ?_, z9⟩)
          any_goals (first | omega | (simp; omega) | (go_simp; done) | (simp (maxDischargeDepth := 6) [*, go_sem]; done))
          all_goals go_show
        case rest =>
          obtain ⟨g', r, rfl, rfl, hr, k0, k1, k2, k3, hg', hbW⟩ := hcut
          have hwc := hbW.size
          have OC := Lib.hid (ownsKeep OW.out hbW)
          have BC := Lib.hid (BW.out.trans (hbW.mono BW.out.size))
          replace p0 := cellBelow hbW lg p0
          replace p1 := cellBelow hbW lg p1
          replace p2 := cellBelow hbW lg p2
          replace p3 := cellBelow hbW lg p3
          replace e0 := cellBelow hbW lib e0
          replace e1 := cellBelow hbW lib e1
          replace e2 := cellBelow hbW lib e2
          replace e3 := cellBelow hbW lib e3
          have HR := Lib.hid hr
          have hsw := BW.out.size
          clear hbW OW BW hq0 hr
          cases hj : joinB y x
          · have HJ := Lib.hid hj
            have HT2 := Lib.hid (show joinRows (zs.take (k + 1)) = o ++ [y] ++ [x] from by rw [HT.out, joinStep_at, touch_join, HJ.out]; rfl)
            clear hj
            go_wp2_with (at_builtin; refine wpList_append_own _ rfl _ _ 27 rfl w.heap.size 45 i0 _ 4 48 Try.underlying27 Hi.out Hz0.out Hz1.out Hz2.out rfl (by decide) _ (o.length + 1) (flatOf rowC (o ++ [y])) rfl (OC.out.alloc _) ⟨wc.heap.size, 0, none⟩ 1 1 [.string x.k, .string x.t, .int .i64 x.f, .int .i64 x.e] rfl rfl (newsFour (by simp) (by simp) (by simp) (by simp)) (by simp [Value.oneCell']) (by unfold maxLen; omega) (by omega) (by simp; omega) ?_; intro v' w3 hown' hgrow hnil; have O3 := Lib.hid hown'; have B3 := Lib.hid ((BC.out.alloc (by omega) _).grown hgrow (by simp; omega) (fun i e => by have := (OC.out.lt i e).1; omega)); clear hown' hgrow hnil)
            refine ⟨⟨k + 1, by omega, by simp, ?_, B3.out⟩, ?_⟩
            · rw [HT2.out, flatOf_append, flatOf_one]
              have := O3.out
              rw [show (o ++ [y] ++ [x]).length = o.length + 1 + 1 by simp]
              exact this
            · simp [intOf]; omega
          · have HJ := Lib.hid hj
            have HT2 := Lib.hid (show joinRows (zs.take (k + 1)) = o ++ [joinR y x] from by rw [HT.out, joinStep_at, touch_join, HJ.out]; rfl)
            have hr := HR.out hj
            subst hr
            have pf : ∀ j, wc.frozen? ⟨g, j, none⟩ = false := fun j => by simpa using OC.out.frozenAt j
            clear hj
            go_wp2
            go_roundw
            case measure => simp [intOf]; omega
            case rel =>
              refine ⟨k + 1, by omega, by go_num, ?_, ?_⟩
              · rw [HT2.out]
                have s1 := (OC.out.stored (o.length * 4) (.string y.k)).1
                have s2 := (s1.stored (o.length * 4 + 1) (.string y.t)).1
                have s3 := (s2.stored (o.length * 4 + 2) (.int .i64 y.f)).1
                have s4 := (s3.stored (o.length * 4 + 3) (.int .i64 x.e)).1
                rw [show (o ++ [joinR y x]).length = o.length + 1 by simp, ← flat_last o y (joinR y x)]
                exact s4
              · repeat (first | exact BC.out | refine Below.setCell ?_ (by first | omega | (simp; done) | (simp; omega)) _)
    · obtain rfl : k = zs.length := by omega
      rw [List.take_length] at Hown
      obtain ⟨A', c', hv⟩ := owns_sliceE Hown.out
      subst hv
      go_wp2
      go_ret
      exact ⟨A', c', rfl, Hown.out, hbr⟩
theorem joinStep_all {p : RowV → Prop} (hj : ∀ y x, p y → p x → p (joinR y x)) {out : List RowV} {x : RowV} (h1 : ∀ y ∈ out, p y) (h2 : p x) : ∀ y ∈ joinStep out x, p y := by
  rcases List.eq_nil_or_concat out with h | ⟨o, z, h⟩
  · subst h; intro y hy; simp [joinStep] at hy; subst hy; exact h2
  · rw [List.concat_eq_append] at h
    subst h
    rw [joinStep_at]
    have hz : p z := h1 z (by simp)
    have ho : ∀ y ∈ o, p y := fun y hy => h1 y (by simp [hy])
    by_cases ht : touchB z x = true
    · rw [if_pos ht]
      intro y hy
      rcases List.mem_append.1 hy with hy | hy
      · exact ho y hy
      · rw [List.mem_singleton.1 hy]; exact hj z x hz h2
    · rw [if_neg ht]
      intro y hy
      rcases List.mem_append.1 hy with hy | hy
      · exact h1 y hy
      · rw [List.mem_singleton.1 hy]; exact h2
theorem joinRows_all {p : RowV → Prop} (hj : ∀ y x, p y → p x → p (joinR y x)) {zs : List RowV} (h : ∀ x ∈ zs, p x) : ∀ x ∈ joinRows zs, p x := by
  have : ∀ (l out : List RowV), (∀ y ∈ out, p y) → (∀ x ∈ l, p x) → ∀ y ∈ l.foldl joinStep out, p y := by
    intro l
    induction l with
    | nil => intro out h1 _ y hy; exact h1 y hy
    | cons x l ih => intro out h1 h2; exact ih _ (joinStep_all hj h1 (h2 x (by simp))) (fun z hz => h2 z (by simp [hz]))
  exact this zs [] (by intro y hy; cases hy) h
theorem owns_baseE {w : World} {base base' n : Nat} {v : Value} {xs : List Value} {e : TypeId} {size : Nat} (h : w.ownsRow base e size v n xs) (hb : base' ≤ base) : w.ownsRow base' e size v n xs :=
  ⟨h.1, h.2.imp id fun ⟨g, c, cur, e1, e2, r⟩ => ⟨g, c, cur, e1, Nat.le_trans hb e2, r⟩⟩
/-- Texts that are not too long for a machine. -/
def Short (zs : List RowV) : Prop := ∀ r ∈ zs, r.k.size ≤ maxLen ∧ r.t.size ≤ maxLen
theorem Short.join {zs : List RowV} (h : Short zs) : Short (joinRows zs) := joinRows_all (p := fun r => r.k.size ≤ maxLen ∧ r.t.size ≤ maxLen) (fun _ _ hy _ => hy) h
theorem Short.perm {zs l : List RowV} (h : Short zs) (hp : l.Perm zs) : Short l := fun r hr => h r (hp.subset hr)
/-- The table of rows in order, and whether it is one. -/
def tableP (s : List RowV) : List RowV × Bool := if relOk (joinRows s) = true then (joinRows s, true) else ([], false)
/-- A slice of rows and a bool. -/
def GetsRB (w : World) (p : List RowV × Bool) (e : Ending) (w' : World) : Prop :=
  ∃ A cap, e = .returned (.tuple #[.slice A p.1.length cap, .bool p.2]) ∧ w'.ownsRow w.heap.size 45 4 (.slice A p.1.length cap) p.1.length (flatOf rowC p.1) ∧ Below w.heap.size w w'

set_option maxRecDepth 100000 in
set_option maxHeartbeats 4000000 in
theorem tableOf_any (base : Nat) (v : Value) (zs : List RowV) (w : World) (hown : w.ownsRow base 45 4 v zs.length (flatOf rowC zs)) (hl : zs.length ≤ 1048577) (hs : Short zs) :
    Calls Try.prog 52 #[.agg #[.func (.func 50) #[] #[], v]] w (GetsRB w (tableP zs)) := by
  have HO := Lib.hid hown
  have HS := Lib.hid hs
  have hjl := joinRows_len zs
  obtain ⟨js, hjs⟩ : ∃ js, joinRows zs = js := ⟨_, rfl⟩
  have HJ := Lib.hid hjs
  rw [hjs] at hjl
  obtain ⟨ok, hok⟩ : ∃ ok, relOk js = ok := ⟨_, rfl⟩
  have HK := Lib.hid hok
  clear hown hs hjs hok
  go_enter Try.func52, Try.ntmps52
  go_wp2_with fail
  refine (folded_any w.heap.size base v zs _ ?_ (HO.out.alloc _) (by omega)).mono ?_
  · show (w.alloc _).heap[w.heap.size]? = _
    exact heap_alloc_new w _
  rintro e w1 ⟨A1, c1, rfl, ho1, hb1⟩
  rw [HJ.out] at ho1 ⊢
  have O1 := Lib.hid ho1
  have B1 := Lib.hid (((Below.refl w.heap.size w).alloc (Nat.le_refl _) (.cells #[.func (.func 50) #[] #[], v] 72)).trans (hb1.mono (by simp)))
  clear ho1 hb1
  go_wp2_with fail
  refine (RelOk_any A1 c1 js w1 (rowsA_own O1.out rfl) (by omega) (by rw [← HJ.out]; exact HS.out.join)).mono ?_
  rintro e w2 ⟨rfl, hb2⟩
  rw [HK.out]
  have O2 := Lib.hid (ownsKeep O1.out hb2)
  have B2 := Lib.hid (B1.out.trans (hb2.mono B1.out.size))
  clear hb2
  cases ok
  · go_wp2
    have HP : tableP zs = ([], false) := by rw [tableP, HJ.out, HK.out]; rfl
    refine bodyPost_ret (v := .tuple #[.slice none 0 0, .bool false]) (by simp [results, Try.results52, go_sem]) rfl ?_
    rw [HP]
    exact ⟨none, 0, rfl, World.ownsRow_nil _ _ _ _, B2.out⟩
  · go_wp2
    have HP : tableP zs = (js, true) := by rw [tableP, HJ.out, HK.out]; rfl
    refine bodyPost_ret (v := .tuple #[.slice A1 js.length c1, .bool true]) (by simp [results, Try.results52, go_sem]) rfl ?_
    rw [HP]
    exact ⟨A1, c1, rfl, owns_baseE O2.out (by simp), B2.out⟩
end Go.Proofs.Ytfolppahdmkaoaa
