/-
  Walks: what is updated: the program and the model.
-/
import Derived.Test.YtgclmldhdjmabaaGreatDmlB
namespace Go.Proofs.YtgclmldhdjmabaaGreat
open Go.Shelf Go.RowKit Go.Lib Go.Sort

def updRow (r x : RowV) : List RowV := cutRow r.k r.f r.e x ++ (meetRow r x).toList
theorem perm_flat {f g : RowV → List RowV} : ∀ zs : List RowV, (zs.flatMap fun x => f x ++ g x).Perm (zs.flatMap f ++ zs.flatMap g)
  | [] => List.Perm.refl _
  | x :: l => by
    rw [List.flatMap_cons, List.flatMap_cons, List.flatMap_cons, List.append_assoc, List.append_assoc]
    refine List.Perm.append_left _ ?_
    refine ((perm_flat l).append_left (g x)).trans ?_
    rw [← List.append_assoc, ← List.append_assoc]
    exact List.perm_append_comm.append_right _
theorem upd_flat (r : RowV) : ∀ zs : List RowV, zs.flatMap (fun x => (meetRow r x).toList) = updRows zs r
  | [] => rfl
  | x :: l => by
    rw [List.flatMap_cons, upd_flat r l]
    unfold updRows
    rw [List.filterMap_cons]
    cases meetRow r x <;> rfl
theorem upd_perm (zs : List RowV) (r : RowV) : (zs.flatMap (updRow r) ++ []).Perm (cutL zs r.k r.f r.e ++ updRows zs r) := by
  rw [List.append_nil, ← upd_flat]
  exact perm_flat zs
theorem updRow_len (r x : RowV) : (updRow r x).length ≤ 3 := by
  unfold updRow
  have := cut_len r.k r.f r.e x
  rw [List.length_append]
  cases meetRow r x <;> simp <;> omega
theorem meet_texts {r x y : RowV} (h : meetRow r x = some y) : y.k = r.k ∧ y.t = r.t := ⟨(meet_in h).1, (meet_in h).2.1⟩
theorem updRow_short {zs : List RowV} {r : RowV} (h : Short zs) (hr : r.k.size ≤ maxLen ∧ r.t.size ≤ maxLen) : ∀ x ∈ zs, Short (updRow r x) := fun x hx y hy => by
  rcases List.mem_append.1 hy with hy | hy
  · exact cutRow_short h x hx y hy
  · cases hm : meetRow r x with
    | none => rw [hm] at hy; cases hy
    | some z =>
      rw [hm] at hy
      have : y = z := by simpa using hy
      subst this
      rw [(meet_texts hm).1, (meet_texts hm).2]
      exact hr
theorem meetRow_no1 {r x : RowV} (h : (x.k.toList == r.k.toList) = false) : meetRow r x = none := by unfold meetRow meetB; rw [h]; rfl
theorem meetRow_no2 {r x : RowV} (h : mB x.f x.e r.f r.e = false) : meetRow r x = none := by unfold meetRow meetB; rw [show decide (max x.f r.f < min x.e r.e) = false from h, Bool.and_false]; rfl
theorem meetRow_yes {r x : RowV} (h1 : (x.k.toList == r.k.toList) = true) (h2 : mB x.f x.e r.f r.e = true) : meetRow r x = some ⟨r.k, r.t, max x.f r.f, min x.e r.e⟩ := by unfold meetRow meetB; rw [h1, show decide (max x.f r.f < min x.e r.e) = true from h2]; rfl
theorem mF_yes {a b c d : Int} (h : mB a b c d = true) : mF a b c d = max a c ∧ mT a b c d = min b d := by
  have : max a c < min b d := by simpa [mB] using h
  simp [mF, mT, this]

set_option maxHeartbeats 1000000 in
theorem replaced_any (r : RowV) (w : World) : Calls Tryz.prog 17 #[.agg #[.string r.k, .string r.t, .int .i64 r.f, .int .i64 r.e]] w fun e w' => ∃ fb rb kb sb : Nat, e = .returned (.func (.func 34) #[] #[.pointer (some ⟨fb, 0, none⟩), .pointer (some ⟨rb, 0, none⟩)]) ∧ w'.cell? ⟨fb, 0, none⟩ = some (.func (.func 56) #[] #[.pointer (some ⟨kb, 0, none⟩), .pointer (some ⟨sb, 0, none⟩)]) ∧ w'.cell? ⟨kb, 0, none⟩ = some (.string r.k) ∧ w'.cell? ⟨sb, 0, none⟩ = some (.int .i64 r.f) ∧ w'.cell? ⟨sb, 1, none⟩ = some (.int .i64 r.e) ∧ w'.cell? ⟨rb, 0, none⟩ = some (.string r.k) ∧ w'.cell? ⟨rb, 1, none⟩ = some (.string r.t) ∧ w'.cell? ⟨rb, 2, none⟩ = some (.int .i64 r.f) ∧ w'.cell? ⟨rb, 3, none⟩ = some (.int .i64 r.e) ∧ Below w.heap.size w w' := by
  go_enter Tryz.func17, Tryz.ntmps17
  go_wp2_with fail
  refine (removed_any r.k r.f r.e _).mono ?_
  rintro e w1 ⟨kb, sb, rfl, kc, sc0, sc1, lk, ls, hb⟩
  have r0 : w1.cell? ⟨w.heap.size, 0, none⟩ = some (.string r.k) := cellBelow hb (by simp) (by simp)
  have r1 : w1.cell? ⟨w.heap.size, 1, none⟩ = some (.string r.t) := cellBelow hb (by simp) (by simp)
  have r2 : w1.cell? ⟨w.heap.size, 2, none⟩ = some (.int .i64 r.f) := cellBelow hb (by simp) (by simp)
  have r3 : w1.cell? ⟨w.heap.size, 3, none⟩ = some (.int .i64 r.e) := cellBelow hb (by simp) (by simp)
  have B1 := Lib.hid (((Below.refl w.heap.size w).alloc (Nat.le_refl _) (.cells #[.string r.k, .string r.t, .int .i64 r.f, .int .i64 r.e] 27)).trans (hb.mono (by simp)))
  have hs1 := B1.out.size
  clear hb
  go_wp2
  go_ret
  exact ⟨w1.heap.size, w.heap.size, kb, sb, rfl, by simp, cell_alloc_far kc, cell_alloc_far sc0, cell_alloc_far sc1, cell_alloc_far r0, cell_alloc_far r1, cell_alloc_far r2, cell_alloc_far r3, B1.out.alloc hs1 _⟩

set_option maxRecDepth 100000 in
set_option maxHeartbeats 4000000 in
theorem replaced1_any (fb rb kb sb : Nat) (r x : RowV) (w : World) (fc : w.cell? ⟨fb, 0, none⟩ = some (.func (.func 56) #[] #[.pointer (some ⟨kb, 0, none⟩), .pointer (some ⟨sb, 0, none⟩)])) (kc : w.cell? ⟨kb, 0, none⟩ = some (.string r.k)) (s0 : w.cell? ⟨sb, 0, none⟩ = some (.int .i64 r.f)) (s1 : w.cell? ⟨sb, 1, none⟩ = some (.int .i64 r.e))
    (q0 : w.cell? ⟨rb, 0, none⟩ = some (.string r.k)) (q1 : w.cell? ⟨rb, 1, none⟩ = some (.string r.t)) (q2 : w.cell? ⟨rb, 2, none⟩ = some (.int .i64 r.f)) (q3 : w.cell? ⟨rb, 3, none⟩ = some (.int .i64 r.e)) (hx : 0 ≤ x.f ∧ x.f < x.e ∧ x.e ≤ 100) (hr : 0 ≤ r.f ∧ r.f < r.e ∧ r.e ≤ 100) :
    Calls Tryz.prog 34 #[.agg #[.string x.k, .string x.t, .int .i64 x.f, .int .i64 x.e], .pointer (some ⟨fb, 0, none⟩), .pointer (some ⟨rb, 0, none⟩)] w (GetsE rowC 4 27 w (updRow r x)) := by
  obtain ⟨i0, hi, hz0, hz1, hz2⟩ := info_parts Tryz.infoR27
  have Hi := Lib.hid hi
  have Hz0 := Lib.hid hz0
  have Hz1 := Lib.hid hz1
  have Hz2 := Lib.hid hz2
  clear hi hz0 hz1 hz2
  have lf : fb < w.heap.size := World.block_lt_of_cell? _ _ fc
  have lk : kb < w.heap.size := World.block_lt_of_cell? _ _ kc
  have ls : sb < w.heap.size := World.block_lt_of_cell? _ _ s0
  have lr : rb < w.heap.size := World.block_lt_of_cell? _ _ q0
  have HX := Lib.hid hx
  have HR := Lib.hid hr
  have hcl := cut_len r.k r.f r.e x
  clear hx hr
  go_enter Tryz.func34, Tryz.ntmps34
  obtain ⟨W0, hW⟩ : ∃ W0, w.alloc (.cells #[.string x.k, .string x.t, .int .i64 x.f, .int .i64 x.e] 27) = W0 := ⟨_, rfl⟩
  have x0 : W0.cell? ⟨w.heap.size, 0, none⟩ = some (.string x.k) := by rw [← hW]; simp
  have x1 : W0.cell? ⟨w.heap.size, 1, none⟩ = some (.string x.t) := by rw [← hW]; simp
  have x2 : W0.cell? ⟨w.heap.size, 2, none⟩ = some (.int .i64 x.f) := by rw [← hW]; simp
  have x3 : W0.cell? ⟨w.heap.size, 3, none⟩ = some (.int .i64 x.e) := by rw [← hW]; simp
  have lx : w.heap.size < W0.heap.size := by rw [← hW]; simp
  have hb0 : Below w.heap.size w W0 := by rw [← hW]; exact (Below.refl _ _).alloc (Nat.le_refl _) _
  replace fc := cellBelow hb0 lf fc
  replace kc := cellBelow hb0 lk kc
  replace s0 := cellBelow hb0 ls s0
  replace s1 := cellBelow hb0 ls s1
  replace q0 := cellBelow hb0 lr q0
  replace q1 := cellBelow hb0 lr q1
  replace q2 := cellBelow hb0 lr q2
  replace q3 := cellBelow hb0 lr q3
  have lr0 : rb < W0.heap.size := by omega
  have B0 := Lib.hid hb0
  have HW := Lib.hid hW
  clear hb0 hW
  go_upto_region 1 with fail
  rw [HW.out]
  go_wp2_with fail
  refine (removed1_any kb sb r.k r.f r.e x _ kc s0 s1 HX.out HR.out).mono ?_
  obtain ⟨cs, hcs⟩ : ∃ cs, cutRow r.k r.f r.e x = cs := ⟨_, rfl⟩
  have HF := Lib.hid (show updRow r x = cs ++ (meetRow r x).toList from by unfold updRow; rw [hcs])
  rw [hcs] at hcl ⊢
  clear hcs
  rintro e w2 ⟨A2, c2, rfl, ho2, hb2⟩
  have O2 := Lib.hid ho2
  replace x0 := cellBelow hb2 lx x0
  replace x2 := cellBelow hb2 lx x2
  replace x3 := cellBelow hb2 lx x3
  replace q0 := cellBelow hb2 lr0 q0
  replace q1 := cellBelow hb2 lr0 q1
  replace q2 := cellBelow hb2 lr0 q2
  replace q3 := cellBelow hb2 lr0 q3
  have lx2 := Nat.lt_of_lt_of_le lx hb2.size
  have lr2 := Nat.lt_of_lt_of_le lr0 hb2.size
  have B2 := Lib.hid (B0.out.trans (hb2.mono (Nat.le_of_lt lx)))
  have hs02 := hb2.size
  clear ho2 hb2 fc kc s0 s1 x1 B0
  go_wp2_with fail
  refine (meet_any x.f x.e r.f r.e _).mono ?_
  rintro e w3 ⟨rfl, hb3⟩
  have O3 := Lib.hid (ownsKeep O2.out hb3)
  replace x0 := cellBelow hb3 lx2 x0
  replace q0 := cellBelow hb3 lr2 q0
  replace q1 := cellBelow hb3 lr2 q1
  replace q2 := cellBelow hb3 lr2 q2
  replace q3 := cellBelow hb3 lr2 q3
  have lx3 := Nat.lt_of_lt_of_le lx2 hb3.size
  have lr3 := Nat.lt_of_lt_of_le lr2 hb3.size
  have B3 := Lib.hid (B2.out.trans (hb3.mono (Nat.le_of_lt lx2)))
  have hs3 := B3.out.size
  have hs23 := hb3.size
  have hbase : w.heap.size ≤ W0.heap.size := Nat.le_of_lt lx
  have hs03 : W0.heap.size ≤ w3.heap.size := Nat.le_trans hs02 hs23
  clear hb3 x2 x3 O2 B2
  cases hm : mB x.f x.e r.f r.e
  · have HE := Lib.hid (show updRow r x = cs from by rw [HF.out, meetRow_no2 hm]; simp)
    generalize mF x.f x.e r.f r.e = f9
    generalize mT x.f x.e r.f r.e = t9
    go_wp2
    go_ret
    rw [HE.out]
    exact ⟨A2, c2, rfl, owns_baseE (O3.out.alloc _) hbase, B3.out.alloc hs3 _⟩
  · obtain ⟨e1, e2⟩ := mF_yes hm
    rw [e1, e2]
    cases hk : (x.k.toList == r.k.toList)
    · have HE := Lib.hid (show updRow r x = cs from by rw [HF.out, meetRow_no1 hk]; simp)
      clear e1 e2
      generalize max x.f r.f = f9
      generalize min x.e r.e = t9
      go_wp2
      go_ret
      rw [HE.out]
      exact ⟨A2, c2, rfl, owns_baseE (O3.out.alloc _) hbase, B3.out.alloc hs3 _⟩
    · have HE := Lib.hid (show updRow r x = cs ++ [⟨r.k, r.t, max x.f r.f, min x.e r.e⟩] from by rw [HF.out, meetRow_yes hk hm]; rfl)
      clear e1 e2 hm
      generalize max x.f r.f = f9 at *
      generalize min x.e r.e = t9 at *
      go_wp2_with fail
      refine (during_any r f9 t9 _).mono ?_
      rintro e w4 ⟨rfl, hb4⟩
      have O4 := Lib.hid (ownsKeep (O3.out.alloc (.cells #[.int .i64 f9, .int .i64 t9] 25)) hb4)
      have B4 := Lib.hid ((B3.out.alloc hs3 (.cells #[.int .i64 f9, .int .i64 t9] 25)).trans (hb4.mono (by simp; omega)))
      have hs4 := B4.out.size
      have hs04 : W0.heap.size ≤ w4.heap.size := by have := hb4.size; simp at this; omega
      clear hb4 q0 q1 q2 q3 x0 O3
      go_wp2_with (at_builtin; refine wpList_append_own _ rfl _ _ 23 rfl W0.heap.size 27 i0 _ 4 48 Tryz.underlying23 Hi.out Hz0.out Hz1.out Hz2.out rfl (by decide) _ cs.length (flatOf rowC cs) rfl (O4.out.alloc _) ⟨w4.heap.size, 0, none⟩ 1 1 [.string r.k, .string r.t, .int .i64 f9, .int .i64 t9] rfl rfl (newsFour (by simp) (by simp) (by simp) (by simp)) (by simp [Value.oneCell']) (by unfold maxLen; omega) (by omega) (by simp; omega) ?_; intro v' w5 hown' hgrow hnil; obtain ⟨A5, k5, rfl⟩ := owns_formN hown'; have O5 := Lib.hid hown'; have B5 := Lib.hid ((B4.out.alloc hs4 _).grown hgrow (by simp; omega) (fun i e => by have := (O4.out.lt i e).1; omega)); clear hown' hgrow hnil)
      go_ret
      rw [HE.out]
      refine ⟨A5, k5, by rw [List.length_append, List.length_singleton]; rfl, ?_, B5.out⟩
      rw [flatOf_append, flatOf_one, List.length_append, List.length_singleton]
      exact owns_baseE O5.out hbase

theorem replaced_chg {fb rb kb sb : Nat} {r : RowV} {w : World} (fc : w.cell? ⟨fb, 0, none⟩ = some (.func (.func 56) #[] #[.pointer (some ⟨kb, 0, none⟩), .pointer (some ⟨sb, 0, none⟩)])) (kc : w.cell? ⟨kb, 0, none⟩ = some (.string r.k)) (s0 : w.cell? ⟨sb, 0, none⟩ = some (.int .i64 r.f)) (s1 : w.cell? ⟨sb, 1, none⟩ = some (.int .i64 r.e))
    (q0 : w.cell? ⟨rb, 0, none⟩ = some (.string r.k)) (q1 : w.cell? ⟨rb, 1, none⟩ = some (.string r.t)) (q2 : w.cell? ⟨rb, 2, none⟩ = some (.int .i64 r.f)) (q3 : w.cell? ⟨rb, 3, none⟩ = some (.int .i64 r.e)) (hr : 0 ≤ r.f ∧ r.f < r.e ∧ r.e ≤ 100) :
    Chg 34 #[.pointer (some ⟨fb, 0, none⟩), .pointer (some ⟨rb, 0, none⟩)] (updRow r) (fun x => 0 ≤ x.f ∧ x.f < x.e ∧ x.e ≤ 100) w := fun W x hW hx =>
  have c : ∀ {b o : Nat} {v : Value}, w.cell? ⟨b, o, none⟩ = some v → W.cell? ⟨b, o, none⟩ = some v := fun h => cellBelow hW (World.block_lt_of_cell? _ _ h) h
  replaced1_any fb rb kb sb r x W (c fc) (c kc) (c s0) (c s1) (c q0) (c q1) (c q2) (c q3) hx hr
def updateS (zs : List RowV) (r : RowV) : List RowV × Bool := if relOk zs = true then (if rowOk r = true then updateL zs r else (zs, false)) else ([], false)
theorem updateS_len (zs : List RowV) (r : RowV) : (updateS zs r).1.length ≤ 24 := by
  unfold updateS
  split
  · rename_i h
    split
    · exact fits_len (relOk_len h)
    · exact relOk_len h
  · simp

set_option maxRecDepth 100000 in
set_option maxHeartbeats 4000000 in
theorem RelUpdate_any (A : Option Addr) (cap : Nat) (zs : List RowV) (r : RowV) (w : World) (hz : RowsA w A zs) (hA : A = none ∨ ∃ b off, A = some ⟨b, off, none⟩) (hl : zs.length ≤ 1048577) (hs : Short zs) (hr : r.k.size ≤ maxLen ∧ r.t.size ≤ maxLen) :
    Calls Tryz.prog 5 #[.slice A zs.length cap, .agg #[.string r.k, .string r.t, .int .i64 r.f, .int .i64 r.e]] w (GetsRB w (updateS zs r)) := by
  have HS := Lib.hid hs
  have HA := Lib.hid hA
  have HR := Lib.hid hr
  obtain ⟨o, ho⟩ : ∃ o, relOk zs = o := ⟨_, rfl⟩
  obtain ⟨ro, hro⟩ : ∃ ro, rowOk r = ro := ⟨_, rfl⟩
  have HRO := Lib.hid hro
  have HO := Lib.hid ho
  have EG := Lib.hid (show ∀ args w, (callFunc 34 args).run Tryz.prog w = .ok (.enter 34 args) w from enters_of Tryz.func34 (by kernel_rfl) rfl)
  clear hs hA hr ho hro
  cases o
  · rw [show updateS zs r = ([], false) from if_neg (by rw [HO.out]; simp)]
    go_enter Tryz.func5, Tryz.ntmps5
    go_wp2_with fail
    generalize hW : w.alloc _ = W0
    obtain ⟨rb, hrb⟩ : ∃ rb, w.heap.size = rb := ⟨_, rfl⟩
    have r0 : W0.cell? ⟨rb, 0, none⟩ = some (.string r.k) := by rw [← hW, ← hrb]; simp [go_sem]
    have r1 : W0.cell? ⟨rb, 1, none⟩ = some (.string r.t) := by rw [← hW, ← hrb]; simp [go_sem]
    have r2 : W0.cell? ⟨rb, 2, none⟩ = some (.int .i64 r.f) := by rw [← hW, ← hrb]; simp [go_sem]
    have r3 : W0.cell? ⟨rb, 3, none⟩ = some (.int .i64 r.e) := by rw [← hW, ← hrb]; simp [go_sem]
    have lrb : rb < W0.heap.size := by rw [← hW, ← hrb]; simp
    have lrb0 : rb ≤ W0.heap.size := Nat.le_of_lt lrb
    have B0 := Lib.hid (show Below rb w W0 from by rw [← hW]; exact (Below.refl _ _).alloc (by omega) _)
    have HZ := Lib.hid (show RowsA W0 A zs from hz.below (by have := B0.out; rw [← hrb] at this; exact this))
    rw [hrb]
    have HRB := Lib.hid hrb
    clear hW hz hrb
    have hq0 : Below W0.heap.size W0 W0 := Below.refl _ _
    go_region_held3 (fun w' => w'.cell? ⟨rb, 0, none⟩ = some (.string r.k) ∧ w'.cell? ⟨rb, 1, none⟩ = some (.string r.t) ∧ w'.cell? ⟨rb, 2, none⟩ = some (.int .i64 r.f) ∧ w'.cell? ⟨rb, 3, none⟩ = some (.int .i64 r.e) ∧ W0.heap.size ≤ w'.heap.size ∧ Below W0.heap.size W0 w')
      (((try go_split_ands); refine ⟨?c0, ?c1, ?c2, ?c3, ?s, ?b⟩; (case c0 => (repeat (first | with_reducible assumption | with_reducible refine cell_below hb (by first | omega | (simp; done) | (simp; omega)) ?_ | with_reducible refine cell_set_far (by first | omega | (simp; done) | (simp; omega)) ?_ | with_reducible exact cell_alloc_swap (by with_reducible assumption) (by first | omega | (simp; done) | (simp; omega)) | with_reducible refine cell_alloc_far ?_ | with_reducible refine cell_drew ?_))); (case c1 => (repeat (first | with_reducible assumption | with_reducible refine cell_below hb (by first | omega | (simp; done) | (simp; omega)) ?_ | with_reducible refine cell_set_far (by first | omega | (simp; done) | (simp; omega)) ?_ | with_reducible exact cell_alloc_swap (by with_reducible assumption) (by first | omega | (simp; done) | (simp; omega)) | with_reducible refine cell_alloc_far ?_ | with_reducible refine cell_drew ?_))); (case c2 => (repeat (first | with_reducible assumption | with_reducible refine cell_below hb (by first | omega | (simp; done) | (simp; omega)) ?_ | with_reducible refine cell_set_far (by first | omega | (simp; done) | (simp; omega)) ?_ | with_reducible exact cell_alloc_swap (by with_reducible assumption) (by first | omega | (simp; done) | (simp; omega)) | with_reducible refine cell_alloc_far ?_ | with_reducible refine cell_drew ?_))); (case c3 => (repeat (first | with_reducible assumption | with_reducible refine cell_below hb (by first | omega | (simp; done) | (simp; omega)) ?_ | with_reducible refine cell_set_far (by first | omega | (simp; done) | (simp; omega)) ?_ | with_reducible exact cell_alloc_swap (by with_reducible assumption) (by first | omega | (simp; done) | (simp; omega)) | with_reducible refine cell_alloc_far ?_ | with_reducible refine cell_drew ?_))); (case s => (first | with_reducible assumption | (have := hb.size; omega) | omega | (simp; done) | (simp; omega) | (have := hb.size; simp at this ⊢; omega))); (case b => (repeat (first | with_reducible assumption | with_reducible exact hq0 | with_reducible refine Below.drew ?_ | with_reducible refine Below.trans ?_ (hb.mono (by first | omega | (simp; done) | (simp; omega))) | with_reducible refine Below.setCell ?_ (by first | omega | (simp; done) | (simp; omega)) _ | with_reducible exact below_alloc_swap (by with_reducible assumption) (by first | omega | (simp; done) | (simp; omega)) | with_reducible refine Below.alloc ?_ (by first | omega | (simp; done) | (simp; omega)) _)))))
      (first
        | (go_at_call 16; refine (rowOkM_val r _ _ HR.out.1 HR.out.2 HRO.out).mono ?_; rintro e w1 ⟨rfl, hb⟩; have hbA := hb; have hsz : W0.heap.size ≤ w1.heap.size := (by have := hb.size; first | omega | (simp at this; omega)); obtain ⟨hc, hf, hlb⟩ := bcell3 hb)
        | (go_at_call 17; refine (replaced_any r _).mono ?_; rintro e w2 ⟨fb, rb2, kb, sb, rfl, fc, kc, sc0, sc1, rc0, rc1, rc2, rc3, hb⟩; have hbB := hb; have hsz2 : W0.heap.size ≤ w2.heap.size := (by have := hb.size; first | omega | (simp at this; omega)); obtain ⟨hc2, hf2, hlb2⟩ := bcell3 hb)
        | (go_at_call 15; refine (modified_no A cap zs _ _ _ _ (HZ.out.below (by repeat (first | with_reducible assumption | with_reducible exact hq0 | with_reducible refine Below.drew ?_ | with_reducible refine Below.trans ?_ (hbB.mono (by first | omega | (simp; done) | (simp; omega) | (have h9 := hbA.size; simp at h9; omega))) | with_reducible refine Below.trans ?_ (hbA.mono (by first | omega | (simp; done) | (simp; omega) | (have h9 := hbA.size; simp at h9; omega))) | with_reducible refine Below.alloc ?_ (by first | omega | (simp; done) | (simp; omega) | (have h9 := hbA.size; simp at h9; omega)) _))) hl HS.out HO.out).mono ?_; rintro e w5 ⟨A5, c5, rfl, ho5, hb⟩; have O5 := Lib.hid (owns_baseE (base' := rb) ho5 (by first | omega | (simp; omega))); clear ho5))
    all_goals (go_wp2_with fail)
    all_goals (
      rename_i hHd
      refine bodyPost_ret (v := .tuple #[.slice A5 (([], false) : List RowV × Bool).1.length c5, .bool (([], false) : List RowV × Bool).2]) (by simp [results, Tryz.results5, go_sem]) rfl ?_
      exact ⟨A5, c5, rfl, by rw [HRB.out]; exact O5.out, by rw [HRB.out]; exact B0.out.trans (hHd.2.2.2.2.2.mono lrb0)⟩)
  · cases ro
    · rw [show updateS zs r = (zs, false) from by unfold updateS; rw [if_pos HO.out, if_neg (by rw [HRO.out]; simp)]]
      go_enter Tryz.func5, Tryz.ntmps5
      go_wp2_with fail
      generalize hW : w.alloc _ = W0
      obtain ⟨rb, hrb⟩ : ∃ rb, w.heap.size = rb := ⟨_, rfl⟩
      have r0 : W0.cell? ⟨rb, 0, none⟩ = some (.string r.k) := by rw [← hW, ← hrb]; simp [go_sem]
      have r1 : W0.cell? ⟨rb, 1, none⟩ = some (.string r.t) := by rw [← hW, ← hrb]; simp [go_sem]
      have r2 : W0.cell? ⟨rb, 2, none⟩ = some (.int .i64 r.f) := by rw [← hW, ← hrb]; simp [go_sem]
      have r3 : W0.cell? ⟨rb, 3, none⟩ = some (.int .i64 r.e) := by rw [← hW, ← hrb]; simp [go_sem]
      have lrb : rb < W0.heap.size := by rw [← hW, ← hrb]; simp
      have lrb0 : rb ≤ W0.heap.size := Nat.le_of_lt lrb
      have B0 := Lib.hid (show Below rb w W0 from by rw [← hW]; exact (Below.refl _ _).alloc (by omega) _)
      have HZ := Lib.hid (show RowsA W0 A zs from hz.below (by have := B0.out; rw [← hrb] at this; exact this))
      rw [hrb]
      have HRB := Lib.hid hrb
      clear hW hz hrb
      have hq0 : Below W0.heap.size W0 W0 := Below.refl _ _
      go_region_held3 (fun w' => w'.cell? ⟨rb, 0, none⟩ = some (.string r.k) ∧ w'.cell? ⟨rb, 1, none⟩ = some (.string r.t) ∧ w'.cell? ⟨rb, 2, none⟩ = some (.int .i64 r.f) ∧ w'.cell? ⟨rb, 3, none⟩ = some (.int .i64 r.e) ∧ W0.heap.size ≤ w'.heap.size ∧ Below W0.heap.size W0 w')
        (((try go_split_ands); refine ⟨?c0, ?c1, ?c2, ?c3, ?s, ?b⟩; (case c0 => (repeat (first | with_reducible assumption | with_reducible refine cell_below hb (by first | omega | (simp; done) | (simp; omega)) ?_ | with_reducible refine cell_set_far (by first | omega | (simp; done) | (simp; omega)) ?_ | with_reducible exact cell_alloc_swap (by with_reducible assumption) (by first | omega | (simp; done) | (simp; omega)) | with_reducible refine cell_alloc_far ?_ | with_reducible refine cell_drew ?_))); (case c1 => (repeat (first | with_reducible assumption | with_reducible refine cell_below hb (by first | omega | (simp; done) | (simp; omega)) ?_ | with_reducible refine cell_set_far (by first | omega | (simp; done) | (simp; omega)) ?_ | with_reducible exact cell_alloc_swap (by with_reducible assumption) (by first | omega | (simp; done) | (simp; omega)) | with_reducible refine cell_alloc_far ?_ | with_reducible refine cell_drew ?_))); (case c2 => (repeat (first | with_reducible assumption | with_reducible refine cell_below hb (by first | omega | (simp; done) | (simp; omega)) ?_ | with_reducible refine cell_set_far (by first | omega | (simp; done) | (simp; omega)) ?_ | with_reducible exact cell_alloc_swap (by with_reducible assumption) (by first | omega | (simp; done) | (simp; omega)) | with_reducible refine cell_alloc_far ?_ | with_reducible refine cell_drew ?_))); (case c3 => (repeat (first | with_reducible assumption | with_reducible refine cell_below hb (by first | omega | (simp; done) | (simp; omega)) ?_ | with_reducible refine cell_set_far (by first | omega | (simp; done) | (simp; omega)) ?_ | with_reducible exact cell_alloc_swap (by with_reducible assumption) (by first | omega | (simp; done) | (simp; omega)) | with_reducible refine cell_alloc_far ?_ | with_reducible refine cell_drew ?_))); (case s => (first | with_reducible assumption | (have := hb.size; omega) | omega | (simp; done) | (simp; omega) | (have := hb.size; simp at this ⊢; omega))); (case b => (repeat (first | with_reducible assumption | with_reducible exact hq0 | with_reducible refine Below.drew ?_ | with_reducible refine Below.trans ?_ (hb.mono (by first | omega | (simp; done) | (simp; omega))) | with_reducible refine Below.setCell ?_ (by first | omega | (simp; done) | (simp; omega)) _ | with_reducible exact below_alloc_swap (by with_reducible assumption) (by first | omega | (simp; done) | (simp; omega)) | with_reducible refine Below.alloc ?_ (by first | omega | (simp; done) | (simp; omega)) _)))))
        (first
          | (go_at_call 16; refine (rowOkM_val r _ _ HR.out.1 HR.out.2 HRO.out).mono ?_; rintro e w1 ⟨rfl, hb⟩; have hbA := hb; have hsz : W0.heap.size ≤ w1.heap.size := (by have := hb.size; first | omega | (simp at this; omega)); obtain ⟨hc, hf, hlb⟩ := bcell3 hb)
          | (go_at_call 17; refine (replaced_any r _).mono ?_; rintro e w2 ⟨fb, rb2, kb, sb, rfl, fc, kc, sc0, sc1, rc0, rc1, rc2, rc3, hb⟩; have hbB := hb; have hsz2 : W0.heap.size ≤ w2.heap.size := (by have := hb.size; first | omega | (simp at this; omega)); obtain ⟨hc2, hf2, hlb2⟩ := bcell3 hb)
          | (go_at_call 15; refine (modified_bad A cap zs _ _ _ (HZ.out.below (by repeat (first | with_reducible assumption | with_reducible exact hq0 | with_reducible refine Below.drew ?_ | with_reducible refine Below.trans ?_ (hbB.mono (by first | omega | (simp; done) | (simp; omega) | (have h9 := hbA.size; simp at h9; omega))) | with_reducible refine Below.trans ?_ (hbA.mono (by first | omega | (simp; done) | (simp; omega) | (have h9 := hbA.size; simp at h9; omega))) | with_reducible refine Below.alloc ?_ (by first | omega | (simp; done) | (simp; omega) | (have h9 := hbA.size; simp at h9; omega)) _))) HA.out HS.out HO.out).mono ?_; rintro e w5 ⟨A5, c5, rfl, ho5, hb⟩; have O5 := Lib.hid (owns_baseE (base' := rb) ho5 (by first | omega | (simp; omega))); clear ho5))
      all_goals (go_wp2_with fail)
      all_goals (
        rename_i hHd
        refine bodyPost_ret (v := .tuple #[.slice A5 ((zs, false) : List RowV × Bool).1.length c5, .bool ((zs, false) : List RowV × Bool).2]) (by simp [results, Tryz.results5, go_sem]) rfl ?_
        exact ⟨A5, c5, rfl, by rw [HRB.out]; exact O5.out, by rw [HRB.out]; exact B0.out.trans (hHd.2.2.2.2.2.mono lrb0)⟩)
    · have HP := Lib.hid (show ∀ s, Ordered s → s.Perm (zs.flatMap (updRow r) ++ []) → changedL s zs = updateL zs r from fun s h1 h2 => update_eq HO.out HRO.out h1 (h2.trans (upd_perm zs r)))
      rw [show updateS zs r = updateL zs r from by unfold updateS; rw [if_pos HO.out, if_pos HRO.out]]
      have hl24 := relOk_len HO.out
      obtain ⟨p, hp⟩ : ∃ p, updateL zs r = p := ⟨_, rfl⟩
      rw [hp] at HP ⊢
      clear hp
      go_enter Tryz.func5, Tryz.ntmps5
      go_wp2_with fail
      generalize hW : w.alloc _ = W0
      obtain ⟨rb, hrb⟩ : ∃ rb, w.heap.size = rb := ⟨_, rfl⟩
      have r0 : W0.cell? ⟨rb, 0, none⟩ = some (.string r.k) := by rw [← hW, ← hrb]; simp [go_sem]
      have r1 : W0.cell? ⟨rb, 1, none⟩ = some (.string r.t) := by rw [← hW, ← hrb]; simp [go_sem]
      have r2 : W0.cell? ⟨rb, 2, none⟩ = some (.int .i64 r.f) := by rw [← hW, ← hrb]; simp [go_sem]
      have r3 : W0.cell? ⟨rb, 3, none⟩ = some (.int .i64 r.e) := by rw [← hW, ← hrb]; simp [go_sem]
      have lrb : rb < W0.heap.size := by rw [← hW, ← hrb]; simp
      have lrb0 : rb ≤ W0.heap.size := Nat.le_of_lt lrb
      have B0 := Lib.hid (show Below rb w W0 from by rw [← hW]; exact (Below.refl _ _).alloc (by omega) _)
      have HZ := Lib.hid (show RowsA W0 A zs from hz.below (by have := B0.out; rw [← hrb] at this; exact this))
      rw [hrb]
      have HRB := Lib.hid hrb
      clear hW hz hrb
      have hq0 : Below W0.heap.size W0 W0 := Below.refl _ _
      go_region_held3 (fun w' => w'.cell? ⟨rb, 0, none⟩ = some (.string r.k) ∧ w'.cell? ⟨rb, 1, none⟩ = some (.string r.t) ∧ w'.cell? ⟨rb, 2, none⟩ = some (.int .i64 r.f) ∧ w'.cell? ⟨rb, 3, none⟩ = some (.int .i64 r.e) ∧ W0.heap.size ≤ w'.heap.size ∧ Below W0.heap.size W0 w')
        (((try go_split_ands); refine ⟨?c0, ?c1, ?c2, ?c3, ?s, ?b⟩; (case c0 => (repeat (first | with_reducible assumption | with_reducible refine cell_below hb (by first | omega | (simp; done) | (simp; omega)) ?_ | with_reducible refine cell_set_far (by first | omega | (simp; done) | (simp; omega)) ?_ | with_reducible exact cell_alloc_swap (by with_reducible assumption) (by first | omega | (simp; done) | (simp; omega)) | with_reducible refine cell_alloc_far ?_ | with_reducible refine cell_drew ?_))); (case c1 => (repeat (first | with_reducible assumption | with_reducible refine cell_below hb (by first | omega | (simp; done) | (simp; omega)) ?_ | with_reducible refine cell_set_far (by first | omega | (simp; done) | (simp; omega)) ?_ | with_reducible exact cell_alloc_swap (by with_reducible assumption) (by first | omega | (simp; done) | (simp; omega)) | with_reducible refine cell_alloc_far ?_ | with_reducible refine cell_drew ?_))); (case c2 => (repeat (first | with_reducible assumption | with_reducible refine cell_below hb (by first | omega | (simp; done) | (simp; omega)) ?_ | with_reducible refine cell_set_far (by first | omega | (simp; done) | (simp; omega)) ?_ | with_reducible exact cell_alloc_swap (by with_reducible assumption) (by first | omega | (simp; done) | (simp; omega)) | with_reducible refine cell_alloc_far ?_ | with_reducible refine cell_drew ?_))); (case c3 => (repeat (first | with_reducible assumption | with_reducible refine cell_below hb (by first | omega | (simp; done) | (simp; omega)) ?_ | with_reducible refine cell_set_far (by first | omega | (simp; done) | (simp; omega)) ?_ | with_reducible exact cell_alloc_swap (by with_reducible assumption) (by first | omega | (simp; done) | (simp; omega)) | with_reducible refine cell_alloc_far ?_ | with_reducible refine cell_drew ?_))); (case s => (first | with_reducible assumption | (have := hb.size; omega) | omega | (simp; done) | (simp; omega) | (have := hb.size; simp at this ⊢; omega))); (case b => (repeat (first | with_reducible assumption | with_reducible exact hq0 | with_reducible refine Below.drew ?_ | with_reducible refine Below.trans ?_ (hb.mono (by first | omega | (simp; done) | (simp; omega))) | with_reducible refine Below.setCell ?_ (by first | omega | (simp; done) | (simp; omega)) _ | with_reducible exact below_alloc_swap (by with_reducible assumption) (by first | omega | (simp; done) | (simp; omega)) | with_reducible refine Below.alloc ?_ (by first | omega | (simp; done) | (simp; omega)) _)))))
        (first
          | (go_at_call 16; refine (rowOkM_val r _ _ HR.out.1 HR.out.2 HRO.out).mono ?_; rintro e w1 ⟨rfl, hb⟩; have hbA := hb; have hsz : W0.heap.size ≤ w1.heap.size := (by have := hb.size; first | omega | (simp at this; omega)); obtain ⟨hc, hf, hlb⟩ := bcell3 hb)
          | (go_at_call 17; refine (replaced_any r _).mono ?_; rintro e w2 ⟨fb, rb2, kb, sb, rfl, fc, kc, sc0, sc1, rc0, rc1, rc2, rc3, hb⟩; have hbB := hb; have hsz2 : W0.heap.size ≤ w2.heap.size := (by have := hb.size; first | omega | (simp at this; omega)); obtain ⟨hc2, hf2, hlb2⟩ := bcell3 hb)
          | (go_at_call 15; refine (modified_yes A cap zs 34 _ (updRow r) (fun x => 0 ≤ x.f ∧ x.f < x.e ∧ x.e ≤ 100) _ [] _ EG.out (HZ.out.below (by repeat (first | with_reducible assumption | with_reducible exact hq0 | with_reducible refine Below.drew ?_ | with_reducible refine Below.trans ?_ (hbB.mono (by first | omega | (simp; done) | (simp; omega) | (have h9 := hbA.size; simp at h9; omega))) | with_reducible refine Below.trans ?_ (hbA.mono (by first | omega | (simp; done) | (simp; omega) | (have h9 := hbA.size; simp at h9; omega))) | with_reducible refine Below.alloc ?_ (by first | omega | (simp; done) | (simp; omega) | (have h9 := hbA.size; simp at h9; omega)) _))) HA.out HS.out HO.out (replaced_chg (by repeat (first | with_reducible assumption | (simp; done) | (simp [go_sem]; done) | with_reducible refine cell_drew ?_ | with_reducible refine cell_alloc_far ?_ | with_reducible refine cell_below hbB (by first | omega | (simp; done) | (simp; omega) | (have h9 := hbA.size; simp at h9; omega)) ?_ | with_reducible refine cell_below hbA (by first | omega | (simp; done) | (simp; omega) | (have h9 := hbA.size; simp at h9; omega)) ?_)) (by repeat (first | with_reducible assumption | (simp; done) | (simp [go_sem]; done) | with_reducible refine cell_drew ?_ | with_reducible refine cell_alloc_far ?_ | with_reducible refine cell_below hbB (by first | omega | (simp; done) | (simp; omega) | (have h9 := hbA.size; simp at h9; omega)) ?_ | with_reducible refine cell_below hbA (by first | omega | (simp; done) | (simp; omega) | (have h9 := hbA.size; simp at h9; omega)) ?_)) (by repeat (first | with_reducible assumption | (simp; done) | (simp [go_sem]; done) | with_reducible refine cell_drew ?_ | with_reducible refine cell_alloc_far ?_ | with_reducible refine cell_below hbB (by first | omega | (simp; done) | (simp; omega) | (have h9 := hbA.size; simp at h9; omega)) ?_ | with_reducible refine cell_below hbA (by first | omega | (simp; done) | (simp; omega) | (have h9 := hbA.size; simp at h9; omega)) ?_)) (by repeat (first | with_reducible assumption | (simp; done) | (simp [go_sem]; done) | with_reducible refine cell_drew ?_ | with_reducible refine cell_alloc_far ?_ | with_reducible refine cell_below hbB (by first | omega | (simp; done) | (simp; omega) | (have h9 := hbA.size; simp at h9; omega)) ?_ | with_reducible refine cell_below hbA (by first | omega | (simp; done) | (simp; omega) | (have h9 := hbA.size; simp at h9; omega)) ?_)) (by repeat (first | with_reducible assumption | (simp; done) | (simp [go_sem]; done) | with_reducible refine cell_drew ?_ | with_reducible refine cell_alloc_far ?_ | with_reducible refine cell_below hbB (by first | omega | (simp; done) | (simp; omega) | (have h9 := hbA.size; simp at h9; omega)) ?_ | with_reducible refine cell_below hbA (by first | omega | (simp; done) | (simp; omega) | (have h9 := hbA.size; simp at h9; omega)) ?_)) (by repeat (first | with_reducible assumption | (simp; done) | (simp [go_sem]; done) | with_reducible refine cell_drew ?_ | with_reducible refine cell_alloc_far ?_ | with_reducible refine cell_below hbB (by first | omega | (simp; done) | (simp; omega) | (have h9 := hbA.size; simp at h9; omega)) ?_ | with_reducible refine cell_below hbA (by first | omega | (simp; done) | (simp; omega) | (have h9 := hbA.size; simp at h9; omega)) ?_)) (by repeat (first | with_reducible assumption | (simp; done) | (simp [go_sem]; done) | with_reducible refine cell_drew ?_ | with_reducible refine cell_alloc_far ?_ | with_reducible refine cell_below hbB (by first | omega | (simp; done) | (simp; omega) | (have h9 := hbA.size; simp at h9; omega)) ?_ | with_reducible refine cell_below hbA (by first | omega | (simp; done) | (simp; omega) | (have h9 := hbA.size; simp at h9; omega)) ?_)) (by repeat (first | with_reducible assumption | (simp; done) | (simp [go_sem]; done) | with_reducible refine cell_drew ?_ | with_reducible refine cell_alloc_far ?_ | with_reducible refine cell_below hbB (by first | omega | (simp; done) | (simp; omega) | (have h9 := hbA.size; simp at h9; omega)) ?_ | with_reducible refine cell_below hbA (by first | omega | (simp; done) | (simp; omega) | (have h9 := hbA.size; simp at h9; omega)) ?_)) (rowOk_iff.1 HRO.out).2.2) (rel_spans HO.out) (src_nil _) (fun x _ => updRow_len r x) (updRow_short HS.out HR.out) (by simp) short_none _ HP.out).mono ?_; rintro e w5 ⟨A5, c5, rfl, ho5, hb⟩; have O5 := Lib.hid (owns_baseE (base' := rb) ho5 (by first | omega | (simp; omega))); clear ho5))
      all_goals (go_wp2_with fail)
      all_goals (
        rename_i hHd
        refine bodyPost_ret (v := .tuple #[.slice A5 p.1.length c5, .bool p.2]) (by simp [results, Tryz.results5, go_sem]) rfl ?_
        exact ⟨A5, c5, rfl, by rw [HRB.out]; exact O5.out, by rw [HRB.out]; exact B0.out.trans (hHd.2.2.2.2.2.mono lrb0)⟩)

theorem upd_take {zs : List RowV} {k : Nat} {x r : RowV} (hx : zs[k]? = some x) : updRows (zs.take (k + 1)) r = updRows (zs.take k) r ++ (meetRow r x).toList := by
  obtain ⟨hk, hx⟩ := List.getElem?_eq_some_iff.1 hx
  subst hx
  unfold updRows
  rw [List.take_succ_eq_append_getElem hk, List.filterMap_append]
  congr 1
theorem fold_len (l : List RowV) : ∀ o : List RowV, (l.foldl putR o).length = o.length + l.length := by
  induction l with
  | nil => intro o; simp
  | cons x l ih => intro o; rw [List.foldl_cons, ih, putR_len, List.length_cons]; omega
theorem updTake_len (zs : List RowV) (r : RowV) (k : Nat) (hk : k ≤ zs.length) : (updRows (zs.take k) r).length ≤ k := by
  have := List.length_filterMap_le (meetRow r) (zs.take k)
  rw [List.length_take] at this
  unfold updRows
  omega
def AtOneU (wr : World) (x1 x2 y1 y2 : Int) (s8 s9 : Value) (wx : World) : Prop :=
  ∃ g' : Nat, s8 = .pointer (some ⟨g', 0, none⟩) ∧ s9 = .bool (mB x1 x2 y1 y2) ∧ wx.cell? ⟨g', 0, none⟩ = some (.int .i64 (max x1 y1)) ∧ wx.cell? ⟨g', 1, none⟩ = some (.int .i64 (min x2 y2)) ∧ Below wr.heap.size wr wx

set_option maxRecDepth 100000 in
set_option maxHeartbeats 4000000 in
theorem l3Update_any (A : Option Addr) (cap : Nat) (zs : List RowV) (r : RowV) (w : World) (hz : RowsA w A zs) (hl : zs.length ≤ 24) :
    Calls Tryz.prog 21 #[.slice A zs.length cap, .agg #[.string r.k, .string r.t, .int .i64 r.f, .int .i64 r.e]] w (GetsE rowC 4 27 w (joinRows (updateOut zs r))) := by
  go_enter Tryz.func21, Tryz.ntmps21
  go_wp2_with fail
  generalize hW : w.alloc _ = W0
  obtain ⟨rb, hrb⟩ : ∃ rb, w.heap.size = rb := ⟨_, rfl⟩
  have r0 : W0.cell? ⟨rb, 0, none⟩ = some (.string r.k) := by rw [← hW, ← hrb]; simp [go_sem]
  have r1 : W0.cell? ⟨rb, 1, none⟩ = some (.string r.t) := by rw [← hW, ← hrb]; simp [go_sem]
  have r2 : W0.cell? ⟨rb, 2, none⟩ = some (.int .i64 r.f) := by rw [← hW, ← hrb]; simp [go_sem]
  have r3 : W0.cell? ⟨rb, 3, none⟩ = some (.int .i64 r.e) := by rw [← hW, ← hrb]; simp [go_sem]
  have lrb : rb < W0.heap.size := by rw [← hW, ← hrb]; simp
  have lrb0 : rb ≤ W0.heap.size := Nat.le_of_lt lrb
  have B0 := Lib.hid (show Below rb w W0 from by rw [← hW]; exact (Below.refl _ _).alloc (by omega) _)
  have HZ := Lib.hid (show RowsA W0 A zs from hz.below (by have := B0.out; rw [← hrb] at this; exact this))
  rw [hrb]
  have HRB := Lib.hid hrb
  clear hW hz hrb
  have hcl := cutL_len r.k r.f r.e zs
  have HUO := Lib.hid (show updateOut zs r = (updRows zs r).foldl putR (cutL zs r.k r.f r.e) from rfl)
  obtain ⟨cs, hcs⟩ : ∃ cs, cutL zs r.k r.f r.e = cs := ⟨_, rfl⟩
  rw [hcs] at hcl HUO
  refine (l3Cut_any A cap zs r.k r.f r.e W0 HZ.out (by omega)).mono ?_
  rw [hcs]
  clear hcs
  rintro e w1 ⟨A1, c1, rfl, ho1, hb1⟩
  have O1 := Lib.hid ho1
  have B1 := Lib.hid hb1
  clear ho1 hb1
  go_wp2
  go_loopw [5, 6] (fun v i wr => ∃ k : Nat, k ≤ zs.length ∧ i = .int .i64 k ∧ wr.ownsRow W0.heap.size 27 4 v ((updRows (zs.take k) r).foldl putR cs).length (flatOf rowC ((updRows (zs.take k) r).foldl putR cs)) ∧ Below W0.heap.size W0 wr) (fun _ i _ => zs.length - (intOf i).toNat)
  case atStart => exact ⟨0, Nat.zero_le _, rfl, O1.out, B1.out⟩
  case round =>
    obtain ⟨k, hk, rfl, hown, hbr⟩ := hrel
    have hol : ((updRows (zs.take k) r).foldl putR cs).length ≤ 75 := by
      rw [fold_len]
      have := updTake_len zs r k hk
      omega
    have hs5 := hbr.size
    by_cases hlt : k < zs.length
    · obtain ⟨b0, off, x, rfl, hbW, hx, d0, d1, d2, d3⟩ := HZ.out.at_ hlt
      have HT := Lib.hid (upd_take (r := r) hx)
      have HFo := Lib.hid (show ∀ l : List RowV, (updRows (zs.take k) r ++ l).foldl putR cs = l.foldl putR ((updRows (zs.take k) r).foldl putR cs) from fun l => List.foldl_append)
      obtain ⟨oo, hoo⟩ : ∃ oo, (updRows (zs.take k) r).foldl putR cs = oo := ⟨_, rfl⟩
      rw [hoo] at hown hol HFo
      obtain ⟨A5, c5, rfl⟩ := owns_formN hown
      have Hown := Lib.hid hown
      have c0 := cellBelow hbr hbW d0
      have c2 := cellBelow hbr hbW d2
      have c3 := cellBelow hbr hbW d3
      have q0 := cellBelow hbr lrb r0
      have q1 := cellBelow hbr lrb r1
      have q2 := cellBelow hbr lrb r2
      have q3 := cellBelow hbr lrb r3
      have hb0 : b0 < wr.heap.size := by omega
      have lrb2 : rb < wr.heap.size := by omega
      have hkz : (k : Int) < (zs.length : Int) := by omega
      have hkz0 : (0 : Int) ≤ (k : Int) := by omega
      have hq0 : Below wr.heap.size wr wr := Below.refl _ _
      clear hx hoo hown d0 d1 d2 d3
      go_upto_region 5 with fail
      go_cut [7, 8] (fun s7 s8 wx => AtOneU wr x.f x.e r.f r.e s7 s8 wx)
      case first =>
        go_region_held3 (fun w' => w'.cell? ⟨b0, off + k * 4 + 2, none⟩ = some (.int .i64 x.f) ∧ w'.cell? ⟨b0, off + k * 4 + 3, none⟩ = some (.int .i64 x.e) ∧ w'.cell? ⟨rb, 2, none⟩ = some (.int .i64 r.f) ∧ w'.cell? ⟨rb, 3, none⟩ = some (.int .i64 r.e) ∧ wr.heap.size ≤ w'.heap.size ∧ Below wr.heap.size wr w')
          (((try go_split_ands); refine ⟨?c0, ?c1, ?c2, ?c3, ?s, ?b⟩; (case c0 => (repeat (first | with_reducible assumption | with_reducible refine cell_below hb (by first | omega | (simp; done) | (simp; omega)) ?_ | with_reducible refine cell_set_far (by first | omega | (simp; done) | (simp; omega)) ?_ | with_reducible exact cell_alloc_swap (by with_reducible assumption) (by first | omega | (simp; done) | (simp; omega)) | with_reducible refine cell_alloc_far ?_ | with_reducible refine cell_drew ?_))); (case c1 => (repeat (first | with_reducible assumption | with_reducible refine cell_below hb (by first | omega | (simp; done) | (simp; omega)) ?_ | with_reducible refine cell_set_far (by first | omega | (simp; done) | (simp; omega)) ?_ | with_reducible exact cell_alloc_swap (by with_reducible assumption) (by first | omega | (simp; done) | (simp; omega)) | with_reducible refine cell_alloc_far ?_ | with_reducible refine cell_drew ?_))); (case c2 => (repeat (first | with_reducible assumption | with_reducible refine cell_below hb (by first | omega | (simp; done) | (simp; omega)) ?_ | with_reducible refine cell_set_far (by first | omega | (simp; done) | (simp; omega)) ?_ | with_reducible exact cell_alloc_swap (by with_reducible assumption) (by first | omega | (simp; done) | (simp; omega)) | with_reducible refine cell_alloc_far ?_ | with_reducible refine cell_drew ?_))); (case c3 => (repeat (first | with_reducible assumption | with_reducible refine cell_below hb (by first | omega | (simp; done) | (simp; omega)) ?_ | with_reducible refine cell_set_far (by first | omega | (simp; done) | (simp; omega)) ?_ | with_reducible exact cell_alloc_swap (by with_reducible assumption) (by first | omega | (simp; done) | (simp; omega)) | with_reducible refine cell_alloc_far ?_ | with_reducible refine cell_drew ?_))); (case s => (first | with_reducible assumption | (have := hb.size; omega) | omega | (simp; done) | (simp; omega) | (have := hb.size; simp at this ⊢; omega))); (case b => (repeat (first | with_reducible assumption | with_reducible exact hq0 | with_reducible refine Below.drew ?_ | with_reducible refine Below.trans ?_ (hb.mono (by first | omega | (simp; done) | (simp; omega))) | with_reducible refine Below.setCell ?_ (by first | omega | (simp; done) | (simp; omega)) _ | with_reducible exact below_alloc_swap (by with_reducible assumption) (by first | omega | (simp; done) | (simp; omega)) | with_reducible refine Below.alloc ?_ (by first | omega | (simp; done) | (simp; omega)) _)))))
          ((go_at_call 41; refine (l1Meet_any _ _ _ _ _).mono ?_; rintro e w1 ⟨rfl, hb⟩; have hsz : wr.heap.size ≤ w1.heap.size := (by have := hb.size; first | omega | (simp at this; omega)); obtain ⟨hc, hf, hlb⟩ := bcell3 hb; (try (have hz2 : wr.heap.size < w1.heap.size := (by have := hb.size; first | omega | (simp at this; omega))))))
        all_goals (go_wp2_with fail; go_meet; unfold AtOneU; rename_i hH; obtain ⟨z0, z1, z2, z3, z4, z5⟩ := hH; refine ⟨_, rfl, rfl, ?_, ?_, z5⟩)
        any_goals (first | omega | (simp; omega) | (go_simp; done) | (simp (maxDischargeDepth := 6) [*, go_sem]; done))
        all_goals go_show
      case rest =>
        obtain ⟨g', rfl, rfl, k0, k1, hbM⟩ := hcut
        have OM := Lib.hid (ownsKeep Hown.out hbM)
        have BM := Lib.hid (hbr.trans (hbM.mono hbr.size))
        replace c0 := cellBelow hbM hb0 c0
        replace q0 := cellBelow hbM lrb2 q0
        replace q1 := cellBelow hbM lrb2 q1
        have lrc : rb < wc.heap.size := Nat.lt_of_lt_of_le lrb2 hbM.size
        have hsM := BM.out.size
        clear hbM hbr hq0 c2 c3 q2 q3 Hown
        cases hkk : (x.k.toList == r.k.toList)
        · have HE := Lib.hid (show (updRows (zs.take (k + 1)) r).foldl putR cs = oo from by rw [HT.out, meetRow_no1 hkk, HFo.out]; rfl)
          go_wp2_with fail
          go_quiet (fail)
          have BN := Lib.hid (show Below W0.heap.size W0 (wc.drewN nq) from below_drewN BM.out _)
          have ON := Lib.hid (show (wc.drewN nq).ownsRow W0.heap.size 27 4 (.slice A5 oo.length c5) oo.length (flatOf rowC oo) from OM.out)
          go_wp2
          go_roundw
          case rel => exact ⟨k + 1, by omega, by go_num, by rw [HE.out]; exact ON.out, BN.out⟩
          case measure => simp [intOf]; omega
        · cases hm : mB x.f x.e r.f r.e
          · have HE := Lib.hid (show (updRows (zs.take (k + 1)) r).foldl putR cs = oo from by rw [HT.out, meetRow_no2 hm, HFo.out]; rfl)
            go_wp2_with fail
            go_quiet (fail)
            have BN := Lib.hid (show Below W0.heap.size W0 (wc.drewN nq) from below_drewN BM.out _)
            have ON := Lib.hid (show (wc.drewN nq).ownsRow W0.heap.size 27 4 (.slice A5 oo.length c5) oo.length (flatOf rowC oo) from OM.out)
            go_wp2
            go_roundw
            case rel => exact ⟨k + 1, by omega, by go_num, by rw [HE.out]; exact ON.out, BN.out⟩
            case measure => simp [intOf]; omega
          · have HE := Lib.hid (show (updRows (zs.take (k + 1)) r).foldl putR cs = putR oo ⟨r.k, r.t, max x.f r.f, min x.e r.e⟩ from by rw [HT.out, meetRow_yes hkk hm, HFo.out]; rfl)
            generalize max x.f r.f = f9 at *
            generalize min x.e r.e = t9 at *
            go_wp2_with fail
            go_quiet (fail)
            have BN := Lib.hid (show Below W0.heap.size W0 (wc.drewN nq) from below_drewN BM.out _)
            have ON := Lib.hid (show (wc.drewN nq).ownsRow W0.heap.size 27 4 (.slice A5 oo.length c5) oo.length (flatOf rowC oo) from OM.out)
            replace q0 : (wc.drewN nq).cell? ⟨rb, 0, none⟩ = some (.string r.k) := q0
            replace q1 : (wc.drewN nq).cell? ⟨rb, 1, none⟩ = some (.string r.t) := q1
            replace k0 : (wc.drewN nq).cell? ⟨g', 0, none⟩ = some (.int .i64 f9) := k0
            replace k1 : (wc.drewN nq).cell? ⟨g', 1, none⟩ = some (.int .i64 t9) := k1
            replace hsM : W0.heap.size ≤ (wc.drewN nq).heap.size := hsM
            clear OM BM
            generalize wc.drewN nq = W1 at *
            go_wp2_with fail
            refine (l2Put_any A5 c5 oo ⟨r.k, r.t, f9, t9⟩ W1 (rowsA_own ON.out rfl) (owns_nilcap ON.out) (owns_cap ON.out) (by omega)).mono ?_
            rintro e w4 ⟨A6, c6, rfl, ho6, hb6⟩
            have O6 := Lib.hid (owns_baseE ho6 hsM)
            have B6 := Lib.hid (BN.out.trans (hb6.mono hsM))
            clear ho6 hb6
            rw [← HE.out] at O6 ⊢
            go_wp2
            go_roundw
            case rel => exact ⟨k + 1, by omega, by go_num, O6.out, B6.out⟩
            case measure => simp [intOf]; omega
    · obtain rfl : k = zs.length := by omega
      rw [List.take_length, ← HUO.out] at hown hol
      obtain ⟨uo, huo⟩ : ∃ uo, updateOut zs r = uo := ⟨_, rfl⟩
      rw [huo] at hown hol
      have HU := Lib.hid huo
      obtain ⟨A5, c5, rfl⟩ := owns_formN hown
      have Hown := Lib.hid hown
      clear hown huo
      go_wp2_with fail
      refine (l2Join_any A5 c5 uo wr (rowsA_own Hown.out rfl) (by omega)).mono ?_
      rintro e w4 ⟨A6, c6, rfl, ho6, hb6⟩
      obtain ⟨js, hjs⟩ : ∃ js, joinRows uo = js := ⟨_, rfl⟩
      rw [hjs] at ho6 ⊢
      have HJ := Lib.hid hjs
      have O6 := Lib.hid (owns_baseE (base' := rb) ho6 (by omega))
      have B6 := Lib.hid (B0.out.trans ((hbr.trans (hb6.mono hs5)).mono lrb0))
      clear ho6 hb6 hjs
      go_wp2
      go_ret
      rw [HU.out, HJ.out]
      exact ⟨A6, c6, rfl, by rw [HRB.out]; exact O6.out, by rw [HRB.out]; exact B6.out⟩

set_option maxRecDepth 100000 in
set_option maxHeartbeats 4000000 in
theorem sRelUpdate_any (A : Option Addr) (cap : Nat) (zs : List RowV) (r : RowV) (w : World) (hz : RowsA w A zs) (hN : A = none → cap = 0) (hl : zs.length ≤ 1048577) (hs : Short zs) (hr : r.k.size ≤ maxLen ∧ r.t.size ≤ maxLen) :
    Calls Tryz.prog 6 #[.slice A zs.length cap, .agg #[.string r.k, .string r.t, .int .i64 r.f, .int .i64 r.e]] w (GetsRB w (updateS zs r)) := by
  obtain ⟨i0, hi, hz0, hz1, hz2⟩ := info_parts Tryz.infoR27
  have Hi := Lib.hid hi
  have Hz0 := Lib.hid hz0
  have Hz1 := Lib.hid hz1
  have Hz2 := Lib.hid hz2
  clear hi hz0 hz1 hz2
  have HS := Lib.hid hs
  have HNn := Lib.hid hN
  have HR := Lib.hid hr
  obtain ⟨o, ho⟩ : ∃ o, relOk zs = o := ⟨_, rfl⟩
  have HO := Lib.hid ho
  obtain ⟨ro, hro⟩ : ∃ ro, rowOk r = ro := ⟨_, rfl⟩
  have HRO := Lib.hid hro
  clear hs hN hr ho hro
  go_enter Tryz.func6, Tryz.ntmps6
  go_wp2_with fail
  generalize hW : w.alloc _ = W0
  obtain ⟨rb, hrb⟩ : ∃ rb, w.heap.size = rb := ⟨_, rfl⟩
  have r0 : W0.cell? ⟨rb, 0, none⟩ = some (.string r.k) := by rw [← hW, ← hrb]; simp [go_sem]
  have r1 : W0.cell? ⟨rb, 1, none⟩ = some (.string r.t) := by rw [← hW, ← hrb]; simp [go_sem]
  have r2 : W0.cell? ⟨rb, 2, none⟩ = some (.int .i64 r.f) := by rw [← hW, ← hrb]; simp [go_sem]
  have r3 : W0.cell? ⟨rb, 3, none⟩ = some (.int .i64 r.e) := by rw [← hW, ← hrb]; simp [go_sem]
  have lrb : rb < W0.heap.size := by rw [← hW, ← hrb]; simp
  have lrb0 : rb ≤ W0.heap.size := Nat.le_of_lt lrb
  have B0 := Lib.hid (show Below rb w W0 from by rw [← hW]; exact (Below.refl _ _).alloc (by omega) _)
  have HZ := Lib.hid (show RowsA W0 A zs from hz.below (by have := B0.out; rw [← hrb] at this; exact this))
  rw [hrb]
  have HRB := Lib.hid hrb
  clear hW hz hrb
  refine (l2Ok_any A cap zs W0 HZ.out hl HS.out).mono ?_
  rintro e w1 ⟨rfl, hb1⟩
  rw [HO.out]
  replace r0 := cellBelow hb1 lrb r0
  replace r1 := cellBelow hb1 lrb r1
  replace r2 := cellBelow hb1 lrb r2
  replace r3 := cellBelow hb1 lrb r3
  replace lrb := Nat.lt_of_lt_of_le lrb hb1.size
  have Z1 := Lib.hid (HZ.out.below hb1)
  have BW := Lib.hid (B0.out.trans (hb1.mono lrb0))
  have BWs : rb ≤ w1.heap.size := Nat.le_of_lt lrb
  clear hb1
  cases o
  · have HM := Lib.hid (show updateS zs r = ([], false) from if_neg (by rw [HO.out]; simp))
    go_wp2
    refine bodyPost_ret (v := .tuple #[.slice none 0 0, .bool false]) (by simp [results, Tryz.results6, go_sem]) rfl ?_
    rw [HM.out]
    exact ⟨none, 0, rfl, World.ownsRow_nil _ _ _ _, by rw [HRB.out]; exact BW.out⟩
  · have hlen := relOk_len HO.out
    go_wp2_with fail
    refine (l2RowOk_val r _ ro HR.out.1 HR.out.2 HRO.out).mono ?_
    rintro e w2 ⟨rfl, hb2⟩
    replace r0 := cellBelow hb2 lrb r0
    replace r1 := cellBelow hb2 lrb r1
    replace r2 := cellBelow hb2 lrb r2
    replace r3 := cellBelow hb2 lrb r3
    replace lrb := Nat.lt_of_lt_of_le lrb hb2.size
    have Z2 := Lib.hid (Z1.out.below hb2)
    have BW2 := Lib.hid (BW.out.trans (hb2.mono BWs))
    have BW2s : rb ≤ w2.heap.size := Nat.le_of_lt lrb
    clear hb2 BW Z1
    cases ro
    · have HM := Lib.hid (show updateS zs r = (zs, false) from by unfold updateS; rw [if_pos HO.out, if_neg (by rw [HRO.out]; simp)])
      have OL := Lib.hid (World.ownsRow_lit (base := rb) (e := 27) (size := 4) w2 #[] 0 BW2s (by simp [maxLen]) (by simp))
      have SL := Lib.hid (src_below Z2.out HNn.out ((Below.refl w2.heap.size w2).alloc (Nat.le_refl _) (.cells #[] 27)))
      go_wp2_with (at_builtin; refine wpList_append_src _ rfl _ _ 23 rfl rb 27 i0 _ 48 Tryz.underlying23 Hi.out Hz0.out Hz1.out Hz2.out rfl (.slice (some ⟨w2.heap.size, 0, none⟩) 0 0) 0 [] rfl OL.out _ zs rfl SL.out (by unfold maxLen; omega) (by omega) (by simp; omega) ?_; rw [List.nil_append, Nat.zero_add]; intro v1 w9 ho1 hg1; obtain ⟨A1, k1, rfl⟩ := owns_formN ho1; have O1 := Lib.hid ho1; have B9 := Lib.hid (BW2.out.trans ((((Below.refl w2.heap.size w2).alloc (Nat.le_refl _) (.cells #[] 27)).grown hg1 (by simp) (fun i e => by simp [Value.ownBlock] at e; omega)).mono BW2s)); clear ho1 hg1)
      refine bodyPost_ret (v := .tuple #[.slice A1 zs.length k1, .bool false]) (by simp [results, Tryz.results6, go_sem]) rfl ?_
      rw [HM.out]
      exact ⟨A1, k1, rfl, by rw [HRB.out]; exact O1.out, by rw [HRB.out]; exact B9.out⟩
    · have HM := Lib.hid (show updateS zs r = fitsL (joinRows (updateOut zs r)) zs from by unfold updateS; rw [if_pos HO.out, if_pos HRO.out]; rfl)
      have hjl := joinRows_len (updateOut zs r)
      have hul : (updateOut zs r).length ≤ 75 := by
        unfold updateOut
        rw [fold_len]
        have h1 := cutL_len r.k r.f r.e zs
        have h2 := updTake_len zs r zs.length (Nat.le_refl _)
        rw [List.take_length] at h2
        omega
      obtain ⟨js, hjs⟩ : ∃ js, joinRows (updateOut zs r) = js := ⟨_, rfl⟩
      rw [hjs] at HM hjl
      have HJS := Lib.hid hjs
      have hjl2 : js.length ≤ 4194304 := by omega
      clear hjs hul hjl
      go_wp2_with fail
      refine (l3Update_any A cap zs r _ Z2.out hlen).mono ?_
      rw [HJS.out]
      rintro e w4 ⟨A4, c4, rfl, ho4, hb4⟩
      have O4 := Lib.hid ho4
      have Z4 := Lib.hid (Z2.out.below hb4)
      have BW4 := Lib.hid (BW2.out.trans (hb4.mono BW2s))
      have hsz4 := hb4.size
      have BW4s : rb ≤ w4.heap.size := Nat.le_trans BW2s hsz4
      clear ho4 hb4 r0 r1 r2 r3
      go_wp2_with fail
      refine (l3Fits_any w2.heap.size A4 A c4 cap js zs _ O4.out hsz4 Z4.out HNn.out (by omega) hjl2).mono ?_
      rintro e w8 ⟨A8, c8, rfl, ho8, hb8⟩
      have O8 := Lib.hid (owns_baseE (base' := rb) ho8 (by omega))
      have B8 := Lib.hid (BW4.out.trans (hb8.mono BW4s))
      clear ho8 hb8
      generalize fitsL js zs = p at *
      go_wp2
      refine bodyPost_ret (v := .tuple #[.slice A8 p.1.length c8, .bool p.2]) (by simp [results, Tryz.results6, go_sem]) rfl ?_
      rw [HM.out]
      exact ⟨A8, c8, rfl, by rw [HRB.out]; exact O8.out, by rw [HRB.out]; exact B8.out⟩
end Go.Proofs.YtgclmldhdjmabaaGreat
