/-
  Walks: a set with a span: the program (slices.Concat, slices.Grow) and the model.
-/
import Derived.Test.YtkdhdppngfadiaaSetOf
import Derived.Test.YtkdhdppngfadiaaAdd
import Derived.Test.YtkdhdppngfadiaaShelfG
import Derived.Laws.AppendOwnNone
import Derived.OwnWalk
namespace Go.Proofs.Ytkdhdppngfadiaa
open Go.RowKit Go.Shelf Go.Lib

theorem owns_zero {w : World} {base g cap : Nat} {e : TypeId} {cs : Array Value} {fr : Nat × Nat} (hg : w.heap[g]? = some (.cells cs e fr)) (hfr : fr = (0, 0)) (hb : base ≤ g) (hc : cap ≤ maxLen) (hs : cs.size = cap * 2) : w.ownsRow base e 2 (.slice (some ⟨g, 0, none⟩) 0 cap) 0 [] := by
  subst hfr
  exact ⟨rfl, .inr ⟨g, cap, cs, rfl, hb, hg, Nat.zero_le _, hc, hs, by simp⟩⟩

set_option maxHeartbeats 1000000 in
theorem grow_any (n : Nat) (w : World) (h1 : 1 ≤ n) (h2 : n ≤ 4194304) :
    Calls Try.prog 114 #[.slice none 0 0, .int .i64 n] w fun e w' => ∃ v, e = .returned v ∧ w'.ownsRow w.heap.size 42 2 v 0 (flat []) ∧ Below w.heap.size w w' := by
  obtain ⟨i0, hi, hz0, hz1, hz2⟩ := info_parts Try.info42
  refine (Any8.slices_Grow_grow Try.growS i0 _ hi hz0 (by rw [hz1]; omega) none 0 0 n [] w (Nat.le_refl _) (by omega) (by rw [hz2]; omega) (by omega) (by simp) (fun _ => rfl) (fun a e => by cases e)).mono ?_
  rintro e w' ⟨rfl, rfl⟩
  have hge := grownCap_ge w (0 + n) 0 42
  have hle := grownCap_le_maxLen w (0 + n) 0 42 (by unfold maxLen; omega)
  refine ⟨_, rfl, ?_, ((Below.refl w.heap.size w).drew).alloc (Nat.le_refl _) _⟩
  refine owns_zero (heap_alloc_new w.drew _) rfl (Nat.le_refl _) hle ?_
  have hzc : (Value.agg #[Value.int IntKind.i64 0, Value.int IntKind.i64 0]).cells.size = 2 := rfl
  simp only [Array.size_append, size_zeroCells, hzc, List.size_toArray, List.length_nil]
  change 0 + (0 + n - 0) * 2 + (grownCap w (0 + n) 0 42 - (0 + n)) * 2 = grownCap w (0 + n) 0 42 * 2
  omega

theorem owns_nilcap {w : World} {base n k cap : Nat} {A : Option Addr} {t : TypeId} {xs : List Value} (h : w.ownsRow base t k (.slice A n cap) n xs) (hA : A = none) : cap = 0 := by
  subst hA
  rcases h.2 with ⟨e0, _⟩ | ⟨g, c, cur, e0, _⟩
  · injection e0
  · cases e0
/-- A slice of spans whose cells can be read. -/
def SrcS (w : World) (u : Value) (ms : List (Int × Int)) : Prop := (u = .slice none 0 0 ∧ ms = []) ∨ ∃ ad c, u = .slice (some ad) ms.length c ∧ ∀ j x, (flat ms)[j]? = some x → w.cell? (ad.add j) = some x
theorem addr_addS (b off j : Nat) : (⟨b, off, none⟩ : Addr).add j = ⟨b, off + j, none⟩ := by
  cases j with
  | zero => simp [Addr.add]
  | succ j => simp [Addr.add]
theorem srcS_of {w : World} {A : Option Addr} {zs : List (Int × Int)} {cap : Nat} (h : Spans w A zs) (hA : A = none → cap = 0) : SrcS w (.slice A zs.length cap) zs := by
  cases zs with
  | nil =>
    cases A with
    | none => rw [hA rfl]; exact .inl ⟨rfl, rfl⟩
    | some a => exact .inr ⟨a, cap, rfl, fun j x hx => by simp [flat] at hx⟩
  | cons z zs =>
    obtain ⟨b, off, rfl, hc⟩ := h (by simp)
    refine .inr ⟨⟨b, off, none⟩, cap, rfl, fun j x hx => ?_⟩
    have hj : j < (flat (z :: zs)).length := (List.getElem?_eq_some_iff.1 hx).1
    rw [flat_length] at hj
    obtain ⟨h0, h1⟩ := hc (j / 2) (by omega)
    rw [addr_addS]
    rcases Nat.mod_two_eq_zero_or_one j with hm | hm
    · have e : j = j / 2 * 2 := by omega
      have := flat_get0 (z :: zs) (j / 2) (by omega)
      rw [← e, hx] at this
      rw [this, show off + j = off + j / 2 * 2 by omega]
      exact h0
    · have e : j = j / 2 * 2 + 1 := by omega
      have := flat_get1 (z :: zs) (j / 2) (by omega)
      rw [← e, hx] at this
      rw [this, show off + j = off + j / 2 * 2 + 1 by omega]
      exact h1
theorem wpList_append_srcS {P : Program} (w : World) {ops : Array Oper} {rest : List Oper} {o : Oper} {a : Act} {Q : Exit → Act → World → Prop} (hgd : o.guard = none) (s x : Operand) (t : TypeId)
    (ho : o.op = .call { callee := .builtin .append, args := #[s, x], argTypes := #[t, t] }) (base : Nat) (e : TypeId) (i : TypeInfo) (z : Value) (bytes : Nat)
    (ht : P.underlying t = some (.slice e)) (hi : P.info? e = some i) (hz : i.zero = some z) (hsize : i.size = 2) (hby : i.bytes = bytes) (hzs : z.cells.size = 2)
    (v : Value) (n : Nat) (zs : List (Int × Int)) (hs : a.eval s = v) (hown : w.ownsRow base e 2 v n (flat zs)) (u : Value) (ms : List (Int × Int)) (hx : a.eval x = u) (hu : SrcS w u ms)
    (h63 : n + ms.length ≤ maxLen) (hbytes : (n + ms.length) * bytes ≤ 140737488355328) (hbase : base ≤ w.heap.size)
    (h : ∀ v' w', w'.ownsRow base e 2 v' (n + ms.length) (flat (zs ++ ms)) → w.grownBy w' v.ownBlock → wpList P ops Q rest (a.put o.dst v') w') : wpList P ops Q (o :: rest) a w := by
  rcases hu with ⟨rfl, rfl⟩ | ⟨ad, c, rfl, hc⟩
  · exact wpList_append_own_none hgd s x t ho base e i 2 ht hi v n _ hs hown hx (h v w (by simpa using hown) ⟨rfl, rfl, rfl, Nat.le_refl _, fun _ _ _ => rfl⟩)
  · exact wpList_append_own _ hgd s x t ho base e i z 2 bytes ht hi hz hsize hby hzs (by omega) v n _ hs hown ad ms.length c (flat ms) hx (flat_length ms) hc (flat_one ms) h63 hbytes hbase (fun v' w' h1 h2 _ => h v' w' (by rw [flat_append]; exact h1) h2)

theorem spans_oneA {w : World} {g : Nat} {a b : Int} (h0 : w.cell? ⟨g, 0, none⟩ = some (.int .i64 a)) (h1 : w.cell? ⟨g, 1, none⟩ = some (.int .i64 b)) : Spans w (some ⟨g, 0, none⟩) [(a, b)] := fun _ =>
  ⟨g, 0, rfl, fun i hi => by
    obtain rfl : i = 0 := by simp at hi; omega
    exact ⟨by simpa using h0, by simpa using h1⟩⟩
/-- What has been put together of two lists. -/
def catTo (xs ys : List (Int × Int)) (k : Nat) : List (Int × Int) := if k = 0 then [] else if k = 1 then xs else xs ++ ys
def lenTo (m n k : Nat) : Nat := if k = 0 then 0 else if k = 1 then m else m + n

set_option maxRecDepth 100000 in
set_option maxHeartbeats 4000000 in
theorem concat_any (q cq : Nat) (A B : Option Addr) (ca cb : Nat) (xs ys : List (Int × Int)) (w : World) (c0 : w.cell? ⟨q, 0, none⟩ = some (.slice A xs.length ca)) (c1 : w.cell? ⟨q, 1, none⟩ = some (.slice B ys.length cb))
    (hx : Spans w A xs) (hy : Spans w B ys) (hA : A = none → ca = 0) (hB : B = none → cb = 0) (hlx : xs.length ≤ 1048577) (hly : ys.length ≤ 1048577) (hpos : 1 ≤ xs.length + ys.length) :
    Calls Try.prog 77 #[.slice (some ⟨q, 0, none⟩) 2 cq] w (Gets w (xs ++ ys)) := by
  obtain ⟨i0, hi, hz0, hz1, hz2⟩ := info_parts Try.info42
  have Hi := Lib.hid hi
  have Hz0 := Lib.hid hz0
  have Hz1 := Lib.hid hz1
  have Hz2 := Lib.hid hz2
  have HX := Lib.hid hx
  have HY := Lib.hid hy
  have HA := Lib.hid hA
  have HB := Lib.hid hB
  have lq : q < w.heap.size := World.block_lt_of_cell? _ _ c0
  clear hi hz0 hz1 hz2 hx hy hA hB
  go_enter Try.func77, Try.ntmps77
  go_wp2
  go_loopw [3, 11] (fun s i wr => ∃ k : Nat, k ≤ 2 ∧ i = .int .i64 k ∧ s = .int .i64 (lenTo xs.length ys.length k) ∧ w = wr) (fun _ i _ => 2 - (intOf i).toNat)
  case atStart => exact ⟨0, by omega, rfl, rfl, rfl⟩
  case round =>
    obtain ⟨k, hk, rfl, rfl, rfl⟩ := hrel
    obtain rfl | rfl | rfl : k = 0 ∨ k = 1 ∨ k = 2 := by omega
    · have e1 : ((lenTo xs.length ys.length 0 : Nat) : Int) = 0 := rfl
      rw [e1]
      go_wp2
      go_roundw
      case rel => exact ⟨1, by omega, by go_num, by simp [lenTo], by first | rfl | trivial⟩
      case measure => simp [intOf]
    · have e1 : lenTo xs.length ys.length 1 = xs.length := rfl
      rw [e1]
      go_wp2
      go_roundw
      case rel => exact ⟨2, by omega, by go_num, by simp [lenTo], by first | rfl | trivial⟩
      case measure => simp [intOf]
    · have e1 : lenTo xs.length ys.length 2 = xs.length + ys.length := rfl
      rw [e1]
      go_wp2_with fail
      refine (grow_any (xs.length + ys.length) _ hpos (by omega)).mono ?_
      rintro e w1 ⟨v1, rfl, ho1, hb1⟩
      have O1 := Lib.hid ho1
      have B1 := Lib.hid hb1
      clear ho1 hb1
      go_wp2
      go_loopw [6, 27] (fun v i wr => ∃ k : Nat, k ≤ 2 ∧ i = .int .i64 k ∧ wr.ownsRow w.heap.size 42 2 v (catTo xs ys k).length (flat (catTo xs ys k)) ∧ Below w.heap.size w wr) (fun _ i _ => 2 - (intOf i).toNat)
      case atStart => exact ⟨0, by omega, rfl, O1.out, B1.out⟩
      case round =>
        obtain ⟨k, hk, rfl, hown, hbr⟩ := hrel
        have Hown := Lib.hid hown
        have hs5 := hbr.size
        have d0 := cell_below hbr lq c0
        have d1 := cell_below hbr lq c1
        have SX := Lib.hid (srcS_of (HX.out.below hbr) HA.out)
        have SY := Lib.hid (srcS_of (HY.out.below hbr) HB.out)
        clear hown
        obtain rfl | rfl | rfl : k = 0 ∨ k = 1 ∨ k = 2 := by omega
        · have Hown' := Lib.hid (show wr.ownsRow w.heap.size 42 2 u6 0 (flat []) from Hown.out)
          go_wp2_with (at_builtin; refine wpList_append_srcS _ rfl _ _ 39 rfl w.heap.size 42 i0 _ 16 Try.underlying39 Hi.out Hz0.out Hz1.out Hz2.out rfl _ 0 [] rfl Hown'.out _ xs rfl SX.out (by unfold maxLen; omega) (by omega) hs5 ?_; rw [List.nil_append, Nat.zero_add]; intro v9 w9 ho9 hg9; have O9 := Lib.hid ho9; have B9 := Lib.hid (hbr.grown hg9 hs5 (fun i e => (Hown'.out.lt i e).1)); clear ho9 hg9)
          refine ⟨⟨1, by omega, by simp, O9.out, B9.out⟩, ?_⟩
          simp [intOf]
        · have Hown' := Lib.hid (show wr.ownsRow w.heap.size 42 2 u6 xs.length (flat xs) from Hown.out)
          go_wp2_with (at_builtin; refine wpList_append_srcS _ rfl _ _ 39 rfl w.heap.size 42 i0 _ 16 Try.underlying39 Hi.out Hz0.out Hz1.out Hz2.out rfl _ xs.length xs rfl Hown'.out _ ys rfl SY.out (by unfold maxLen; omega) (by omega) hs5 ?_; intro v9 w9 ho9 hg9; have O9 := Lib.hid (show w9.ownsRow w.heap.size 42 2 v9 (xs ++ ys).length (flat (xs ++ ys)) from by rw [List.length_append]; exact ho9); have B9 := Lib.hid (hbr.grown hg9 hs5 (fun i e => (Hown'.out.lt i e).1)); clear ho9 hg9)
          refine ⟨⟨2, by omega, by simp, O9.out, B9.out⟩, ?_⟩
          simp [intOf]
        · have Hown' := Lib.hid (show wr.ownsRow w.heap.size 42 2 u6 (xs ++ ys).length (flat (xs ++ ys)) from Hown.out)
          obtain ⟨A', c', hv⟩ := owns_slice Hown'.out
          subst hv
          go_wp2
          go_ret
          exact ⟨A', c', rfl, Hown'.out, hbr⟩

def setAddL (zs : List (Int × Int)) (a b : Int) : List (Int × Int) := if setOk zs = true then (if okB a b = true then addL zs (a, b) else []) else []
theorem setOk_allB {zs : List (Int × Int)} (h : setOk zs = true) : allB zs = true := by
  unfold allB
  rw [List.all_eq_true]
  intro s hs
  have : ∀ {l : List (Int × Int)} {lo : Int}, (-1) ≤ lo → canon lo l → s ∈ l → 0 ≤ s.1 ∧ s.1 < s.2 ∧ s.2 ≤ 100 := by
    intro l
    induction l with
    | nil => intro lo _ _ h; cases h
    | cons z l ih =>
      intro lo h0 hc hm
      obtain ⟨d1, d2, d3, d4⟩ := hc
      rcases List.mem_cons.1 hm with rfl | hm
      · omega
      · exact ih (by omega) d4 hm
  have := this (Int.le_refl _) ((setOk_iff zs).1 h) hs
  simp [okB, this]
theorem addAll_self {zs : List (Int × Int)} (h : setOk zs = true) : addAll zs = zs :=
  canon_same ((setOk_iff _).1 (addAll_setOk (setOk_allB h))) ((setOk_iff _).1 h) (has_addAll (setOk_allB h))
theorem setAdd_eq {zs : List (Int × Int)} {a b : Int} (h : setOk zs = true) : setOfL (zs ++ [(a, b)]) = setAddL zs a b := by
  unfold setAddL setOfL
  rw [if_pos h]
  have e : allB (zs ++ [(a, b)]) = okB a b := by
    have := setOk_allB h
    unfold allB at this ⊢
    rw [List.all_append, this]
    simp
  rw [e, addAll_snoc, addAll_self h]
theorem setAddL_ok (zs : List (Int × Int)) (a b : Int) : setOk (setAddL zs a b) = true := by
  by_cases h : setOk zs = true
  · rw [← setAdd_eq h]; exact setOfL_ok _
  · unfold setAddL; rw [if_neg h]; rfl
theorem setAddL_len (zs : List (Int × Int)) (a b : Int) : (setAddL zs a b).length ≤ 100 := setOk_len (setAddL_ok zs a b)

set_option maxRecDepth 100000 in
set_option maxHeartbeats 2000000 in
theorem SetAdd_any (A : Option Addr) (cap : Nat) (zs : List (Int × Int)) (a b : Int) (w : World) (hz : Spans w A zs) (hN : A = none → cap = 0) (hl : zs.length ≤ 1048577) :
    Calls Try.prog 30 #[.slice A zs.length cap, .agg #[.int .i64 a, .int .i64 b]] w (Gets w (setAddL zs a b)) := by
  have HN := Lib.hid hN
  obtain ⟨o, ho⟩ : ∃ o, setOk zs = o := ⟨_, rfl⟩
  have HO := Lib.hid ho
  clear hN ho
  go_enter Try.func30, Try.ntmps30
  go_wp2_with fail
  generalize hW : w.alloc _ = W0
  have x0 : W0.cell? ⟨w.heap.size, 0, none⟩ = some (.int .i64 a) := by rw [← hW]; simp [go_sem]
  have x1 : W0.cell? ⟨w.heap.size, 1, none⟩ = some (.int .i64 b) := by rw [← hW]; simp [go_sem]
  have lx : w.heap.size < W0.heap.size := by rw [← hW]; simp
  have B0 := Lib.hid (show Below w.heap.size w W0 from by rw [← hW]; exact (Below.refl _ _).alloc (Nat.le_refl _) _)
  have HZ := Lib.hid (hz.below B0.out)
  clear hW hz
  refine (SetOk_any A cap zs W0 HZ.out hl).mono ?_
  rintro e w1 ⟨rfl, hb1⟩
  rw [HO.out]
  replace x0 := cell_below hb1 lx x0
  replace x1 := cell_below hb1 lx x1
  have lx1 : w.heap.size < w1.heap.size := Nat.lt_of_lt_of_le lx hb1.size
  have Z1 := Lib.hid (HZ.out.below hb1)
  have B1 := Lib.hid (B0.out.trans (hb1.mono (Nat.le_of_lt lx)))
  clear hb1
  cases o
  · go_wp2
    go_ret
    rw [show setAddL zs a b = [] from if_neg (by rw [HO.out]; simp)]
    exact gets_nil _ _ B1.out
  · have HE := Lib.hid (setAdd_eq (a := a) (b := b) HO.out)
    go_wp2_with fail
    generalize hW : (w1.alloc _).alloc _ = W2
    have y0 : W2.cell? ⟨w1.heap.size, 0, none⟩ = some (.int .i64 a) := by rw [← hW]; simp [go_sem]
    have y1 : W2.cell? ⟨w1.heap.size, 1, none⟩ = some (.int .i64 b) := by rw [← hW]; simp [go_sem]
    have q0 : W2.cell? ⟨w1.heap.size + 1, 0, none⟩ = some (.slice A zs.length cap) := by rw [← hW]; simp [go_sem]
    have q1 : W2.cell? ⟨w1.heap.size + 1, 1, none⟩ = some (.slice (some ⟨w1.heap.size, 0, none⟩) 1 1) := by rw [← hW]; simp [go_sem]
    have hb2 : Below w1.heap.size w1 W2 := by rw [← hW]; exact ((Below.refl _ _).alloc (Nat.le_refl _) _).alloc (by simp) _
    have B2 := Lib.hid (B1.out.trans (hb2.mono (Nat.le_of_lt lx1)))
    have Z2 := Lib.hid (Z1.out.below hb2)
    clear hW hb2
    refine (concat_any (w1.heap.size + 1) 2 A (some ⟨w1.heap.size, 0, none⟩) cap 1 zs [(a, b)] W2 q0 q1 Z2.out (spans_oneA y0 y1) HN.out (fun e => by cases e) hl (by simp) (by simp)).mono ?_
    rintro e w3 h3
    obtain ⟨ls, hls⟩ : ∃ ls, zs ++ [(a, b)] = ls := ⟨_, rfl⟩
    have hll : ls.length ≤ 4194304 := by rw [← hls]; simp; omega
    rw [hls] at h3 HE
    obtain ⟨A3, c3, rfl, ho3, hb3⟩ := gets_after h3 B2.out
    have O3 := Lib.hid ho3
    have B3 := Lib.hid hb3
    clear h3 ho3 hb3 hls q0 q1 y0 y1 x0 x1
    go_wp2_with fail
    refine (SetOf_any A3 c3 ls w3 (owns_spans O3.out) (owns_block O3.out) hll).mono ?_
    rintro e w4 h4
    obtain ⟨A4, c4, rfl, h5⟩ := gets_after h4 B3.out
    have H5 := Lib.hid h5
    clear h4 h5
    go_wp2
    go_ret
    rw [← HE.out]
    exact ⟨A4, c4, rfl, H5.out⟩

set_option maxRecDepth 100000 in
set_option maxHeartbeats 2000000 in
theorem sSetAdd_any (A : Option Addr) (cap : Nat) (zs : List (Int × Int)) (a b : Int) (w : World) (hz : Spans w A zs) (hl : zs.length ≤ 1048577) :
    Calls Try.prog 27 #[.slice A zs.length cap, .agg #[.int .i64 a, .int .i64 b]] w (Gets w (setAddL zs a b)) := by
  obtain ⟨o, ho⟩ : ∃ o, setOk zs = o := ⟨_, rfl⟩
  have HO := Lib.hid ho
  obtain ⟨so, hso⟩ : ∃ so, okB a b = so := ⟨_, rfl⟩
  have HSO := Lib.hid hso
  clear ho hso
  go_enter Try.func27, Try.ntmps27
  go_wp2_with fail
  generalize hW : w.alloc _ = W0
  have x0 : W0.cell? ⟨w.heap.size, 0, none⟩ = some (.int .i64 a) := by rw [← hW]; simp [go_sem]
  have x1 : W0.cell? ⟨w.heap.size, 1, none⟩ = some (.int .i64 b) := by rw [← hW]; simp [go_sem]
  have lx : w.heap.size < W0.heap.size := by rw [← hW]; simp
  have B0 := Lib.hid (show Below w.heap.size w W0 from by rw [← hW]; exact (Below.refl _ _).alloc (Nat.le_refl _) _)
  have HZ := Lib.hid (hz.below B0.out)
  clear hW hz
  refine (l1SetOk_any A cap zs W0 HZ.out hl).mono ?_
  rintro e w1 ⟨rfl, hb1⟩
  rw [HO.out]
  replace x0 := cell_below hb1 lx x0
  replace x1 := cell_below hb1 lx x1
  replace lx := Nat.lt_of_lt_of_le lx hb1.size
  have Z1 := Lib.hid (HZ.out.below hb1)
  have B1 := Lib.hid (B0.out.trans (hb1.mono B0.out.size))
  clear hb1
  cases o
  · go_wp2
    go_ret
    rw [show setAddL zs a b = [] from if_neg (by rw [HO.out]; simp)]
    exact gets_nil _ _ B1.out
  · go_wp2_with fail
    refine (l1Ok_val a b _ so HSO.out).mono ?_
    rintro e w2 ⟨rfl, hb2⟩
    replace x0 := cell_below hb2 lx x0
    replace x1 := cell_below hb2 lx x1
    have Z2 := Lib.hid (Z1.out.below hb2)
    have B2 := Lib.hid (B1.out.trans (hb2.mono (Nat.le_of_lt lx)))
    clear hb2
    cases so
    · go_wp2
      go_ret
      rw [show setAddL zs a b = [] from by unfold setAddL; rw [if_pos HO.out, if_neg (by rw [HSO.out]; simp)]]
      exact gets_nil _ _ B2.out
    · have HE := Lib.hid (show setAddL zs a b = addL zs (a, b) from by unfold setAddL; rw [if_pos HO.out, if_pos HSO.out])
      go_wp2_with fail
      refine (l1Add_any A cap zs a b _ Z2.out (by omega)).mono ?_
      rintro e w3 ⟨g3, c3, rfl, ho3, hb3⟩
      have O3 := Lib.hid (owns_base ho3 B2.out.size)
      have B3 := Lib.hid (B2.out.trans (hb3.mono B2.out.size))
      clear ho3 hb3
      go_wp2
      go_ret
      rw [HE.out]
      exact ⟨_, c3, rfl, O3.out, B3.out⟩
end Go.Proofs.Ytkdhdppngfadiaa
