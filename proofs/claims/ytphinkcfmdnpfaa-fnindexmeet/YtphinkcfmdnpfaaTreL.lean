/-
  Walks: a tree's list.
-/
import Derived.Test.YtphinkcfmdnpfaaSrcE
import Derived.Test.YtphinkcfmdnpfaaNodS
import Derived.Test.YtphinkcfmdnpfaaRelAtS
import Derived.Test.YtphinkcfmdnpfaaShelfG
import Derived.Test.YtphinkcfmdnpfaaTreG
namespace Go.Proofs.Ytphinkcfmdnpfaa
open Go.RowKit

theorem Try.infoC72 : (Try.prog.info? 72).map (fun i => (i.zero, i.size, i.bytes)) = some (some (.agg #[.string ⟨#[]⟩, .string ⟨#[]⟩, .int .i64 0, .int .i64 0, .int .i64 0, .int .i64 0]), 6, 64) := by kernel_rfl

set_option maxHeartbeats 1000000 in
theorem growN_any (n : Nat) (w : World) (h2 : n ≤ 2097156) :
    Calls Try.prog 154 #[.slice none 0 0, .int .i64 n] w fun e w' => ∃ v, e = .returned v ∧ w'.ownsRow w.heap.size 72 6 v 0 [] ∧ Below w.heap.size w w' := by
  obtain ⟨i0, hi, hz0, hz1, hz2⟩ := info_parts Try.infoC72
  by_cases h1 : 1 ≤ n
  · refine (Any8.slices_Grow_grow Try.growN i0 _ hi hz0 (by rw [hz1]; omega) none 0 0 n [] w (Nat.le_refl _) (by omega) (by rw [hz2]; omega) (by omega) (by simp) (fun _ => rfl) (fun a e => by cases e)).mono ?_
    rintro e w' ⟨rfl, rfl⟩
    have hge := grownCap_ge w (0 + n) 0 72
    have hle := grownCap_le_maxLen w (0 + n) 0 72 (by unfold maxLen; omega)
    refine ⟨_, rfl, ?_, ((Below.refl w.heap.size w).drew).alloc (Nat.le_refl _) _⟩
    refine owns_zeroE (sz := 6) (heap_alloc_new w.drew _) rfl (Nat.le_refl _) hle ?_
    have hzc : (Value.agg #[.string ⟨#[]⟩, .string ⟨#[]⟩, .int .i64 0, .int .i64 0, .int .i64 0, .int .i64 0]).cells.size = 6 := rfl
    simp only [Array.size_append, size_zeroCells, hzc, List.size_toArray, List.length_nil]
    change 0 + (0 + n - 0) * 6 + (grownCap w (0 + n) 0 72 - (0 + n)) * 6 = grownCap w (0 + n) 0 72 * 6
    omega
  · obtain rfl : n = 0 := by omega
    refine (Any8.slices_Grow_room Try.growN none 0 0 0 w (Nat.le_refl _) (by omega) (by omega) (by omega)).mono ?_
    rintro e w' ⟨rfl, rfl⟩
    exact ⟨_, rfl, World.ownsRow_nil _ _ _ _, Below.refl _ _⟩

def lenE3 (a b c k : Nat) : Nat := if k = 0 then 0 else if k = 1 then a else if k = 2 then a + b else a + b + c
def catE3 {α : Type} (xs ys zs : List α) (k : Nat) : List α := if k = 0 then [] else if k = 1 then xs else if k = 2 then xs ++ ys else xs ++ ys ++ zs

set_option maxRecDepth 100000 in
set_option maxHeartbeats 4000000 in
theorem concatNode_any (q cq : Nat) (A B C : Option Addr) (ca cb cc : Nat) (xs ys zs : List NodV) (w : World) (c0 : w.cell? ⟨q, 0, none⟩ = some (.slice A xs.length ca)) (c1 : w.cell? ⟨q, 1, none⟩ = some (.slice B ys.length cb)) (c2 : w.cell? ⟨q, 2, none⟩ = some (.slice C zs.length cc))
    (hx : NodsA w A xs) (hy : NodsA w B ys) (hz : NodsA w C zs) (hA : A = none → ca = 0) (hB : B = none → cb = 0) (hCn : C = none → cc = 0) (hlx : xs.length ≤ 1000) (hly : ys.length ≤ 1000) (hlz : zs.length ≤ 1000) :
    Calls Try.prog 132 #[.slice (some ⟨q, 0, none⟩) 3 cq] w (GetsE nodC 6 72 w (xs ++ ys ++ zs)) := by
  obtain ⟨i0, hi, hz0, hz1, hz2⟩ := info_parts Try.infoC72
  have Hi := Lib.hid hi
  have Hz0 := Lib.hid hz0
  have Hz1 := Lib.hid hz1
  have Hz2 := Lib.hid hz2
  have HX := Lib.hid hx
  have HY := Lib.hid hy
  have HA := Lib.hid hA
  have HB := Lib.hid hB
  have HZ := Lib.hid hz
  have HCn := Lib.hid hCn
  have lq : q < w.heap.size := World.block_lt_of_cell? _ _ c0
  clear hi hz0 hz1 hz2 hx hy hz hA hB hCn
  go_enter Try.func132, Try.ntmps132
  go_wp2
  go_loopw [3, 11] (fun s i wr => ∃ k : Nat, k ≤ 3 ∧ i = .int .i64 k ∧ s = .int .i64 (lenE3 xs.length ys.length zs.length k) ∧ w = wr) (fun _ i _ => 3 - (intOf i).toNat)
  case atStart => exact ⟨0, by omega, rfl, rfl, rfl⟩
  case round =>
    obtain ⟨k, hk, rfl, rfl, rfl⟩ := hrel
    obtain rfl | rfl | rfl | rfl : k = 0 ∨ k = 1 ∨ k = 2 ∨ k = 3 := by omega
    · have e1 : ((lenE3 xs.length ys.length zs.length 0 : Nat) : Int) = 0 := rfl
      rw [e1]
      go_wp2
      go_roundw
      case rel => exact ⟨1, by omega, by go_num, by simp [lenE3], by first | rfl | trivial⟩
      case measure => simp [intOf]
    · have e1 : lenE3 xs.length ys.length zs.length 1 = xs.length := rfl
      rw [e1]
      go_wp2
      go_roundw
      case rel => exact ⟨2, by omega, by go_num, by simp [lenE3], by first | rfl | trivial⟩
      case measure => simp [intOf]
    · have e1 : lenE3 xs.length ys.length zs.length 2 = xs.length + ys.length := rfl
      rw [e1]
      go_wp2
      go_roundw
      case rel => exact ⟨3, by omega, by go_num, by simp [lenE3], by first | rfl | trivial⟩
      case measure => simp [intOf]
    · have e1 : lenE3 xs.length ys.length zs.length 3 = xs.length + ys.length + zs.length := rfl
      rw [e1]
      go_wp2_with fail
      refine (growN_any (xs.length + ys.length + zs.length) _ (by omega)).mono ?_
      rintro e w1 ⟨v1, rfl, ho1, hb1⟩
      have O1 := Lib.hid ho1
      have B1 := Lib.hid hb1
      clear ho1 hb1
      go_wp2
      go_loopw [6, 27] (fun v i wr => ∃ k : Nat, k ≤ 3 ∧ i = .int .i64 k ∧ wr.ownsRow w.heap.size 72 6 v (catE3 xs ys zs k).length (flatOf nodC (catE3 xs ys zs k)) ∧ Below w.heap.size w wr) (fun _ i _ => 3 - (intOf i).toNat)
      case atStart => exact ⟨0, by omega, rfl, O1.out, B1.out⟩
      case round =>
        obtain ⟨k, hk, rfl, hown, hbr⟩ := hrel
        have Hown := Lib.hid hown
        have hs5 := hbr.size
        have d0 := cell_below hbr lq c0
        have d1 := cell_below hbr lq c1
        have d2 := cell_below hbr lq c2
        have SX := Lib.hid (srcE_of nodC_len (by omega) (HX.out.below hbr) HA.out)
        have SY := Lib.hid (srcE_of nodC_len (by omega) (HY.out.below hbr) HB.out)
        have SZ := Lib.hid (srcE_of nodC_len (by omega) (HZ.out.below hbr) HCn.out)
        clear hown
        obtain rfl | rfl | rfl | rfl : k = 0 ∨ k = 1 ∨ k = 2 ∨ k = 3 := by omega
        · have Hown' := Lib.hid (show wr.ownsRow w.heap.size 72 6 u6 0 (flatOf nodC []) from Hown.out)
          go_wp2_with (at_builtin; refine wpList_append_srcE nodC_len nodC_one (by omega) _ rfl _ _ 50 rfl w.heap.size 72 i0 _ 64 Try.underlying50 Hi.out Hz0.out Hz1.out Hz2.out rfl _ 0 [] rfl Hown'.out _ xs rfl SX.out (by unfold maxLen; omega) (by omega) hs5 ?_; rw [List.nil_append, Nat.zero_add]; intro v9 w9 ho9 hg9; have O9 := Lib.hid ho9; have B9 := Lib.hid (hbr.grown hg9 hs5 (fun i e => (Hown'.out.lt i e).1)); clear ho9 hg9)
          refine ⟨⟨1, by omega, by simp, O9.out, B9.out⟩, ?_⟩
          simp [intOf]
        · have Hown' := Lib.hid (show wr.ownsRow w.heap.size 72 6 u6 xs.length (flatOf nodC xs) from Hown.out)
          go_wp2_with (at_builtin; refine wpList_append_srcE nodC_len nodC_one (by omega) _ rfl _ _ 50 rfl w.heap.size 72 i0 _ 64 Try.underlying50 Hi.out Hz0.out Hz1.out Hz2.out rfl _ xs.length xs rfl Hown'.out _ ys rfl SY.out (by unfold maxLen; omega) (by omega) hs5 ?_; intro v9 w9 ho9 hg9; have O9 := Lib.hid (show w9.ownsRow w.heap.size 72 6 v9 (xs ++ ys).length (flatOf nodC (xs ++ ys)) from by rw [List.length_append]; exact ho9); have B9 := Lib.hid (hbr.grown hg9 hs5 (fun i e => (Hown'.out.lt i e).1)); clear ho9 hg9)
          refine ⟨⟨2, by omega, by simp, O9.out, B9.out⟩, ?_⟩
          simp [intOf]
        · have Hown' := Lib.hid (show wr.ownsRow w.heap.size 72 6 u6 (xs ++ ys).length (flatOf nodC (xs ++ ys)) from Hown.out)
          obtain ⟨ab, hab⟩ : ∃ ab, xs ++ ys = ab := ⟨_, rfl⟩
          have hal : ab.length ≤ 2000 := by rw [← hab, List.length_append]; omega
          have HAB := Lib.hid hab
          rw [hab] at Hown'
          clear hab
          go_wp2_with (at_builtin; refine wpList_append_srcE nodC_len nodC_one (by omega) _ rfl _ _ 50 rfl w.heap.size 72 i0 _ 64 Try.underlying50 Hi.out Hz0.out Hz1.out Hz2.out rfl _ ab.length ab rfl Hown'.out _ zs rfl SZ.out (by unfold maxLen; omega) (by omega) hs5 ?_; intro v9 w9 ho9 hg9; have O9 := Lib.hid (show w9.ownsRow w.heap.size 72 6 v9 (xs ++ ys ++ zs).length (flatOf nodC (xs ++ ys ++ zs)) from by rw [HAB.out, List.length_append]; exact ho9); have B9 := Lib.hid (hbr.grown hg9 hs5 (fun i e => (Hown'.out.lt i e).1)); clear ho9 hg9)
          refine ⟨⟨3, by omega, by simp, O9.out, B9.out⟩, ?_⟩
          simp [intOf]
        · have Hown' := Lib.hid (show wr.ownsRow w.heap.size 72 6 u6 (xs ++ ys ++ zs).length (flatOf nodC (xs ++ ys ++ zs)) from Hown.out)
          obtain ⟨A', c', hv⟩ := owns_sliceE Hown'.out
          subst hv
          go_wp2
          go_ret
          exact ⟨A', c', rfl, Hown'.out, hbr⟩
end Go.Proofs.Ytphinkcfmdnpfaa
namespace Go.Proofs.Ytphinkcfmdnpfaa
open Go.RowKit Go.Lib

theorem nods_one (w : World) (x : NodV) : NodsA (w.alloc (.cells #[.string x.r.k, .string x.r.t, .int .i64 x.r.f, .int .i64 x.r.e, .int .i64 x.i, .int .i64 x.o] 72)) (some ⟨w.heap.size, 0, none⟩) [x] := by
  have h := World.ownsRow_lit (base := w.heap.size) (e := 72) (size := 6) w #[.string x.r.k, .string x.r.t, .int .i64 x.r.f, .int .i64 x.r.e, .int .i64 x.i, .int .i64 x.o] 1 (by simp) (by simp [maxLen]) (by simp)
  have h2 : (w.alloc (.cells #[.string x.r.k, .string x.r.t, .int .i64 x.r.f, .int .i64 x.r.e, .int .i64 x.i, .int .i64 x.o] 72)).ownsRow w.heap.size 72 6 (.slice (some ⟨w.heap.size, 0, none⟩) [x].length 1) [x].length (flatOf nodC [x]) := by simpa [flatOf, nodC] using h
  exact el_of_owns nodC_len h2

theorem nods_alloc {w : World} {o : Obj} {A : Option Addr} {l : List NodV} (h : NodsA w A l) : NodsA (w.alloc o) A l := h.below ((Below.refl _ _).alloc (Nat.le_refl _) _)
theorem nods_drew {w : World} {A : Option Addr} {l : List NodV} (h : NodsA w A l) : NodsA w.drew A l := h

set_option maxRecDepth 100000 in
set_option maxHeartbeats 4000000 in
theorem treeList_any (T : Tr) : ∀ (p : Option Addr) (w : World), TreeAt w T p → T.many ≤ 100 →
    Calls Try.prog 89 #[.pointer p] w (GetsE nodC 6 72 w T.list) := by
  induction T with
  | nil =>
    intro p w h _
    have e : p = none := h
    subst e
    go_enter Try.func89, Try.ntmps89
    go_wp2
    go_ret
    exact getsE_nil _ _ _ (Below.refl _ _)
  | node x l r ihl ihr =>
    intro p w h hm
    obtain ⟨b, pl, pr, rfl, hbb, c0, c1, c2, c3, c4, c5, c6, c7, hl, hr⟩ := h.node_at
    have hme : (Tr.node x l r).many = l.many + 1 + r.many := rfl
    rw [hme] at hm
    have HL := Lib.hid (fun w' (hb : Below w.heap.size w w') => ihl pl w' (hl.below hb) (by omega))
    have HR := Lib.hid (fun w' (hb : Below w.heap.size w w') => ihr pr w' (hr.below hb) (by omega))
    have hll := l.list_len
    have hlr := r.list_len
    have HT := Lib.hid (show (Tr.node x l r).list = [x] ++ l.list ++ r.list from rfl)
    obtain ⟨Q, hQ⟩ : ∃ Q, (Tr.node x l r).list = Q := ⟨_, rfl⟩
    rw [hQ] at HT ⊢
    generalize l.list = ys at HL HT hll
    generalize r.list = zs at HR HT hlr
    have hq0 : Below w.heap.size w w := Below.refl _ _
    have hyl : ys.length ≤ 100 := by omega
    have hzl : zs.length ≤ 100 := by omega
    clear h hl hr ihl ihr hme hm hll hlr hQ
    go_enter Try.func89, Try.ntmps89
    go_wp2_with fail
    go_region_held3 (fun w' => w'.cell? ⟨b, 0, none⟩ = some (.string x.r.k) ∧ w'.cell? ⟨b, 1, none⟩ = some (.string x.r.t) ∧ w'.cell? ⟨b, 2, none⟩ = some (.int .i64 x.r.f) ∧ w'.cell? ⟨b, 3, none⟩ = some (.int .i64 x.r.e) ∧ w'.cell? ⟨b, 4, none⟩ = some (.int .i64 x.i) ∧ w'.cell? ⟨b, 5, none⟩ = some (.int .i64 x.o) ∧ w'.cell? ⟨b, 6, none⟩ = some (.pointer pl) ∧ w'.cell? ⟨b, 7, none⟩ = some (.pointer pr) ∧ w.heap.size ≤ w'.heap.size ∧ Below w.heap.size w w')
      (((try go_split_ands); refine ⟨?cc90, ?cc91, ?cc92, ?cc93, ?cc94, ?cc95, ?cc96, ?cc97, ?sz9, ?bl9⟩; (case cc90 => (repeat (first | with_reducible assumption | with_reducible refine cell_below hb (by first | omega | (simp; done) | (simp; omega)) ?_ | with_reducible refine cell_drew ?_ | with_reducible exact cell_alloc_swap (by with_reducible assumption) (by first | omega | (simp; done) | (simp; omega)) | with_reducible refine cell_alloc_far ?_))); (case cc91 => (repeat (first | with_reducible assumption | with_reducible refine cell_below hb (by first | omega | (simp; done) | (simp; omega)) ?_ | with_reducible refine cell_drew ?_ | with_reducible exact cell_alloc_swap (by with_reducible assumption) (by first | omega | (simp; done) | (simp; omega)) | with_reducible refine cell_alloc_far ?_))); (case cc92 => (repeat (first | with_reducible assumption | with_reducible refine cell_below hb (by first | omega | (simp; done) | (simp; omega)) ?_ | with_reducible refine cell_drew ?_ | with_reducible exact cell_alloc_swap (by with_reducible assumption) (by first | omega | (simp; done) | (simp; omega)) | with_reducible refine cell_alloc_far ?_))); (case cc93 => (repeat (first | with_reducible assumption | with_reducible refine cell_below hb (by first | omega | (simp; done) | (simp; omega)) ?_ | with_reducible refine cell_drew ?_ | with_reducible exact cell_alloc_swap (by with_reducible assumption) (by first | omega | (simp; done) | (simp; omega)) | with_reducible refine cell_alloc_far ?_))); (case cc94 => (repeat (first | with_reducible assumption | with_reducible refine cell_below hb (by first | omega | (simp; done) | (simp; omega)) ?_ | with_reducible refine cell_drew ?_ | with_reducible exact cell_alloc_swap (by with_reducible assumption) (by first | omega | (simp; done) | (simp; omega)) | with_reducible refine cell_alloc_far ?_))); (case cc95 => (repeat (first | with_reducible assumption | with_reducible refine cell_below hb (by first | omega | (simp; done) | (simp; omega)) ?_ | with_reducible refine cell_drew ?_ | with_reducible exact cell_alloc_swap (by with_reducible assumption) (by first | omega | (simp; done) | (simp; omega)) | with_reducible refine cell_alloc_far ?_))); (case cc96 => (repeat (first | with_reducible assumption | with_reducible refine cell_below hb (by first | omega | (simp; done) | (simp; omega)) ?_ | with_reducible refine cell_drew ?_ | with_reducible exact cell_alloc_swap (by with_reducible assumption) (by first | omega | (simp; done) | (simp; omega)) | with_reducible refine cell_alloc_far ?_))); (case cc97 => (repeat (first | with_reducible assumption | with_reducible refine cell_below hb (by first | omega | (simp; done) | (simp; omega)) ?_ | with_reducible refine cell_drew ?_ | with_reducible exact cell_alloc_swap (by with_reducible assumption) (by first | omega | (simp; done) | (simp; omega)) | with_reducible refine cell_alloc_far ?_))); (case sz9 => (first | with_reducible assumption | (have := hb.size; omega) | omega | (simp; done) | (simp; omega) | (have := hb.size; simp at this ⊢; omega))); (case bl9 => (repeat (first | with_reducible assumption | with_reducible exact hq0 | with_reducible refine Below.drew ?_ | with_reducible refine Below.trans ?_ (hb.mono (by first | omega | (simp; done) | (simp; omega))) | with_reducible exact below_alloc_swap (by with_reducible assumption) (by first | omega | (simp; done) | (simp; omega)) | with_reducible refine Below.alloc ?_ (by first | omega | (simp; done) | (simp; omega)) _)))))
      (first
        | (go_at_call 89; (try go_split_ands); (with_reducible refine (HL.out _ (by with_reducible assumption)).mono ?_); rintro e wL ⟨AL, cL, rfl, ho, hb⟩; have OL := Lib.hid ho; have HBL := Lib.hid hb; clear ho; dsimp only)
        | (go_at_call 89; (try go_split_ands); (with_reducible refine (HR.out _ (by with_reducible assumption)).mono ?_); rintro e wR ⟨AR, cR, rfl, ho, hb⟩; have OR := Lib.hid ho; have HBR := Lib.hid hb; clear ho; dsimp only)
        | (go_at_call 132; (try go_split_ands); refine (concatNode_any _ 3 (some ⟨w.heap.size, 0, none⟩) AL AR 1 cL cR [x] ys zs _ ?_ ?_ ?_ ?_ ?_ ?_ (by simp) (owns_nilE OL.out) (owns_nilE OR.out) (by simp) (by omega) (by omega)).mono ?_; (focus (simp [go_sem]; done)); (focus (simp [go_sem]; done)); (focus (simp [go_sem]; done)); (focus ((repeat (first | with_reducible exact nods_one _ x | exact el_of_owns nodC_len OL.out | exact el_of_owns nodC_len OR.out | with_reducible refine nods_drew ?_ | with_reducible refine NodsA.below ?_ HBR.out | with_reducible refine NodsA.below ?_ HBL.out | exact nods_one _ x | with_reducible refine nods_alloc ?_)); done)); (focus ((repeat (first | with_reducible exact nods_one _ x | exact el_of_owns nodC_len OL.out | exact el_of_owns nodC_len OR.out | with_reducible refine nods_drew ?_ | with_reducible refine NodsA.below ?_ HBR.out | with_reducible refine NodsA.below ?_ HBL.out | exact nods_one _ x | with_reducible refine nods_alloc ?_)); done)); (focus ((repeat (first | with_reducible exact nods_one _ x | exact el_of_owns nodC_len OL.out | exact el_of_owns nodC_len OR.out | with_reducible refine nods_drew ?_ | with_reducible refine NodsA.below ?_ HBR.out | with_reducible refine NodsA.below ?_ HBL.out | exact nods_one _ x | with_reducible refine nods_alloc ?_)); done)); rintro e wZ ⟨AZ, cZ, rfl, ho, hb⟩; have OZ := Lib.hid (ownsBase (base' := w.heap.size) ho (by first | with_reducible assumption | (simp; done) | (simp; omega))); clear ho; dsimp only)
        | (go_at_call 132; (try go_split_ands); refine (concatNode_any _ 3 (some ⟨wL.heap.size, 0, none⟩) AL AR 1 cL cR [x] ys zs _ ?_ ?_ ?_ ?_ ?_ ?_ (by simp) (owns_nilE OL.out) (owns_nilE OR.out) (by simp) (by omega) (by omega)).mono ?_; (focus (simp [go_sem]; done)); (focus (simp [go_sem]; done)); (focus (simp [go_sem]; done)); (focus ((repeat (first | with_reducible exact nods_one _ x | exact el_of_owns nodC_len OL.out | exact el_of_owns nodC_len OR.out | with_reducible refine nods_drew ?_ | with_reducible refine NodsA.below ?_ HBR.out | with_reducible refine NodsA.below ?_ HBL.out | exact nods_one _ x | with_reducible refine nods_alloc ?_)); done)); (focus ((repeat (first | with_reducible exact nods_one _ x | exact el_of_owns nodC_len OL.out | exact el_of_owns nodC_len OR.out | with_reducible refine nods_drew ?_ | with_reducible refine NodsA.below ?_ HBR.out | with_reducible refine NodsA.below ?_ HBL.out | exact nods_one _ x | with_reducible refine nods_alloc ?_)); done)); (focus ((repeat (first | with_reducible exact nods_one _ x | exact el_of_owns nodC_len OL.out | exact el_of_owns nodC_len OR.out | with_reducible refine nods_drew ?_ | with_reducible refine NodsA.below ?_ HBR.out | with_reducible refine NodsA.below ?_ HBL.out | exact nods_one _ x | with_reducible refine nods_alloc ?_)); done)); rintro e wZ ⟨AZ, cZ, rfl, ho, hb⟩; have OZ := Lib.hid (ownsBase (base' := w.heap.size) ho (by first | with_reducible assumption | (simp; done) | (simp; omega))); clear ho; dsimp only)
        | (go_at_call 132; (try go_split_ands); refine (concatNode_any _ 3 (some ⟨wR.heap.size, 0, none⟩) AL AR 1 cL cR [x] ys zs _ ?_ ?_ ?_ ?_ ?_ ?_ (by simp) (owns_nilE OL.out) (owns_nilE OR.out) (by simp) (by omega) (by omega)).mono ?_; (focus (simp [go_sem]; done)); (focus (simp [go_sem]; done)); (focus (simp [go_sem]; done)); (focus ((repeat (first | with_reducible exact nods_one _ x | exact el_of_owns nodC_len OL.out | exact el_of_owns nodC_len OR.out | with_reducible refine nods_drew ?_ | with_reducible refine NodsA.below ?_ HBR.out | with_reducible refine NodsA.below ?_ HBL.out | exact nods_one _ x | with_reducible refine nods_alloc ?_)); done)); (focus ((repeat (first | with_reducible exact nods_one _ x | exact el_of_owns nodC_len OL.out | exact el_of_owns nodC_len OR.out | with_reducible refine nods_drew ?_ | with_reducible refine NodsA.below ?_ HBR.out | with_reducible refine NodsA.below ?_ HBL.out | exact nods_one _ x | with_reducible refine nods_alloc ?_)); done)); (focus ((repeat (first | with_reducible exact nods_one _ x | exact el_of_owns nodC_len OL.out | exact el_of_owns nodC_len OR.out | with_reducible refine nods_drew ?_ | with_reducible refine NodsA.below ?_ HBR.out | with_reducible refine NodsA.below ?_ HBL.out | exact nods_one _ x | with_reducible refine nods_alloc ?_)); done)); rintro e wZ ⟨AZ, cZ, rfl, ho, hb⟩; have OZ := Lib.hid (ownsBase (base' := w.heap.size) ho (by first | with_reducible assumption | (simp; done) | (simp; omega))); clear ho; dsimp only)
        | fail)
    all_goals (
      rename_i hH
      obtain ⟨-, -, -, -, -, -, -, -, -, hBz⟩ := hH
      have BZ := Lib.hid hBz
      have HQ := Lib.hid (show wZ.ownsRow w.heap.size 72 6 (.slice AZ Q.length cZ) Q.length (flatOf nodC Q) from by rw [HT.out]; exact OZ.out)
      have HLQ := Lib.hid (show ([x] ++ ys ++ zs).length = Q.length from by rw [HT.out])
      have HLQ2 := Lib.hid (show ys.length + zs.length + 1 = Q.length from by rw [HT.out]; simp)
      clear hBz hb
      rw [HLQ.out]
      go_wp2
      try rw [HLQ2.out]
      go_ret
      exact ⟨AZ, cZ, rfl, HQ.out, BZ.out⟩)
end Go.Proofs.Ytphinkcfmdnpfaa
