/-
  Walks: what was known at a stamp: the program's.
-/
import Derived.Test.YtkalanjgjeijbaaTraE
import Derived.RangeFuncNested
import Derived.RangeFuncBound
import Derived.RangeFuncCalls
import Derived.RangeFuncLeaves
import Derived.Shelf.Abstract
import Derived.Shelf.RegionOpen
import Derived.WalkKit
import Derived.OwnWalkIn
import Derived.TacticsInMore
import Derived.LoopNIn
import Derived.LoopIn
import Derived.RangeFuncBox
namespace Go.Proofs.Ytkalanjgjeijbaa
open Go.RowKit Go.Shelf

def traAt (zs : List TraV) (st : Int) : ByteArray := match zs.reverse.find? (fun x => decide (x.k ≤ st)) with | some x => x.t | none => ⟨#[]⟩
theorem traAt_take {zs : List TraV} {k : Nat} {x : TraV} (st : Int) (hx : zs[k]? = some x) : traAt (zs.take (k + 1)) st = if x.k ≤ st then x.t else traAt (zs.take k) st := by
  obtain ⟨hk, rfl⟩ := List.getElem?_eq_some_iff.1 hx
  unfold traAt
  rw [List.take_succ_eq_append_getElem hk, List.reverse_append, List.reverse_singleton, List.singleton_append, List.find?_cons]
  by_cases h : zs[k].k ≤ st
  · rw [decide_eq_true h, if_pos h]
  · rw [decide_eq_false h, if_neg h]
theorem traAt_hit {zs : List TraV} {k : Nat} {x : TraV} {st : Int} (hx : zs[k]? = some x) (hh : x.k ≤ st) (ha : ∀ y ∈ zs.drop (k + 1), ¬ y.k ≤ st) : traAt zs st = x.t := by
  obtain ⟨hk, rfl⟩ := List.getElem?_eq_some_iff.1 hx
  have e : zs.reverse = (zs.drop (k + 1)).reverse ++ (zs.take (k + 1)).reverse := by rw [← List.reverse_append, List.take_append_drop]
  unfold traAt
  rw [e, List.find?_append]
  have h0 : (zs.drop (k + 1)).reverse.find? (fun x => decide (x.k ≤ st)) = none := by
    rw [List.find?_eq_none]
    intro y hy
    rw [decide_eq_true_eq]
    exact ha y (List.mem_reverse.1 hy)
  rw [h0, Option.none_or, List.take_succ_eq_append_getElem hk, List.reverse_append, List.reverse_singleton, List.singleton_append, List.find?_cons, decide_eq_true hh]
theorem traAt_none {zs : List TraV} {st : Int} (ha : ∀ y ∈ zs, ¬ y.k ≤ st) : traAt zs st = ⟨#[]⟩ := by
  unfold traAt
  have h0 : zs.reverse.find? (fun x => decide (x.k ≤ st)) = none := by
    rw [List.find?_eq_none]
    intro y hy
    rw [decide_eq_true_eq]
    exact ha y (List.mem_reverse.1 hy)
  rw [h0]

set_option maxRecDepth 100000 in
set_option maxHeartbeats 4000000 in
theorem sTraceAt_any (A : Option Addr) (cap : Nat) (zs : List TraV) (st : Int) (w : World) (hz : TrasA w A zs) (hl : zs.length ≤ 1048577) :
    Calls Try.prog 18 #[.slice A zs.length cap, .int .i64 st] w fun e w' => e = .returned (.string (traAt zs st)) ∧ Below w.heap.size w w' := by
  have HZ := Lib.hid hz
  clear hz
  go_enter Try.func18, Try.ntmps18
  go_wp2
  go_loopw [5, 6] (fun v i wr => ∃ k : Nat, k ≤ zs.length ∧ i = .int .i64 k ∧ v = .string (traAt (zs.take k) st) ∧ Below w.heap.size w wr) (fun _ i _ => zs.length - (intOf i).toNat)
  case atStart => exact ⟨0, Nat.zero_le _, rfl, rfl, Below.refl _ _⟩
  case round =>
    obtain ⟨k, hk, rfl, rfl, hbr⟩ := hrel
    by_cases hlt : k < zs.length
    · obtain ⟨b, off, x, rfl, hb, hx, c0, c1⟩ := (HZ.out.below hbr).at_ hlt
      have HT := Lib.hid (traAt_take st hx)
      have hkz : (k : Int) < (zs.length : Int) := by omega
      have hkz0 : (0 : Int) ≤ (k : Int) := by omega
      have BR := Lib.hid hbr
      clear hx hbr
      by_cases h : x.k ≤ st
      · have hd : decide (x.k ≤ st) = true := decide_eq_true h
        rw [if_pos h] at HT
        go_wp2
        go_roundw
        case rel => exact ⟨k + 1, by omega, by go_num, by rw [HT.out], BR.out⟩
        case measure => simp [intOf]; omega
      · have hd : decide (x.k ≤ st) = false := decide_eq_false h
        rw [if_neg h] at HT
        go_wp2
        go_roundw
        case rel => exact ⟨k + 1, by omega, by go_num, by rw [HT.out], BR.out⟩
        case measure => simp [intOf]; omega
    · obtain rfl : k = zs.length := by omega
      have BR := Lib.hid hbr
      clear hbr
      go_wp2
      go_ret
      rw [List.take_length]
      exact ⟨rfl, BR.out⟩

attribute [local go_sem] Oper.semAt_some

/-- what the iterator hands on: a place, and what lies there -/
def encB (p : TraV × Nat) : Array Value := #[.int .i64 p.2, .agg #[.int .i64 p.1.k, .string p.1.t]]
/-- what comes from the place k on, backward -/
def bkD (zs : List TraV) (k : Nat) : List (TraV × Nat) := (zs.zipIdx.drop k).reverse
theorem bkD_end (zs : List TraV) : bkD zs zs.length = [] := by unfold bkD; rw [List.drop_eq_nil_of_le (by simp)]; rfl
theorem bkD_len (zs : List TraV) (k : Nat) : (bkD zs k).length = zs.length - k := by simp [bkD]
theorem bkD_step {zs : List TraV} {k : Nat} {x : TraV} (hx : zs[k]? = some x) : bkD zs k = bkD zs (k + 1) ++ [(x, k)] := by
  obtain ⟨hk, rfl⟩ := List.getElem?_eq_some_iff.1 hx
  unfold bkD
  rw [List.drop_eq_getElem_cons (by simpa using hk), List.reverse_cons]
  simp
theorem bkD_pre (zs : List TraV) (k : Nat) : bkD zs k <+: bkD zs 0 := by
  refine ⟨(zs.zipIdx.take k).reverse, ?_⟩
  unfold bkD
  rw [← List.reverse_append, List.take_append_drop, List.drop_zero]

set_option maxRecDepth 100000 in
set_option maxHeartbeats 2000000 in
theorem back1_in (F : Fence) (n : Nat) (h7 : F.fn 54) (hro : F.round = none) (hn : 1 ≤ n) (l Bs n₀ cap : Nat) (A : Option Addr) (zs : List TraV) (hl : zs.length ≤ 4194304) (J Jx : List (TraV × Nat) → World → Prop)
    (hY : ∀ pre x W, J pre W → pre.length < zs.length → YieldAt F (n - 1) Try.prog l (encB x) W fun e W' =>
      (e = .returned (.bool true) ∧ J (pre ++ [x]) W' ∧ Below n₀ W W') ∨ (e = .returned (.bool false) ∧ Jx (pre ++ [x]) W'))
    (W : World) (hBs : W.cell? ⟨Bs, 0, none⟩ = some (.slice A zs.length cap)) (hBn : Bs < n₀) (hz : TrasA W A zs) (hb : 0 < zs.length → ∀ b off, A = some ⟨b, off, none⟩ → b < n₀) (h0 : J [] W) :
    CallsIn F n Try.prog 54 #[.func (.yield l) #[] #[], .pointer (some ⟨Bs, 0, none⟩)] W fun e W' => (∃ v, e = .returned v) ∧
      ((∃ ys, ys = bkD zs 0 ∧ J ys W') ∨ (∃ pre, pre <+: bkD zs 0 ∧ Jx pre W')) := by
  refine callsIn_of_wp Try.func54 rfl h7 ?_ hro
  simp only [Try.ntmps54, List.size_toArray, List.length_cons, List.length_nil, Nat.reduceAdd, Nat.reduceSub, Array.replicate_succ, Array.replicate_zero, List.push_toArray, List.append_toArray, List.nil_append, List.cons_append]
  gi_wp2
  gi_loopw [3] (fun i wr => ∃ (k : Nat) (j : Int), k ≤ zs.length ∧ i = .int .i64 j ∧ j + 1 = k ∧ J (bkD zs k) wr ∧ Below n₀ W wr)
    (fun i _ => (intOf i + 1).toNat)
  case atStart => exact ⟨zs.length, (zs.length : Int) - 1, Nat.le_refl _, by go_num, by omega, by rw [bkD_end]; exact h0, Below.refl _ _⟩
  case round =>
    obtain ⟨k, j, hk, rfl, hj, hJs, hnx⟩ := hrel
    have cB : wr.cell? ⟨Bs, 0, none⟩ = some (.slice A zs.length cap) := cell_below hnx hBn hBs
    cases k with
    | zero =>
      obtain rfl : j = -1 := by omega
      have HJ := Lib.hid hJs
      clear hJs
      gi_wp2
      go_end0
      exact ⟨⟨_, rfl⟩, .inl ⟨_, rfl, HJ.out⟩⟩
    | succ k =>
      obtain rfl : j = (k : Int) := by omega
      obtain ⟨b, off, x, rfl, hbl, hx, c0, c1⟩ := hz.at_ (i := k) (by omega)
      have hbn := hb (by omega) b off rfl
      have c0r : wr.cell? ⟨b, off + k * 2, none⟩ = some (.int .i64 x.k) := cell_below hnx hbn c0
      have c1r : wr.cell? ⟨b, off + k * 2 + 1, none⟩ = some (.string x.t) := cell_below hnx hbn c1
      have Ht := Lib.hid (bkD_step hx)
      have hkz : (k : Int) < (zs.length : Int) := by omega
      have hkz0 : (0 : Int) ≤ (k : Int) := by omega
      obtain ⟨fn, tmps, assign, body, hy, hR⟩ := hY (bkD zs (k + 1)) (x, k) wr hJs (by rw [bkD_len]; omega)
      have HJ := Lib.hid hJs
      clear c0 c1 hJs hx
      simp only [encB] at hy hR
      gi_wp2
      refine hR.mono ?_
      rintro e W3 (⟨rfl, hJ3, hk3⟩ | ⟨rfl, hJx3⟩)
      · have hB3 : Below n₀ W W3 := hnx.trans hk3
        have HJ3 := Lib.hid hJ3
        clear hJ3 hR hy
        gi_wp2
        go_roundw
        case rel => exact ⟨k, (k : Int) - 1, by omega, by go_num, by omega, by rw [Ht.out]; exact HJ3.out, hB3⟩
        case measure => simp [intOf]
      · have HJ3 := Lib.hid hJx3
        clear hJx3 hR hy
        gi_wp2
        refine bodyPost_ret (results_none rfl _ _ _) rfl ?_
        exact ⟨⟨_, rfl⟩, .inr ⟨bkD zs (k + 1) ++ [(x, k)], by rw [← Ht.out]; exact bkD_pre _ _, HJ3.out⟩⟩

set_option maxHeartbeats 1000000 in
theorem Backward_any (A : Option Addr) (len cap : Nat) (w : World) :
    Calls Try.prog 34 #[.slice A len cap] w fun e w' => e = .returned (.func (.func 54) #[] #[.pointer (some ⟨w.heap.size, 0, none⟩)]) ∧ w' = w.alloc (.cells #[.slice A len cap] 37) := by
  go_enter Try.func34, Try.ntmps34
  go_wp2
  go_ret
  exact ⟨rfl, rfl⟩
theorem back_stops (n : Nat) (hn : 1 ≤ n) (Bs n₀ cap : Nat) (A : Option Addr) (zs : List TraV) (hl : zs.length ≤ 4194304) (w : World) (hBs : Bs < n₀) (hn₀ : n₀ ≤ w.heap.size)
    (hc : w.cell? ⟨Bs, 0, none⟩ = some (.slice A zs.length cap)) (hz : TrasA w A zs) (hb : 0 < zs.length → ∀ b off, A = some ⟨b, off, none⟩ → b < n₀) :
    SeqStopsK Fence.wide n Try.prog 54 #[.pointer (some ⟨Bs, 0, none⟩)] encB (Below n₀) (fun ys => ys = bkD zs 0) (fun pre => pre <+: bkD zs 0) zs.length w := fun l J Jx W hW _ _ hY h0 =>
  back1_in Fence.wide n trivial rfl hn l Bs n₀ cap A zs hl J Jx hY W ((hW.cell (p := ⟨Bs, 0, none⟩) (by show Bs < _; omega)).trans hc) hBs (hz.below hW) hb h0
end Go.Proofs.Ytkalanjgjeijbaa
namespace Go.Proofs.Ytkalanjgjeijbaa
open Go.RowKit Go.Shelf

attribute [local go_sem] Oper.semAt_some

/-- A block that holds a trace. -/
def BoxedT (W : World) (B : Nat) (x : TraV) : Prop := W.heap[B]? = some (.cells #[.int .i64 x.k, .string x.t] 40 (0, 0))
theorem BoxedT.lt {W : World} {B : Nat} {x : TraV} (h : BoxedT W B x) : B < W.heap.size := (Array.getElem?_eq_some_iff.1 h).1
theorem BoxedT.cell0 {W : World} {B : Nat} {x : TraV} (h : BoxedT W B x) : W.cell? ⟨B, 0, none⟩ = some (.int .i64 x.k) := by simp [World.cell?, show W.heap[B]? = _ from h]
theorem BoxedT.cell1 {W : World} {B : Nat} {x : TraV} (h : BoxedT W B x) : W.cell? ⟨B, 1, none⟩ = some (.string x.t) := by simp [World.cell?, show W.heap[B]? = _ from h]
theorem BoxedT.new (W : World) (x : TraV) : BoxedT (W.alloc (.cells #[.int .i64 x.k, .string x.t] 40)) W.heap.size x := World.alloc_heap_new W _
theorem BoxedT.kept {W W' : World} {row : Option Nat} {B : Nat} {x : TraV} (h : BoxedT W B x) (hg : W.grownBy W' row) (hr : ∀ r, row = some r → ∃ o : Obj, W.heap[r]? = some o ∧ o.isCells = false) : BoxedT W' B x :=
  (hg.block B h.lt (fun e => by
    obtain ⟨o, ho, hc⟩ := hr B e.symm
    rw [show W.heap[B]? = _ from h] at ho
    cases ho
    cases hc)).trans h

/-- Between two rounds: no stamp so far is at or ahead of the one asked for. -/
def TrI (S G : Nat) (st : Int) (w : World) (pre : List (TraV × Nat)) (W : World) : Prop :=
  ((Boxed W G 3 (.int .i64 st) ∧ Boxed W (G + 1) 9 (.string ⟨#[]⟩)) ∧ (∀ y ∈ pre, ¬ y.1.k ≤ st) ∧ S ≤ W.heap.size) ∧ Below w.heap.size w W
/-- A round has left: the last that came is the one. -/
def TrX (G : Nat) (st : Int) (w : World) (c : Code) (pre : List (TraV × Nat)) (W : World) : Prop :=
  ((∃ (q : List (TraV × Nat)) (x : TraV × Nat), (pre = q ++ [x] ∧ x.1.k ≤ st ∧ ∀ y ∈ q, ¬ y.1.k ≤ st) ∧ Boxed W (G + 1) 9 (.string x.1.t)) ∧ c = .ret) ∧ Below w.heap.size w W
theorem trI_own {S B G : Nat} {st : Int} {w : World} (h : w.heap.size ≤ B) : OwnFrom B (TrI S G st w) :=
  OwnFrom.and (OwnFrom.and (OwnFrom.and (Own.from (boxed_own _ _ _) _) (Own.from (boxed_own _ _ _) _)) (fun _ _ _ _ hs hg _ => ⟨hs.1, Nat.le_trans hs.2 hg.size⟩)) (ownFrom_below (Nat.le_refl _) h)
theorem trX_own {B G : Nat} {st : Int} {w : World} (c : Code) (h : w.heap.size ≤ B) : OwnFrom B (TrX G st w c) :=
  OwnFrom.and (OwnFrom.and (fun pre A C row hs hg hr => by
      obtain ⟨q, x, e, h3⟩ := hs
      exact ⟨q, x, e, (Own.from (boxed_own (β := Unit) (G + 1) 9 (fun _ => .string x.1.t)) B) () A C row h3 hg hr⟩) (fun _ _ _ _ hs _ _ => hs)) (ownFrom_below (Nat.le_refl _) h)
/-- The last that came of a slice, backward, where none ahead of it would do. -/
theorem back_hit {zs : List TraV} {q : List (TraV × Nat)} {x : TraV × Nat} {st : Int} (hp : q ++ [x] <+: bkD zs 0) (hx : x.1.k ≤ st) (hq : ∀ y ∈ q, ¬ y.1.k ≤ st) : traAt zs st = x.1.t := by
  obtain ⟨r, hr⟩ := hp
  have e : zs.reverse = (q.map (·.1)) ++ x.1 :: (r.map (·.1)) := by
    have h1 : (bkD zs 0).map (·.1) = zs.reverse := by
      unfold bkD
      rw [List.drop_zero, List.map_reverse]
      congr 1
      exact List.zipIdx_map_fst 0 zs
    rw [← h1, ← hr]
    simp
  unfold traAt
  rw [e, List.find?_append]
  have h0 : (q.map (·.1)).find? (fun x => decide (x.k ≤ st)) = none := by
    rw [List.find?_eq_none]
    intro y hy
    obtain ⟨z, hz, rfl⟩ := List.mem_map.1 hy
    rw [decide_eq_true_eq]
    exact hq z hz
  rw [h0, Option.none_or, List.find?_cons, decide_eq_true hx]
theorem back_none {zs : List TraV} {st : Int} (hq : ∀ y ∈ bkD zs 0, ¬ y.1.k ≤ st) : traAt zs st = ⟨#[]⟩ := traAt_none fun y hy => by
  obtain ⟨i, hi, e⟩ := List.mem_iff_getElem.1 hy
  refine hq (y, i) ?_
  unfold bkD
  rw [List.drop_zero, List.mem_reverse, List.mem_zipIdx_iff_getElem?]
  rw [← e]; exact List.getElem?_eq_getElem hi

set_option maxRecDepth 100000 in
set_option maxHeartbeats 8000000 in
theorem TraceAt_any (A : Option Addr) (cap : Nat) (zs : List TraV) (st : Int) (w : World) (hz : TrasA w A zs) (hl : zs.length ≤ 1048577) :
    Calls Try.prog 15 #[.slice A zs.length cap, .int .i64 st] w fun e w' => e = .returned (.string (traAt zs st)) ∧ Below w.heap.size w w' := by
  refine (callsIn_wide (n := 6)).1 ?_
  refine callsIn_of_wp_marks Try.func15 rfl trivial ?_ rfl
  simp only [Try.ntmps15, List.size_toArray, List.length_cons, List.length_nil, Nat.reduceAdd, Nat.reduceSub, Array.replicate_succ, Array.replicate_zero, List.push_toArray, List.append_toArray, List.nil_append, List.cons_append]
  have HZ := Lib.hid hz
  clear hz
  gi_wp2
  refine ⟨trivial, ?_⟩
  refine (callsIn_wide.2 (Backward_any A zs.length cap _)).mono ?_
  rintro e w1 ⟨rfl, rfl⟩
  gi_wp2
  have hsz : (((w.alloc (.cells #[.int .i64 st] 3)).alloc (.cells #[.string ⟨#[]⟩] 9)).alloc (.cells #[.slice A zs.length cap] 37)).heap.size = w.heap.size + 3 := by simp
  have b0 : Boxed (((w.alloc (.cells #[.int .i64 st] 3)).alloc (.cells #[.string ⟨#[]⟩] 9)).alloc (.cells #[.slice A zs.length cap] 37)) w.heap.size 3 (.int .i64 st) := ((Boxed.new w 3 (.int .i64 st)).alloc _).alloc _
  have b1 : Boxed (((w.alloc (.cells #[.int .i64 st] 3)).alloc (.cells #[.string ⟨#[]⟩] 9)).alloc (.cells #[.slice A zs.length cap] 37)) (w.heap.size + 1) 9 (.string ⟨#[]⟩) := by
    have := (Boxed.new (w.alloc (.cells #[.int .i64 st] 3)) 9 (.string ⟨#[]⟩)).alloc (.cells #[.slice A zs.length cap] 37)
    rwa [show (w.alloc (.cells #[.int .i64 st] 3)).heap.size = w.heap.size + 1 from by simp] at this
  have c2 : (((w.alloc (.cells #[.int .i64 st] 3)).alloc (.cells #[.string ⟨#[]⟩] 9)).alloc (.cells #[.slice A zs.length cap] 37)).cell? ⟨w.heap.size + 1 + 1, 0, none⟩ = some (.slice A zs.length cap) := by simp [go_sem]
  have hB0 : Below w.heap.size w (((w.alloc (.cells #[.int .i64 st] 3)).alloc (.cells #[.string ⟨#[]⟩] 9)).alloc (.cells #[.slice A zs.length cap] 37)) := (((Below.refl _ _).alloc (Nat.le_refl _) _).alloc (by simp) _).alloc (by simp; omega) _
  have Z0 := Lib.hid (HZ.out.below hB0)
  generalize ((w.alloc (.cells #[.int .i64 st] 3)).alloc (.cells #[.string ⟨#[]⟩] 9)).alloc (.cells #[.slice A zs.length cap] 37) = W0 at *
  have hbl : 0 < zs.length → ∀ b off, A = some ⟨b, off, none⟩ → b < W0.heap.size := fun hne b off e => by
    obtain ⟨b', off', _, e', h', _⟩ := HZ.out.at_ (i := 0) hne
    rw [e] at e'
    injection e' with e'
    injection e' with e'
    omega
  obtain ⟨G, hG⟩ : ∃ G, w.heap.size = G := ⟨_, rfl⟩
  have HG := Lib.hid hG
  rw [hG] at hsz b0 b1 c2 ⊢
  have hGw : w.heap.size ≤ G := Nat.le_of_eq hG
  have hGw1 : w.heap.size ≤ W0.heap.size := hB0.size
  clear hG
  have hszG := hsz
  refine wpIn_rangeFunc_ownH rfl (by omega) (gf := 54) (lb := #[.pointer (some ⟨G + 1 + 1, 0, none⟩)]) rfl trivial (enters_of Try.func54 (by kernel_rfl) rfl)
    (back_stops 5 (by omega) (G + 1 + 1) W0.heap.size cap A zs (by omega) W0 (by omega) (Nat.le_refl _) c2 Z0.out hbl) belowK_t (belowK_b (Nat.le_refl _)) (Below.refl _ _) (fun _ => rfl)
    (TrI W0.heap.size G st w) (TrX G st w) (trI_own hGw1) (fun c => trX_own c hGw1) ⟨⟨⟨b0, b1⟩, fun y hy => (by cases hy), Nat.le_refl _⟩, hB0⟩
    (fun x a' W => ∃ Bx, BoxedT W Bx x.1 ∧ a' = { tmps := #[.slice A zs.length cap, .int .i64 st, undef, .pointer (some ⟨G, 0, none⟩), .pointer (some ⟨G + 1, 0, none⟩), undef, .pointer (some ⟨Bx, 0, none⟩), .slice A zs.length cap, .func (.func 54) #[] #[.pointer (some ⟨G + 1 + 1, 0, none⟩)], .int .i64 x.2, .agg #[.int .i64 x.1.k, .string x.1.t], undef, undef, undef, undef, undef, undef], defers := [] })
    (fun x a' _ X Y row hs hg hr => by obtain ⟨Bx, e2, e3⟩ := hs; exact ⟨Bx, e2.kept hg (fun r e => (hr r e).2), e3⟩)
    ?assign ?body ?done ?stop
  case assign =>
    rintro l pre x W K ⟨⟨⟨h0, h1⟩, hn, hS⟩, hB⟩ hK
    obtain ⟨⟨xk, xt⟩, xi⟩ := x
    have HI := Lib.hid (show TrI W0.heap.size G st w pre (W.alloc (.cells #[.int .i64 xk, .string xt] 40)) from ⟨⟨⟨h0.alloc _, h1.alloc _⟩, hn, Nat.le_trans hS (by simp)⟩, hB.alloc hB.size _⟩)
    have HK := Lib.hid (show Below W0.heap.size W (W.alloc (.cells #[.int .i64 xk, .string xt] 40)) from (Below.refl _ W).alloc hS _)
    simp only [encB]
    gi_wp2
    exact hK _ _ ((KeepsOthers.alloc _ _).from _) HK.out HI.out ⟨W.heap.size, BoxedT.new W ⟨xk, xt⟩, rfl⟩
  case body =>
    rintro l pre x a' W hl1 ⟨r, hr⟩ ⟨⟨⟨h0, h1⟩, hn, hS⟩, hB⟩ ⟨Bx, bX, rfl⟩ hlt
    obtain ⟨⟨xk, xt⟩, xi⟩ := x
    have HN := Lib.hid hn
    have hS2 := Lib.hid hS
    clear hn hS
    have c0 := h0.cell
    have c1 := h1.cell
    have f1 := h1.frozen
    have x0 := bX.cell0
    have x1 := bX.cell1
    by_cases h : xk ≤ st
    · have hd : decide (xk ≤ st) = true := decide_eq_true h
      gi_wp2
      exact ⟨(KeepsOthers.setCell _ _ _).from _, ⟨⟨pre, (⟨xk, xt⟩, xi), ⟨rfl, by show xk ≤ st; omega, fun y hy => by have := HN.out y hy; omega⟩, h1.set _⟩, rfl⟩, hB.setCell (by show w.heap.size ≤ G + 1; omega) _⟩
    · have hd : decide (xk ≤ st) = false := decide_eq_false h
      gi_wp2
      refine ⟨KeepsFrom.refl _ _, Below.refl _ _, ⟨⟨h0, h1⟩, fun y hy => ?_, by have := hS2.out; omega⟩, hB⟩
      rcases List.mem_append.1 hy with hy | hy
      · have := HN.out y hy; omega
      · obtain rfl := List.mem_singleton.1 hy
        show ¬ xk ≤ st
        omega
  case done =>
    rintro D ys W hD rfl ⟨⟨⟨h0, h1⟩, hn, hS⟩, hB⟩ hK
    have HE := Lib.hid (back_none hn)
    clear hn
    have c1 := h1.cell
    have f1 := h1.frozen
    gi_wp2
    have hK2 := (KeepsOthers.setCell W ⟨G + 1, 0, none⟩ (.string ⟨#[]⟩)).same D _ hK rfl
    have hc := cell_kept (h1.set (.string ⟨#[]⟩)).cell (grownBy_putObj' _ D (.deferred none)) (fun r e => by cases e; exact ⟨_, hK2, rfl⟩)
    refine ⟨by simp, .inl ⟨_, _, rfl, run_takeDeferred hK2, ?_⟩⟩
    refine ⟨.string ⟨#[]⟩, by simp [results, Try.results15, go_sem, hc], by rw [HE.out], ?_⟩
    exact (hB.setCell (by show w.heap.size ≤ G + 1; omega) _).trans (belowK_b (w := w) (Nat.le_refl _) _ D _ _ (by omega) hK2 rfl rfl)
  case stop =>
    rintro D c pre W hD hpre ⟨⟨⟨q, x, ⟨rfl, hx, hq⟩, h1⟩, rfl⟩, hB⟩ hK
    have HE := Lib.hid (back_hit hpre hx hq)
    clear hpre hx hq
    gi_wp2
    have hc := cell_kept h1.cell (grownBy_putObj' _ D (.deferred none)) (fun r e => by cases e; exact ⟨_, hK, rfl⟩)
    refine ⟨by simp, .inl ⟨_, _, rfl, run_takeDeferred hK, ?_⟩⟩
    refine ⟨.string x.1.t, by simp [results, Try.results15, go_sem, hc], by rw [HE.out], ?_⟩
    exact hB.trans (belowK_b (w := w) (Nat.le_refl _) _ D _ _ (by omega) hK rfl rfl)
end Go.Proofs.Ytkalanjgjeijbaa
