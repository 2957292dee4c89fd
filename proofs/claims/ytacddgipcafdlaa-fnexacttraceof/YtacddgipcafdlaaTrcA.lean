/-
  Plain: what was known at a stamp. Walks: the library's iterator backward over a slice of traces; what was known at a stamp, both ways.
-/
import Derived.Test.YtacddgipcafdlaaTraE
import Derived.RangeFuncNested
import Derived.RangeFuncBound
import Derived.RangeFuncCalls
import Derived.RangeFuncLeaves
import Derived.Shelf.Abstract
import Derived.Shelf.RegionOpen
import Derived.WalkKit
import Derived.OwnWalkIn
import Derived.TacticsInMore
import Derived.LoopNIn
import Derived.LoopIn
import Derived.RangeFuncBox
namespace Go.Proofs.Ytacddgipcafdlaa
open Go.RowKit Go.Shelf

def traAt (zs : List TraV) (st : Int) : ByteArray := match zs.reverse.find? (fun x => decide (x.k ≤ st)) with | some x => x.t | none => ⟨#[]⟩
theorem traAt_take {zs : List TraV} {k : Nat} {x : TraV} (st : Int) (hx : zs[k]? = some x) : traAt (zs.take (k + 1)) st = if x.k ≤ st then x.t else traAt (zs.take k) st := by
  obtain ⟨hk, rfl⟩ := List.getElem?_eq_some_iff.1 hx
  unfold traAt
  rw [List.take_succ_eq_append_getElem hk, List.reverse_append, List.reverse_singleton, List.singleton_append, List.find?_cons]
  by_cases h : zs[k].k ≤ st
  · rw [decide_eq_true h, if_pos h]
  · rw [decide_eq_false h, if_neg h]
theorem traAt_hit {zs : List TraV} {k : Nat} {x : TraV} {st : Int} (hx : zs[k]? = some x) (hh : x.k ≤ st) (ha : ∀ y ∈ zs.drop (k + 1), ¬ y.k ≤ st) : traAt zs st = x.t := by
  obtain ⟨hk, rfl⟩ := List.getElem?_eq_some_iff.1 hx
  have e : zs.reverse = (zs.drop (k + 1)).reverse ++ (zs.take (k + 1)).reverse := by rw [← List.reverse_append, List.take_append_drop]
  unfold traAt
  rw [e, List.find?_append]
  have h0 : (zs.drop (k + 1)).reverse.find? (fun x => decide (x.k ≤ st)) = none := by
    rw [List.find?_eq_none]
    intro y hy
    rw [decide_eq_true_eq]
    exact ha y (List.mem_reverse.1 hy)
  rw [h0, Option.none_or, List.take_succ_eq_append_getElem hk, List.reverse_append, List.reverse_singleton, List.singleton_append, List.find?_cons, decide_eq_true hh]
theorem traAt_none {zs : List TraV} {st : Int} (ha : ∀ y ∈ zs, ¬ y.k ≤ st) : traAt zs st = ⟨#[]⟩ := by
  unfold traAt
  have h0 : zs.reverse.find? (fun x => decide (x.k ≤ st)) = none := by
    rw [List.find?_eq_none]
    intro y hy
    rw [decide_eq_true_eq]
    exact ha y (List.mem_reverse.1 hy)
  rw [h0]

/-- what the iterator hands on: a place, and what lies there -/
def encB (p : TraV × Nat) : Array Value := #[.int .i64 p.2, .agg #[.int .i64 p.1.k, .string p.1.t]]
/-- what comes from the place k on, backward -/
def bkD (zs : List TraV) (k : Nat) : List (TraV × Nat) := (zs.zipIdx.drop k).reverse
theorem bkD_end (zs : List TraV) : bkD zs zs.length = [] := by unfold bkD; rw [List.drop_eq_nil_of_le (by simp)]; rfl
theorem bkD_len (zs : List TraV) (k : Nat) : (bkD zs k).length = zs.length - k := by simp [bkD]
theorem bkD_step {zs : List TraV} {k : Nat} {x : TraV} (hx : zs[k]? = some x) : bkD zs k = bkD zs (k + 1) ++ [(x, k)] := by
  obtain ⟨hk, rfl⟩ := List.getElem?_eq_some_iff.1 hx
  unfold bkD
  rw [List.drop_eq_getElem_cons (by simpa using hk), List.reverse_cons]
  simp
theorem bkD_pre (zs : List TraV) (k : Nat) : bkD zs k <+: bkD zs 0 := by
  refine ⟨(zs.zipIdx.take k).reverse, ?_⟩
  unfold bkD
  rw [← List.reverse_append, List.take_append_drop, List.drop_zero]

set_option maxRecDepth 100000 in
set_option maxHeartbeats 2000000 in
theorem back1_in (F : Fence) (n : Nat) (h7 : F.fn 152) (hro : F.round = none) (hn : 1 ≤ n) (l Bs n₀ cap : Nat) (A : Option Addr) (zs : List TraV) (hl : zs.length ≤ 4194304) (J Jx : List (TraV × Nat) → World → Prop)
    (hY : ∀ pre x W, J pre W → pre.length < zs.length → YieldAt F (n - 1) Try.prog l (encB x) W fun e W' =>
      (e = .returned (.bool true) ∧ J (pre ++ [x]) W' ∧ Below n₀ W W') ∨ (e = .returned (.bool false) ∧ Jx (pre ++ [x]) W'))
    (W : World) (hBs : W.cell? ⟨Bs, 0, none⟩ = some (.slice A zs.length cap)) (hBn : Bs < n₀) (hz : TrasA W A zs) (hb : 0 < zs.length → ∀ b off, A = some ⟨b, off, none⟩ → b < n₀) (h0 : J [] W) :
    CallsIn F n Try.prog 152 #[.func (.yield l) #[] #[], .pointer (some ⟨Bs, 0, none⟩)] W fun e W' => (∃ v, e = .returned v) ∧
      ((∃ ys, ys = bkD zs 0 ∧ J ys W') ∨ (∃ pre, pre <+: bkD zs 0 ∧ Jx pre W')) := by
  refine callsIn_of_wp Try.func152 rfl h7 ?_ hro
  simp only [Try.ntmps152, List.size_toArray, List.length_cons, List.length_nil, Nat.reduceAdd, Nat.reduceSub, Array.replicate_succ, Array.replicate_zero, List.push_toArray, List.append_toArray, List.nil_append, List.cons_append]
  gi_wp2
  gi_loopw [3] (fun i wr => ∃ (k : Nat) (j : Int), k ≤ zs.length ∧ i = .int .i64 j ∧ j + 1 = k ∧ J (bkD zs k) wr ∧ Below n₀ W wr)
    (fun i _ => (intOf i + 1).toNat)
  case atStart => exact ⟨zs.length, (zs.length : Int) - 1, Nat.le_refl _, by go_num, by omega, by rw [bkD_end]; exact h0, Below.refl _ _⟩
  case round =>
    obtain ⟨k, j, hk, rfl, hj, hJs, hnx⟩ := hrel
    have cB : wr.cell? ⟨Bs, 0, none⟩ = some (.slice A zs.length cap) := cell_below hnx hBn hBs
    cases k with
    | zero =>
      obtain rfl : j = -1 := by omega
      have HJ := Lib.hid hJs
      clear hJs
      gi_wp2
      go_end0
      exact ⟨⟨_, rfl⟩, .inl ⟨_, rfl, HJ.out⟩⟩
    | succ k =>
      obtain rfl : j = (k : Int) := by omega
      obtain ⟨b, off, x, rfl, hbl, hx, c0, c1⟩ := hz.at_ (i := k) (by omega)
      have hbn := hb (by omega) b off rfl
      have c0r : wr.cell? ⟨b, off + k * 2, none⟩ = some (.int .i64 x.k) := cell_below hnx hbn c0
      have c1r : wr.cell? ⟨b, off + k * 2 + 1, none⟩ = some (.string x.t) := cell_below hnx hbn c1
      have Ht := Lib.hid (bkD_step hx)
      have hkz : (k : Int) < (zs.length : Int) := by omega
      have hkz0 : (0 : Int) ≤ (k : Int) := by omega
      obtain ⟨fn, tmps, assign, body, hy, hR⟩ := hY (bkD zs (k + 1)) (x, k) wr hJs (by rw [bkD_len]; omega)
      have HJ := Lib.hid hJs
      clear c0 c1 hJs hx
      simp only [encB] at hy hR
      gi_wp2
      refine hR.mono ?_
      rintro e W3 (⟨rfl, hJ3, hk3⟩ | ⟨rfl, hJx3⟩)
      · have hB3 : Below n₀ W W3 := hnx.trans hk3
        have HJ3 := Lib.hid hJ3
        clear hJ3 hR hy
        gi_wp2
        go_roundw
        case rel => exact ⟨k, (k : Int) - 1, by omega, by go_num, by omega, by rw [Ht.out]; exact HJ3.out, hB3⟩
        case measure => simp [intOf]
      · have HJ3 := Lib.hid hJx3
        clear hJx3 hR hy
        gi_wp2
        refine bodyPost_ret (results_none rfl _ _ _) rfl ?_
        exact ⟨⟨_, rfl⟩, .inr ⟨bkD zs (k + 1) ++ [(x, k)], by rw [← Ht.out]; exact bkD_pre _ _, HJ3.out⟩⟩

set_option maxHeartbeats 1000000 in
theorem Backward_any (A : Option Addr) (len cap : Nat) (w : World) :
    Calls Try.prog 142 #[.slice A len cap] w fun e w' => e = .returned (.func (.func 152) #[] #[.pointer (some ⟨w.heap.size, 0, none⟩)]) ∧ w' = w.alloc (.cells #[.slice A len cap] 49) := by
  go_enter Try.func142, Try.ntmps142
  go_wp2
  go_ret
  exact ⟨rfl, rfl⟩
theorem back_stops (n : Nat) (hn : 1 ≤ n) (Bs n₀ cap : Nat) (A : Option Addr) (zs : List TraV) (hl : zs.length ≤ 4194304) (w : World) (hBs : Bs < n₀) (hn₀ : n₀ ≤ w.heap.size)
    (hc : w.cell? ⟨Bs, 0, none⟩ = some (.slice A zs.length cap)) (hz : TrasA w A zs) (hb : 0 < zs.length → ∀ b off, A = some ⟨b, off, none⟩ → b < n₀) :
    SeqStopsK Fence.wide n Try.prog 152 #[.pointer (some ⟨Bs, 0, none⟩)] encB (Below n₀) (fun ys => ys = bkD zs 0) (fun pre => pre <+: bkD zs 0) zs.length w := fun l J Jx W hW _ _ hY h0 =>
  back1_in Fence.wide n trivial rfl hn l Bs n₀ cap A zs hl J Jx hY W ((hW.cell (p := ⟨Bs, 0, none⟩) (by show Bs < _; omega)).trans hc) hBs (hz.below hW) hb h0
end Go.Proofs.Ytacddgipcafdlaa
