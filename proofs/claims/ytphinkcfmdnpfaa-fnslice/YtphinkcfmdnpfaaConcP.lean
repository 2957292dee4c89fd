/-
  Walks: slices.Concat of two slices of Pair.
-/
import Derived.Test.YtphinkcfmdnpfaaRowD
import Derived.Laws.AppendOwnNone
import Derived.OwnWalk
import Derived.Deep.RegionHeld3
import Derived.Maps.AppendAt
import Derived.Test.YtphinkcfmdnpfaaRelAtS
import Derived.Test.YtphinkcfmdnpfaaShelfG
namespace Go.Proofs.Ytphinkcfmdnpfaa
open Go.RowKit

section
variable {α : Type} {enc : α → List Value} {sz : Nat}
/-- A slice whose cells can be read. -/
def SrcE (enc : α → List Value) (w : World) (u : Value) (ms : List α) : Prop := (u = .slice none 0 0 ∧ ms = []) ∨ ∃ ad c, u = .slice (some ad) ms.length c ∧ ∀ j x, (flatOf enc ms)[j]? = some x → w.cell? (ad.add j) = some x
theorem addr_addE (b off j : Nat) : (⟨b, off, none⟩ : Addr).add j = ⟨b, off + j, none⟩ := by
  cases j with
  | zero => simp [Addr.add]
  | succ j => simp [Addr.add]
theorem srcE_of (hk : ∀ x, (enc x).length = sz) (h0 : 0 < sz) {w : World} {A : Option Addr} {zs : List α} {cap : Nat} (h : ElAt enc sz w A zs) (hA : A = none → cap = 0) : SrcE enc w (.slice A zs.length cap) zs := by
  cases zs with
  | nil =>
    cases A with
    | none => rw [hA rfl]; exact .inl ⟨rfl, rfl⟩
    | some a => exact .inr ⟨a, cap, rfl, fun j x hx => by simp [flatOf] at hx⟩
  | cons z zs =>
    obtain ⟨b, off, rfl, hb, hc⟩ := h (by simp)
    refine .inr ⟨⟨b, off, none⟩, cap, rfl, fun j x hx => ?_⟩
    have hj : j < (flatOf enc (z :: zs)).length := (List.getElem?_eq_some_iff.1 hx).1
    rw [flatOf_length hk] at hj
    have hi : j / sz < (z :: zs).length := Nat.div_lt_of_lt_mul (by rw [Nat.mul_comm]; exact hj)
    have hm : j % sz < sz := Nat.mod_lt _ h0
    have hd : j / sz * sz + j % sz = j := Nat.div_add_mod' j sz
    have hy : (z :: zs)[j / sz]? = some (z :: zs)[j / sz] := List.getElem?_eq_getElem hi
    have h1 := flatOf_get hk (z :: zs) (j / sz) _ (j % sz) hy hm
    rw [hd, hx] at h1
    have := hc (j / sz) _ hy (j % sz) x h1.symm
    rw [addr_addE]
    rwa [Nat.add_assoc, hd] at this
theorem wpList_append_srcE (hk : ∀ x, (enc x).length = sz) (h1 : ∀ x, ∀ v ∈ enc x, v.oneCell' = true) (h0 : 0 < sz) {P : Program} (w : World) {ops : Array Oper} {rest : List Oper} {o : Oper} {a : Act} {Q : Exit → Act → World → Prop} (hgd : o.guard = none) (s x : Operand) (t : TypeId)
    (ho : o.op = .call { callee := .builtin .append, args := #[s, x], argTypes := #[t, t] }) (base : Nat) (e : TypeId) (i : TypeInfo) (z : Value) (bytes : Nat)
    (ht : P.underlying t = some (.slice e)) (hi : P.info? e = some i) (hz : i.zero = some z) (hsize : i.size = sz) (hby : i.bytes = bytes) (hzs : z.cells.size = sz)
    (v : Value) (n : Nat) (zs : List α) (hs : a.eval s = v) (hown : w.ownsRow base e sz v n (flatOf enc zs)) (u : Value) (ms : List α) (hx : a.eval x = u) (hu : SrcE enc w u ms)
    (h63 : n + ms.length ≤ maxLen) (hbytes : (n + ms.length) * bytes ≤ 140737488355328) (hbase : base ≤ w.heap.size)
    (h : ∀ v' w', w'.ownsRow base e sz v' (n + ms.length) (flatOf enc (zs ++ ms)) → w.grownBy w' v.ownBlock → wpList P ops Q rest (a.put o.dst v') w') : wpList P ops Q (o :: rest) a w := by
  rcases hu with ⟨rfl, rfl⟩ | ⟨ad, c, rfl, hc⟩
  · exact wpList_append_own_none hgd s x t ho base e i sz ht hi v n _ hs hown hx (h v w (by simpa using hown) ⟨rfl, rfl, rfl, Nat.le_refl _, fun _ _ _ => rfl⟩)
  · exact wpList_append_own _ hgd s x t ho base e i z sz bytes ht hi hz hsize hby hzs h0 v n _ hs hown ad ms.length c (flatOf enc ms) hx (flatOf_length hk ms) hc (flatOf_cells h1 ms) h63 hbytes hbase (fun v' w' h1 h2 _ => h v' w' (by rw [flatOf_append]; exact h1) h2)
theorem step_append_srcE (hk : ∀ x, (enc x).length = sz) (h1 : ∀ x, ∀ v ∈ enc x, v.oneCell' = true) (h0 : 0 < sz) {P : Program} (w : World) {ops : Array Oper} {o : Oper} {a : Act} {K : Act → World → Prop} {Q : Exit → Act → World → Prop} {E : Prop} (hgd : o.guard = none) (s x : Operand) (t : TypeId)
    (ho : o.op = .call { callee := .builtin .append, args := #[s, x], argTypes := #[t, t] }) (base : Nat) (e : TypeId) (i : TypeInfo) (z : Value) (bytes : Nat)
    (ht : P.underlying t = some (.slice e)) (hi : P.info? e = some i) (hz : i.zero = some z) (hsize : i.size = sz) (hby : i.bytes = bytes) (hzs : z.cells.size = sz)
    (v : Value) (n : Nat) (zs : List α) (hs : a.eval s = v) (hown : w.ownsRow base e sz v n (flatOf enc zs)) (u : Value) (ms : List α) (hx : a.eval x = u) (hu : SrcE enc w u ms)
    (h63 : n + ms.length ≤ maxLen) (hbytes : (n + ms.length) * bytes ≤ 140737488355328) (hbase : base ≤ w.heap.size)
    (h : ∀ v' w', w'.ownsRow base e sz v' (n + ms.length) (flatOf enc (zs ++ ms)) → w.grownBy w' v.ownBlock → K (a.put o.dst v') w') :
    if Region.wanted o (yielded ops a.tmps) = true then Oper.wp P o a w K Q else E := by
  rw [if_pos (by simp [Region.wanted, hgd])]
  rcases hu with ⟨rfl, rfl⟩ | ⟨ad, c, rfl, hc⟩
  · have hrun := run_append_owned_none (P := P) (w := w) base t o.type e i sz ht hi v n _ hown
    unfold Oper.wp execOp
    simp only [ho, resolve, invoke, builtin, Sem.run_bind, Sem.run_pure, Result.andThen_ok, List.map_toArray, List.map_cons, List.map_nil, hs, hx, hrun]
    exact h v w (by simpa using hown) ⟨rfl, rfl, rfl, Nat.le_refl _, fun _ _ _ => rfl⟩
  · obtain ⟨v', w', hrun, h2, h3, h4, _⟩ := run_append_own_at (P := P) w base t o.type e i z sz bytes ht hi hz hsize hby hzs h0 v n _ hown ad ms.length c (flatOf enc ms) (flatOf_length hk ms) hc (flatOf_cells h1 ms) h63 hbytes hbase
    unfold Oper.wp execOp
    simp only [ho, resolve, invoke, builtin, Sem.run_bind, Sem.run_pure, Result.andThen_ok, List.map_toArray, List.map_cons, List.map_nil, hs, hx, hrun]
    exact h v' w' (by rw [flatOf_append]; exact h2) h3
theorem owns_zeroE {w : World} {base g cap : Nat} {e : TypeId} {cs : Array Value} {fr : Nat × Nat} (hg : w.heap[g]? = some (.cells cs e fr)) (hfr : fr = (0, 0)) (hb : base ≤ g) (hc : cap ≤ maxLen) (hs : cs.size = cap * sz) : w.ownsRow base e sz (.slice (some ⟨g, 0, none⟩) 0 cap) 0 [] := by
  subst hfr
  exact ⟨by simp, .inr ⟨g, cap, cs, rfl, hb, hg, Nat.zero_le _, hc, hs, by simp⟩⟩
theorem owns_nilE {w : World} {base n k cap : Nat} {A : Option Addr} {t : TypeId} {xs : List Value} (h : w.ownsRow base t k (.slice A n cap) n xs) (hA : A = none) : cap = 0 := by
  subst hA
  rcases h.2 with ⟨e0, _⟩ | ⟨g, c, cur, e0, _⟩
  · injection e0
  · cases e0
/-- What has been put together of two lists. -/
def catE (xs ys : List α) (k : Nat) : List α := if k = 0 then [] else if k = 1 then xs else xs ++ ys
def lenE (m n k : Nat) : Nat := if k = 0 then 0 else if k = 1 then m else m + n
end
end Go.Proofs.Ytphinkcfmdnpfaa
namespace Go.Proofs.Ytphinkcfmdnpfaa
open Go.RowKit

theorem Try.infoC70 : (Try.prog.info? 70).map (fun i => (i.zero, i.size, i.bytes)) = some (some (.agg #[.string ⟨#[]⟩, .string ⟨#[]⟩, .int .i64 0, .int .i64 0]), 4, 48) := by kernel_rfl

set_option maxHeartbeats 1000000 in
theorem growR_any (n : Nat) (w : World) (h2 : n ≤ 2097156) :
    Calls Try.prog 148 #[.slice none 0 0, .int .i64 n] w fun e w' => ∃ v, e = .returned v ∧ w'.ownsRow w.heap.size 70 4 v 0 [] ∧ Below w.heap.size w w' := by
  obtain ⟨i0, hi, hz0, hz1, hz2⟩ := info_parts Try.infoC70
  by_cases h1 : 1 ≤ n
  · refine (Any8.slices_Grow_grow Try.growR i0 _ hi hz0 (by rw [hz1]; omega) none 0 0 n [] w (Nat.le_refl _) (by omega) (by rw [hz2]; omega) (by omega) (by simp) (fun _ => rfl) (fun a e => by cases e)).mono ?_
    rintro e w' ⟨rfl, rfl⟩
    have hge := grownCap_ge w (0 + n) 0 70
    have hle := grownCap_le_maxLen w (0 + n) 0 70 (by unfold maxLen; omega)
    refine ⟨_, rfl, ?_, ((Below.refl w.heap.size w).drew).alloc (Nat.le_refl _) _⟩
    refine owns_zeroE (sz := 4) (heap_alloc_new w.drew _) rfl (Nat.le_refl _) hle ?_
    have hzc : (Value.agg #[.string ⟨#[]⟩, .string ⟨#[]⟩, .int .i64 0, .int .i64 0]).cells.size = 4 := rfl
    simp only [Array.size_append, size_zeroCells, hzc, List.size_toArray, List.length_nil]
    change 0 + (0 + n - 0) * 4 + (grownCap w (0 + n) 0 70 - (0 + n)) * 4 = grownCap w (0 + n) 0 70 * 4
    omega
  · obtain rfl : n = 0 := by omega
    refine (Any8.slices_Grow_room Try.growR none 0 0 0 w (Nat.le_refl _) (by omega) (by omega) (by omega)).mono ?_
    rintro e w' ⟨rfl, rfl⟩
    exact ⟨_, rfl, World.ownsRow_nil _ _ _ _, Below.refl _ _⟩

set_option maxRecDepth 100000 in
set_option maxHeartbeats 4000000 in
theorem concatRow_any (q cq : Nat) (A B : Option Addr) (ca cb : Nat) (xs ys : List RowV) (w : World) (c0 : w.cell? ⟨q, 0, none⟩ = some (.slice A xs.length ca)) (c1 : w.cell? ⟨q, 1, none⟩ = some (.slice B ys.length cb))
    (hx : RowsA w A xs) (hy : RowsA w B ys) (hA : A = none → ca = 0) (hB : B = none → cb = 0) (hlx : xs.length ≤ 1048577) (hly : ys.length ≤ 1048577) :
    Calls Try.prog 115 #[.slice (some ⟨q, 0, none⟩) 2 cq] w (GetsE rowC 4 70 w (xs ++ ys)) := by
  obtain ⟨i0, hi, hz0, hz1, hz2⟩ := info_parts Try.infoC70
  have Hi := Lib.hid hi
  have Hz0 := Lib.hid hz0
  have Hz1 := Lib.hid hz1
  have Hz2 := Lib.hid hz2
  have HX := Lib.hid hx
  have HY := Lib.hid hy
  have HA := Lib.hid hA
  have HB := Lib.hid hB
  have lq : q < w.heap.size := World.block_lt_of_cell? _ _ c0
  clear hi hz0 hz1 hz2 hx hy hA hB
  go_enter Try.func115, Try.ntmps115
  go_wp2
  go_loopw [3, 11] (fun s i wr => ∃ k : Nat, k ≤ 2 ∧ i = .int .i64 k ∧ s = .int .i64 (lenE xs.length ys.length k) ∧ w = wr) (fun _ i _ => 2 - (intOf i).toNat)
  case atStart => exact ⟨0, by omega, rfl, rfl, rfl⟩
  case round =>
    obtain ⟨k, hk, rfl, rfl, rfl⟩ := hrel
    obtain rfl | rfl | rfl : k = 0 ∨ k = 1 ∨ k = 2 := by omega
    · have e1 : ((lenE xs.length ys.length 0 : Nat) : Int) = 0 := rfl
      rw [e1]
      go_wp2
      go_roundw
      case rel => exact ⟨1, by omega, by go_num, by simp [lenE], by first | rfl | trivial⟩
      case measure => simp [intOf]
    · have e1 : lenE xs.length ys.length 1 = xs.length := rfl
      rw [e1]
      go_wp2
      go_roundw
      case rel => exact ⟨2, by omega, by go_num, by simp [lenE], by first | rfl | trivial⟩
      case measure => simp [intOf]
    · have e1 : lenE xs.length ys.length 2 = xs.length + ys.length := rfl
      rw [e1]
      go_wp2_with fail
      refine (growR_any (xs.length + ys.length) _ (by omega)).mono ?_
      rintro e w1 ⟨v1, rfl, ho1, hb1⟩
      have O1 := Lib.hid ho1
      have B1 := Lib.hid hb1
      clear ho1 hb1
      go_wp2
      go_loopw [6, 27] (fun v i wr => ∃ k : Nat, k ≤ 2 ∧ i = .int .i64 k ∧ wr.ownsRow w.heap.size 70 4 v (catE xs ys k).length (flatOf rowC (catE xs ys k)) ∧ Below w.heap.size w wr) (fun _ i _ => 2 - (intOf i).toNat)
      case atStart => exact ⟨0, by omega, rfl, O1.out, B1.out⟩
      case round =>
        obtain ⟨k, hk, rfl, hown, hbr⟩ := hrel
        have Hown := Lib.hid hown
        have hs5 := hbr.size
        have d0 := cell_below hbr lq c0
        have d1 := cell_below hbr lq c1
        have SX := Lib.hid (srcE_of rowC_len (by omega) (HX.out.below hbr) HA.out)
        have SY := Lib.hid (srcE_of rowC_len (by omega) (HY.out.below hbr) HB.out)
        clear hown
        obtain rfl | rfl | rfl : k = 0 ∨ k = 1 ∨ k = 2 := by omega
        · have Hown' := Lib.hid (show wr.ownsRow w.heap.size 70 4 u6 0 (flatOf rowC []) from Hown.out)
          go_wp2_with (at_builtin; refine wpList_append_srcE rowC_len rowC_one (by omega) _ rfl _ _ 23 rfl w.heap.size 70 i0 _ 48 Try.underlying23 Hi.out Hz0.out Hz1.out Hz2.out rfl _ 0 [] rfl Hown'.out _ xs rfl SX.out (by unfold maxLen; omega) (by omega) hs5 ?_; rw [List.nil_append, Nat.zero_add]; intro v9 w9 ho9 hg9; have O9 := Lib.hid ho9; have B9 := Lib.hid (hbr.grown hg9 hs5 (fun i e => (Hown'.out.lt i e).1)); clear ho9 hg9)
          refine ⟨⟨1, by omega, by simp, O9.out, B9.out⟩, ?_⟩
          simp [intOf]
        · have Hown' := Lib.hid (show wr.ownsRow w.heap.size 70 4 u6 xs.length (flatOf rowC xs) from Hown.out)
          go_wp2_with (at_builtin; refine wpList_append_srcE rowC_len rowC_one (by omega) _ rfl _ _ 23 rfl w.heap.size 70 i0 _ 48 Try.underlying23 Hi.out Hz0.out Hz1.out Hz2.out rfl _ xs.length xs rfl Hown'.out _ ys rfl SY.out (by unfold maxLen; omega) (by omega) hs5 ?_; intro v9 w9 ho9 hg9; have O9 := Lib.hid (show w9.ownsRow w.heap.size 70 4 v9 (xs ++ ys).length (flatOf rowC (xs ++ ys)) from by rw [List.length_append]; exact ho9); have B9 := Lib.hid (hbr.grown hg9 hs5 (fun i e => (Hown'.out.lt i e).1)); clear ho9 hg9)
          refine ⟨⟨2, by omega, by simp, O9.out, B9.out⟩, ?_⟩
          simp [intOf]
        · have Hown' := Lib.hid (show wr.ownsRow w.heap.size 70 4 u6 (xs ++ ys).length (flatOf rowC (xs ++ ys)) from Hown.out)
          obtain ⟨A', c', hv⟩ := owns_sliceE Hown'.out
          subst hv
          go_wp2
          go_ret
          exact ⟨A', c', rfl, Hown'.out, hbr⟩
end Go.Proofs.Ytphinkcfmdnpfaa
namespace Go.Proofs.Ytphinkcfmdnpfaa
open Go.RowKit

theorem Try.infoC44 : (Try.prog.info? 44).map (fun i => (i.zero, i.size, i.bytes)) = some (some (.agg #[.string ⟨#[]⟩, .string ⟨#[]⟩]), 2, 32) := by kernel_rfl

end Go.Proofs.Ytphinkcfmdnpfaa
