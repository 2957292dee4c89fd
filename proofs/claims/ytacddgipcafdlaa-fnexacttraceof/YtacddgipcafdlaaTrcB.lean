/-
  Walks: what was known at a stamp: the program's.
-/
import Derived.Test.YtacddgipcafdlaaTrcA
namespace Go.Proofs.Ytacddgipcafdlaa
open Go.RowKit Go.Shelf

attribute [local go_sem] Oper.semAt_some

/-- A block that holds a trace. -/
def BoxedT (W : World) (B : Nat) (x : TraV) : Prop := W.heap[B]? = some (.cells #[.int .i64 x.k, .string x.t] 98 (0, 0))
theorem BoxedT.lt {W : World} {B : Nat} {x : TraV} (h : BoxedT W B x) : B < W.heap.size := (Array.getElem?_eq_some_iff.1 h).1
theorem BoxedT.cell0 {W : World} {B : Nat} {x : TraV} (h : BoxedT W B x) : W.cell? ⟨B, 0, none⟩ = some (.int .i64 x.k) := by simp [World.cell?, show W.heap[B]? = _ from h]
theorem BoxedT.cell1 {W : World} {B : Nat} {x : TraV} (h : BoxedT W B x) : W.cell? ⟨B, 1, none⟩ = some (.string x.t) := by simp [World.cell?, show W.heap[B]? = _ from h]
theorem BoxedT.new (W : World) (x : TraV) : BoxedT (W.alloc (.cells #[.int .i64 x.k, .string x.t] 98)) W.heap.size x := World.alloc_heap_new W _
theorem BoxedT.kept {W W' : World} {row : Option Nat} {B : Nat} {x : TraV} (h : BoxedT W B x) (hg : W.grownBy W' row) (hr : ∀ r, row = some r → ∃ o : Obj, W.heap[r]? = some o ∧ o.isCells = false) : BoxedT W' B x :=
  (hg.block B h.lt (fun e => by
    obtain ⟨o, ho, hc⟩ := hr B e.symm
    rw [show W.heap[B]? = _ from h] at ho
    cases ho
    cases hc)).trans h

/-- Between two rounds: no stamp so far is at or ahead of the one asked for. -/
def TrI (S G : Nat) (st : Int) (w : World) (pre : List (TraV × Nat)) (W : World) : Prop :=
  ((Boxed W G 3 (.int .i64 st) ∧ Boxed W (G + 1) 9 (.string ⟨#[]⟩)) ∧ (∀ y ∈ pre, ¬ y.1.k ≤ st) ∧ S ≤ W.heap.size) ∧ Below w.heap.size w W
/-- A round has left: the last that came is the one. -/
def TrX (G : Nat) (st : Int) (w : World) (c : Code) (pre : List (TraV × Nat)) (W : World) : Prop :=
  ((∃ (q : List (TraV × Nat)) (x : TraV × Nat), (pre = q ++ [x] ∧ x.1.k ≤ st ∧ ∀ y ∈ q, ¬ y.1.k ≤ st) ∧ Boxed W (G + 1) 9 (.string x.1.t)) ∧ c = .ret) ∧ Below w.heap.size w W
theorem trI_own {S B G : Nat} {st : Int} {w : World} (h : w.heap.size ≤ B) : OwnFrom B (TrI S G st w) :=
  OwnFrom.and (OwnFrom.and (OwnFrom.and (Own.from (boxed_own _ _ _) _) (Own.from (boxed_own _ _ _) _)) (fun _ _ _ _ hs hg _ => ⟨hs.1, Nat.le_trans hs.2 hg.size⟩)) (ownFrom_below (Nat.le_refl _) h)
theorem trX_own {B G : Nat} {st : Int} {w : World} (c : Code) (h : w.heap.size ≤ B) : OwnFrom B (TrX G st w c) :=
  OwnFrom.and (OwnFrom.and (fun pre A C row hs hg hr => by
      obtain ⟨q, x, e, h3⟩ := hs
      exact ⟨q, x, e, (Own.from (boxed_own (β := Unit) (G + 1) 9 (fun _ => .string x.1.t)) B) () A C row h3 hg hr⟩) (fun _ _ _ _ hs _ _ => hs)) (ownFrom_below (Nat.le_refl _) h)
/-- The last that came of a slice, backward, where none ahead of it would do. -/
theorem back_hit {zs : List TraV} {q : List (TraV × Nat)} {x : TraV × Nat} {st : Int} (hp : q ++ [x] <+: bkD zs 0) (hx : x.1.k ≤ st) (hq : ∀ y ∈ q, ¬ y.1.k ≤ st) : traAt zs st = x.1.t := by
  obtain ⟨r, hr⟩ := hp
  have e : zs.reverse = (q.map (·.1)) ++ x.1 :: (r.map (·.1)) := by
    have h1 : (bkD zs 0).map (·.1) = zs.reverse := by
      unfold bkD
      rw [List.drop_zero, List.map_reverse]
      congr 1
      exact List.zipIdx_map_fst 0 zs
    rw [← h1, ← hr]
    simp
  unfold traAt
  rw [e, List.find?_append]
  have h0 : (q.map (·.1)).find? (fun x => decide (x.k ≤ st)) = none := by
    rw [List.find?_eq_none]
    intro y hy
    obtain ⟨z, hz, rfl⟩ := List.mem_map.1 hy
    rw [decide_eq_true_eq]
    exact hq z hz
  rw [h0, Option.none_or, List.find?_cons, decide_eq_true hx]
theorem back_none {zs : List TraV} {st : Int} (hq : ∀ y ∈ bkD zs 0, ¬ y.1.k ≤ st) : traAt zs st = ⟨#[]⟩ := traAt_none fun y hy => by
  obtain ⟨i, hi, e⟩ := List.mem_iff_getElem.1 hy
  refine hq (y, i) ?_
  unfold bkD
  rw [List.drop_zero, List.mem_reverse, List.mem_zipIdx_iff_getElem?]
  rw [← e]; exact List.getElem?_eq_getElem hi

set_option maxRecDepth 100000 in
set_option maxHeartbeats 8000000 in
theorem TraceAt_any (A : Option Addr) (cap : Nat) (zs : List TraV) (st : Int) (w : World) (hz : TrasA w A zs) (hl : zs.length ≤ 1048577) :
    Calls Try.prog 116 #[.slice A zs.length cap, .int .i64 st] w fun e w' => e = .returned (.string (traAt zs st)) ∧ Below w.heap.size w w' := by
  refine (callsIn_wide (n := 6)).1 ?_
  refine callsIn_of_wp_marks Try.func116 rfl trivial ?_ rfl
  simp only [Try.ntmps116, List.size_toArray, List.length_cons, List.length_nil, Nat.reduceAdd, Nat.reduceSub, Array.replicate_succ, Array.replicate_zero, List.push_toArray, List.append_toArray, List.nil_append, List.cons_append]
  have HZ := Lib.hid hz
  clear hz
  gi_wp2
  refine ⟨trivial, ?_⟩
  refine (callsIn_wide.2 (Backward_any A zs.length cap _)).mono ?_
  rintro e w1 ⟨rfl, rfl⟩
  gi_wp2
  have hsz : (((w.alloc (.cells #[.int .i64 st] 3)).alloc (.cells #[.string ⟨#[]⟩] 9)).alloc (.cells #[.slice A zs.length cap] 49)).heap.size = w.heap.size + 3 := by simp
  have b0 : Boxed (((w.alloc (.cells #[.int .i64 st] 3)).alloc (.cells #[.string ⟨#[]⟩] 9)).alloc (.cells #[.slice A zs.length cap] 49)) w.heap.size 3 (.int .i64 st) := ((Boxed.new w 3 (.int .i64 st)).alloc _).alloc _
  have b1 : Boxed (((w.alloc (.cells #[.int .i64 st] 3)).alloc (.cells #[.string ⟨#[]⟩] 9)).alloc (.cells #[.slice A zs.length cap] 49)) (w.heap.size + 1) 9 (.string ⟨#[]⟩) := by
    have := (Boxed.new (w.alloc (.cells #[.int .i64 st] 3)) 9 (.string ⟨#[]⟩)).alloc (.cells #[.slice A zs.length cap] 49)
    rwa [show (w.alloc (.cells #[.int .i64 st] 3)).heap.size = w.heap.size + 1 from by simp] at this
  have c2 : (((w.alloc (.cells #[.int .i64 st] 3)).alloc (.cells #[.string ⟨#[]⟩] 9)).alloc (.cells #[.slice A zs.length cap] 49)).cell? ⟨w.heap.size + 1 + 1, 0, none⟩ = some (.slice A zs.length cap) := by simp [go_sem]
  have hB0 : Below w.heap.size w (((w.alloc (.cells #[.int .i64 st] 3)).alloc (.cells #[.string ⟨#[]⟩] 9)).alloc (.cells #[.slice A zs.length cap] 49)) := (((Below.refl _ _).alloc (Nat.le_refl _) _).alloc (by simp) _).alloc (by simp; omega) _
  have Z0 := Lib.hid (HZ.out.below hB0)
  generalize ((w.alloc (.cells #[.int .i64 st] 3)).alloc (.cells #[.string ⟨#[]⟩] 9)).alloc (.cells #[.slice A zs.length cap] 49) = W0 at *
  have hbl : 0 < zs.length → ∀ b off, A = some ⟨b, off, none⟩ → b < W0.heap.size := fun hne b off e => by
    obtain ⟨b', off', _, e', h', _⟩ := HZ.out.at_ (i := 0) hne
    rw [e] at e'
    injection e' with e'
    injection e' with e'
    omega
  obtain ⟨G, hG⟩ : ∃ G, w.heap.size = G := ⟨_, rfl⟩
  have HG := Lib.hid hG
  rw [hG] at hsz b0 b1 c2 ⊢
  have hGw : w.heap.size ≤ G := Nat.le_of_eq hG
  have hGw1 : w.heap.size ≤ W0.heap.size := hB0.size
  clear hG
  have hszG := hsz
  refine wpIn_rangeFunc_ownH rfl (by omega) (gf := 152) (lb := #[.pointer (some ⟨G + 1 + 1, 0, none⟩)]) rfl trivial (enters_of Try.func152 (by kernel_rfl) rfl)
    (back_stops 5 (by omega) (G + 1 + 1) W0.heap.size cap A zs (by omega) W0 (by omega) (Nat.le_refl _) c2 Z0.out hbl) belowK_t (belowK_b (Nat.le_refl _)) (Below.refl _ _) (fun _ => rfl)
    (TrI W0.heap.size G st w) (TrX G st w) (trI_own hGw1) (fun c => trX_own c hGw1) ⟨⟨⟨b0, b1⟩, fun y hy => (by cases hy), Nat.le_refl _⟩, hB0⟩
    (fun x a' W => ∃ Bx, BoxedT W Bx x.1 ∧ a' = { tmps := #[.slice A zs.length cap, .int .i64 st, undef, .pointer (some ⟨G, 0, none⟩), .pointer (some ⟨G + 1, 0, none⟩), undef, .pointer (some ⟨Bx, 0, none⟩), .slice A zs.length cap, .func (.func 152) #[] #[.pointer (some ⟨G + 1 + 1, 0, none⟩)], .int .i64 x.2, .agg #[.int .i64 x.1.k, .string x.1.t], undef, undef, undef, undef, undef, undef], defers := [] })
    (fun x a' _ X Y row hs hg hr => by obtain ⟨Bx, e2, e3⟩ := hs; exact ⟨Bx, e2.kept hg (fun r e => (hr r e).2), e3⟩)
    ?assign ?body ?done ?stop
  case assign =>
    rintro l pre x W K ⟨⟨⟨h0, h1⟩, hn, hS⟩, hB⟩ hK
    obtain ⟨⟨xk, xt⟩, xi⟩ := x
    have HI := Lib.hid (show TrI W0.heap.size G st w pre (W.alloc (.cells #[.int .i64 xk, .string xt] 98)) from ⟨⟨⟨h0.alloc _, h1.alloc _⟩, hn, Nat.le_trans hS (by simp)⟩, hB.alloc hB.size _⟩)
    have HK := Lib.hid (show Below W0.heap.size W (W.alloc (.cells #[.int .i64 xk, .string xt] 98)) from (Below.refl _ W).alloc hS _)
    simp only [encB]
    gi_wp2
    exact hK _ _ ((KeepsOthers.alloc _ _).from _) HK.out HI.out ⟨W.heap.size, BoxedT.new W ⟨xk, xt⟩, rfl⟩
  case body =>
    rintro l pre x a' W hl1 ⟨r, hr⟩ ⟨⟨⟨h0, h1⟩, hn, hS⟩, hB⟩ ⟨Bx, bX, rfl⟩ hlt
    obtain ⟨⟨xk, xt⟩, xi⟩ := x
    have HN := Lib.hid hn
    have hS2 := Lib.hid hS
    clear hn hS
    have c0 := h0.cell
    have c1 := h1.cell
    have f1 := h1.frozen
    have x0 := bX.cell0
    have x1 := bX.cell1
    by_cases h : xk ≤ st
    · have hd : decide (xk ≤ st) = true := decide_eq_true h
      gi_wp2
      exact ⟨(KeepsOthers.setCell _ _ _).from _, ⟨⟨pre, (⟨xk, xt⟩, xi), ⟨rfl, by show xk ≤ st; omega, fun y hy => by have := HN.out y hy; omega⟩, h1.set _⟩, rfl⟩, hB.setCell (by show w.heap.size ≤ G + 1; omega) _⟩
    · have hd : decide (xk ≤ st) = false := decide_eq_false h
      gi_wp2
      refine ⟨KeepsFrom.refl _ _, Below.refl _ _, ⟨⟨h0, h1⟩, fun y hy => ?_, by have := hS2.out; omega⟩, hB⟩
      rcases List.mem_append.1 hy with hy | hy
      · have := HN.out y hy; omega
      · obtain rfl := List.mem_singleton.1 hy
        show ¬ xk ≤ st
        omega
  case done =>
    rintro D ys W hD rfl ⟨⟨⟨h0, h1⟩, hn, hS⟩, hB⟩ hK
    have HE := Lib.hid (back_none hn)
    clear hn
    have c1 := h1.cell
    have f1 := h1.frozen
    gi_wp2
    have hK2 := (KeepsOthers.setCell W ⟨G + 1, 0, none⟩ (.string ⟨#[]⟩)).same D _ hK rfl
    have hc := cell_kept (h1.set (.string ⟨#[]⟩)).cell (grownBy_putObj' _ D (.deferred none)) (fun r e => by cases e; exact ⟨_, hK2, rfl⟩)
    refine ⟨by simp, .inl ⟨_, _, rfl, run_takeDeferred hK2, ?_⟩⟩
    refine ⟨.string ⟨#[]⟩, by simp [results, Try.results116, go_sem, hc], by rw [HE.out], ?_⟩
    exact (hB.setCell (by show w.heap.size ≤ G + 1; omega) _).trans (belowK_b (w := w) (Nat.le_refl _) _ D _ _ (by omega) hK2 rfl rfl)
  case stop =>
    rintro D c pre W hD hpre ⟨⟨⟨q, x, ⟨rfl, hx, hq⟩, h1⟩, rfl⟩, hB⟩ hK
    have HE := Lib.hid (back_hit hpre hx hq)
    clear hpre hx hq
    gi_wp2
    have hc := cell_kept h1.cell (grownBy_putObj' _ D (.deferred none)) (fun r e => by cases e; exact ⟨_, hK, rfl⟩)
    refine ⟨by simp, .inl ⟨_, _, rfl, run_takeDeferred hK, ?_⟩⟩
    refine ⟨.string x.1.t, by simp [results, Try.results116, go_sem, hc], by rw [HE.out], ?_⟩
    exact hB.trans (belowK_b (w := w) (Nat.le_refl _) _ D _ _ (by omega) hK rfl rfl)
end Go.Proofs.Ytacddgipcafdlaa
