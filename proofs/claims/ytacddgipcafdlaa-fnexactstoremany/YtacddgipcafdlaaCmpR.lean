/-
  Walks: rows compared by key and beginning; sorted by that.
-/
import Derived.Test.YtacddgipcafdlaaRelP
import Derived.Test.YtacddgipcafdlaaStabW
import Derived.Test.YtacddgipcafdlaaLater
import Derived.StillTailTactics
namespace Go.Proofs.Ytacddgipcafdlaa
open Go.Shelf Go.RowKit Go.Lib Go.Sort

instance : Inhabited RowV := ⟨row0⟩
def cmpB (x y : ByteArray) : Int := if kl x y = true then -1 else if (x.toList == y.toList) = true then 0 else 1
def orB (x y : Int) : Int := if x = 0 then y else x
def cmpRow (x y : RowV) : Int := orB (cmpB x.k y.k) (Lib.compareInt x.f y.f)
theorem ltRow : ltOf cmpRow = lessB := by
  funext x y
  unfold ltOf cmpRow cmpB orB lessB
  show _ = (kl x.k y.k || _)
  cases h1 : kl x.k y.k with
  | true => simp
  | false =>
    cases h2 : (x.k.toList == y.k.toList) with
    | false => simp
    | true =>
      unfold Lib.compareInt
      by_cases h3 : x.f < y.f
      · simp [h3]
      · by_cases h4 : y.f < x.f <;> simp [h3, h4]

set_option maxHeartbeats 1000000 in
theorem isNaN_text (x : ByteArray) (w : World) : Calls Try.prog 149 #[.string x] w fun e w' => e = .returned (.bool false) ∧ w' = w := by
  go_enter Try.func149, Try.ntmps149
  go_wp2
  go_ret
  exact ⟨by simp, rfl⟩
set_option maxHeartbeats 1000000 in
theorem compare_text (x y : ByteArray) (w : World) : Calls Try.prog 138 #[.string x, .string y] w fun e w' => e = .returned (.int .i64 (cmpB x y)) ∧ w' = w := by
  have HC := Lib.hid (show cmpB x y = if Op.bytesLess x.toList y.toList = true then -1 else if (x.toList == y.toList) = true then 0 else 1 from rfl)
  cases h1 : Op.bytesLess x.toList y.toList
  · cases h2 : (x.toList == y.toList)
    · rw [h1, h2] at HC
      go_enter Try.func138, Try.ntmps138
      go_wp2_with (go_at_call 149; refine (isNaN_text _ _).mono ?_; rintro e w' ⟨rfl, hw⟩; rw [hw])
      go_ret
      exact ⟨by rw [HC.out]; rfl, rfl⟩
    · rw [h1, h2] at HC
      go_enter Try.func138, Try.ntmps138
      go_wp2_with (go_at_call 149; refine (isNaN_text _ _).mono ?_; rintro e w' ⟨rfl, hw⟩; rw [hw])
      go_ret
      exact ⟨by rw [HC.out]; rfl, rfl⟩
  · rw [h1] at HC
    go_enter Try.func138, Try.ntmps138
    go_wp2_with (go_at_call 149; refine (isNaN_text _ _).mono ?_; rintro e w' ⟨rfl, hw⟩; rw [hw])
    go_ret
    exact ⟨by rw [HC.out]; rfl, rfl⟩
set_option maxHeartbeats 2000000 in
theorem or_two (x y : Int) (g : Nat) (w : World) (h0 : w.cell? ⟨g, 0, none⟩ = some (.int .i64 x)) (h1 : w.cell? ⟨g, 1, none⟩ = some (.int .i64 y)) :
    Calls Try.prog 137 #[.slice (some ⟨g, 0, none⟩) 2 2] w fun e w' => e = .returned (.int .i64 (orB x y)) ∧ w' = w := by
  by_cases hx : x = 0
  · by_cases hy : y = 0
    · subst hx; subst hy
      go_enter Try.func137, Try.ntmps137
      go_wp2
      refine wp_loop_rounds 3 ?_
      rw [rounds_succ]
      go_wp2
      rw [rounds_succ]
      go_wp2
      rw [rounds_succ]
      go_wp2
      go_ret
      exact ⟨rfl, rfl⟩
    · subst hx
      have hyb : (y != 0) = true := by simpa using hy
      have hyc : (y == 0) = false := by simpa using hy
      go_enter Try.func137, Try.ntmps137
      go_wp2
      refine wp_loop_rounds 2 ?_
      rw [rounds_succ]
      go_wp2
      rw [rounds_succ]
      go_wp2
      go_ret
      exact ⟨rfl, rfl⟩
  · have hxb : (x != 0) = true := by simpa using hx
    have hxc : (x == 0) = false := by simpa using hx
    have HR := Lib.hid (show orB x y = x from if_neg hx)
    go_enter Try.func137, Try.ntmps137
    go_wp2
    refine wp_loop_rounds 1 ?_
    rw [rounds_succ]
    go_wp2
    go_ret
    exact ⟨by rw [HR.out]; rfl, rfl⟩

set_option maxRecDepth 100000 in
set_option maxHeartbeats 2000000 in
theorem byKey_any (x y : RowV) (W : World) : Calls Try.prog 112 #[.agg #[.string x.k, .string x.t, .int .i64 x.f, .int .i64 x.e], .agg #[.string y.k, .string y.t, .int .i64 y.f, .int .i64 y.e]] W fun e w' => e = .returned (.int .i64 (cmpRow x y)) ∧ ∃ q os', w' = grow (W.drewN q) os' := by
  have hcon := fun W' => AnyG.cmp_Compare_int Try.cmpInt x.f y.f W'
  change ∀ W', Calls Try.prog 139 _ _ _ at hcon
  have htxt := fun W' => compare_text x.k y.k W'
  have HR := Lib.hid (show cmpRow x y = orB (cmpB x.k y.k) (Lib.compareInt x.f y.f) from rfl)
  generalize cmpRow x y = r at HR ⊢
  generalize Lib.compareInt x.f y.f = r1 at hcon HR
  generalize cmpB x.k y.k = r2 at htxt HR
  go_enter Try.func112, Try.ntmps112
  go_wp2_with fail
  generalize hW : (W.alloc _).alloc _ = W1
  have a0 : W1.cell? ⟨W.heap.size, 0, none⟩ = some (.string x.k) := by rw [← hW]; simp [go_sem]
  have a2 : W1.cell? ⟨W.heap.size, 2, none⟩ = some (.int .i64 x.f) := by rw [← hW]; simp [go_sem]
  have b0 : W1.cell? ⟨W.heap.size + 1, 0, none⟩ = some (.string y.k) := by rw [← hW]; simp [go_sem]
  have b2 : W1.cell? ⟨W.heap.size + 1, 2, none⟩ = some (.int .i64 y.f) := by rw [← hW]; simp [go_sem]
  have HG := Lib.hid (show ∃ os, W1 = grow W os from ⟨_, by rw [← hW, alloc_eq_grow, alloc_eq_grow, grow_grow]⟩)
  clear hW
  refine wp_region_still_tail 12 (by kernel_rfl) (by kernel_rfl) ?_
  simp only [List.take_succ_cons, List.take_zero, List.drop_succ_cons, List.drop_zero]
  repeat (first | still_call (htxt _) | still_call (hcon _) | still_step)
  refine wpStill_nil ?_
  change wpList _ _ _ _ _ W1.drew
  go_wp2_with (go_at_call 137; refine (or_two r2 r1 _ _ (by simp) (by simp)).mono ?_; rintro e w' ⟨rfl, rfl⟩)
  go_ret
  refine ⟨by rw [HR.out]; rfl, ?_⟩
  obtain ⟨os, rfl⟩ := HG.out
  exact ⟨1, _, by rw [alloc_eq_grow]; show grow (grow (W.drewN 1) os) _ = _; rw [grow_grow]⟩
theorem byKey_lays (blk off size : Nat) (w : World) : CmpLays Try.prog 112 #[] rowC 4 cmpRow blk off size w := fun _ _ _ _ x y => byKey_any x y _

theorem sortP : SortP Try.prog 4 :=
  ⟨by kernel_rfl, Eq.refl _, Eq.refl _, Eq.refl _, Eq.refl _, Eq.refl _, Eq.refl _, Try.isAgg0, Try.sizeOf0, Eq.refl _, Try.isAgg3, Try.sizeOf3, Eq.refl _, Try.isAgg4, Try.sizeOf4, Eq.refl _, Try.isAgg58, Try.sizeOf58, Eq.refl _, Try.isAgg131, Try.sizeOf131, Eq.refl _, Try.isAgg176, Try.sizeOf176, Try.zeroValue0, Try.zeroValue3, Try.zeroValue4, Try.zeroValue58, Try.zeroValue131, Try.zeroValue176, Try.isAgg72, Try.sizeOf72⟩
theorem ins_row (g : Nat) (cb : Array Value) (eg : ∀ args w, (callFunc g args).run Try.prog w = .ok (.enter g args) w) (hcmp : ∀ blk off size w, CmpLays Try.prog g cb rowC 4 cmpRow blk off size w) (blk off cap : Nat) (d0 : Array RowV) (w0 : World) (R : RowK rowC 4 w0 blk off d0) (hsz : d0.size < 4611686018427387904) :
    Sorts1 Try.prog 155 rowC 4 cmpRow g cb blk off cap d0 w0 := fun a b d w hd S hab hb => by
  have hcon := AnyQ.insertionSortCmpFunc Try.insRow 4 Try.isAgg72 Try.sizeOf72 rowC rowC_len rowC_one cmpRow g cb blk off cap a b d w eg (hcmp blk off _ w) (S.holds R.hblk R.hH hd) (S.lt R.hblk) hab hb (by omega)
  change Calls Try.prog 155 _ _ _ at hcon
  rw [hd] at hcon
  refine hcon.mono fun e w' ⟨he, n, os, hw⟩ => ⟨he, Sort.insertionSort (ltOf cmpRow) d a b, ?_⟩
  have h := insertionSort_holds (lt := ltOf cmpRow) (by rw [ltRow]; exact swoRow) d a b hab hb
  exact ⟨h.1, h.2, hw ▸ S.on R.hblk n _ os h.1.1⟩
set_option maxHeartbeats 1000000 in
theorem SortStable_row (g : Nat) (cb : Array Value) (eg : ∀ args w, (callFunc g args).run Try.prog w = .ok (.enter g args) w) (hcmp : ∀ blk off size w, CmpLays Try.prog g cb rowC 4 cmpRow blk off size w) (blk off cap : Nat) (d : Array RowV) (w : World) (R : RowK rowC 4 w blk off d) (hsz : d.size < 1152921504606846976) :
    Calls Try.prog 140 #[.slice (some ⟨blk, off, none⟩) d.size cap, .func (.func g) #[] cb] w fun e w' => e = .returned (.tuple #[]) ∧ ∃ d', PermIn 0 d.size d d' ∧ SortedIn lessB 0 d.size d' ∧ SWK rowC 4 w blk off d' w' := by
  have hc := stable_w sortP rowC cmpRow (by rw [ltRow]; exact swoRow) g cb blk off cap d w eg (hcmp blk off _ w) R (ins_row g cb eg hcmp blk off cap d w R (by omega)) hsz
  rw [ltRow] at hc
  go_enter Try.func140, Try.ntmps140
  go_wp2_with (go_at_call 151; refine hc.mono ?_; rintro e w1 ⟨rfl, d', hp, hs, hw⟩; have HP := Lib.hid hp; have HS := Lib.hid hs; have HW := Lib.hid hw; clear hp hs hw)
  first | go_end0 | go_ret
  exact ⟨rfl, d', HP.out, HS.out, HW.out⟩
set_option maxHeartbeats 1000000 in
theorem ins_nil (fv : Value) (w : World) : Calls Try.prog 155 #[.slice none 0 0, .int .i64 0, .int .i64 0, fv] w fun e w' => e = .returned (.tuple #[]) ∧ w' = w := by
  go_enter Try.func155, Try.ntmps155
  go_wp2
  refine wp_loop_rounds 1 ?_
  rw [rounds_succ]
  go_wp2
  first | go_end0 | go_ret
  exact ⟨rfl, rfl⟩
set_option maxHeartbeats 1000000 in
theorem stable_nil (fv : Value) (w : World) : Calls Try.prog 151 #[.slice none 0 0, .int .i64 0, fv] w fun e w' => e = .returned (.tuple #[]) ∧ w' = w := by
  go_enter Try.func151, Try.ntmps151
  go_wp2
  refine wp_loop_rounds 1 ?_
  rw [rounds_succ]
  go_wp2_with (go_at_call 155; refine (ins_nil _ _).mono ?_; rintro e w1 ⟨rfl, rfl⟩)
  refine wp_loop_rounds 1 ?_
  rw [rounds_succ]
  go_wp2
  first | go_end0 | go_ret
  exact ⟨rfl, rfl⟩
set_option maxHeartbeats 1000000 in
theorem SortStable_nil (fv : Value) (w : World) : Calls Try.prog 140 #[.slice none 0 0, fv] w fun e w' => e = .returned (.tuple #[]) ∧ w' = w := by
  go_enter Try.func140, Try.ntmps140
  go_wp2_with (go_at_call 151; refine (stable_nil _ _).mono ?_; rintro e w1 ⟨rfl, rfl⟩)
  first | go_end0 | go_ret
  exact ⟨rfl, rfl⟩
end Go.Proofs.Ytacddgipcafdlaa
