/-
  Walks: rows inserted, deleted, merged: the program and the model.
-/
import Derived.Test.YtgclmldhdjmabaaDmlI
import Derived.Test.YtgclmldhdjmabaaDrawT
namespace Go.Proofs.Ytgclmldhdjmabaa
open Go.Shelf Go.RowKit Go.Lib Go.Sort

theorem src_one {w : World} {g c : Nat} {r : RowV} (h0 : w.cell? ⟨g, 0, none⟩ = some (.string r.k)) (h1 : w.cell? ⟨g, 1, none⟩ = some (.string r.t)) (h2 : w.cell? ⟨g, 2, none⟩ = some (.int .i64 r.f)) (h3 : w.cell? ⟨g, 3, none⟩ = some (.int .i64 r.e)) : ∀ W, Below w.heap.size w W → Src W (.slice (some ⟨g, 0, none⟩) 1 c) [r] := fun W hW => by
  have hg : g < w.heap.size := World.block_lt_of_cell? _ _ h0
  refine .inr ⟨⟨g, 0, none⟩, c, rfl, ?_⟩
  have := newsFour (cellBelow hW hg h0) (cellBelow hW hg h1) (cellBelow hW hg h2) (cellBelow hW hg h3)
  simpa [flatOf, rowC] using this
theorem src_nil (w : World) : ∀ W, Below w.heap.size w W → Src W (.slice none 0 0) [] := fun _ _ => .inl ⟨rfl, rfl⟩
theorem flat_self : ∀ zs : List RowV, zs.flatMap (fun x => [x]) = zs
  | [] => rfl
  | x :: l => by rw [List.flatMap_cons, flat_self l]; rfl
theorem short_one {r : RowV} (h : r.k.size ≤ maxLen ∧ r.t.size ≤ maxLen) : Short [r] := fun y hy => by rw [List.mem_singleton.1 hy]; exact h
theorem short_none : Short [] := fun y hy => by cases hy
theorem cutRow_short {zs : List RowV} (h : Short zs) {key : ByteArray} {a b : Int} : ∀ x ∈ zs, Short (cutRow key a b x) := fun x hx y hy => short_cut (key := key) (a := a) (b := b) h y (List.mem_flatMap.2 ⟨x, hx, hy⟩)
theorem rel_spans {zs : List RowV} (h : relOk zs = true) : ∀ x ∈ zs, 0 ≤ x.f ∧ x.f < x.e ∧ x.e ≤ 100 := fun x hx => (rowOk_iff.1 ((rel_apart h).1 x hx)).2.2

def insertS (zs : List RowV) (r : RowV) : List RowV × Bool := if relOk zs = true then insertL zs r else ([], false)
def deleteS (zs : List RowV) (key : ByteArray) (a b : Int) : List RowV × Bool := if relOk zs = true then (if (wordB key && okSpan a b) = true then deleteL zs key a b else (zs, false)) else ([], false)
theorem insert_bad {zs : List RowV} {r : RowV} (h : rowOk r = false) : insertL zs r = (zs, false) := if_neg (by simp [h])
theorem insertS_len (zs : List RowV) (r : RowV) : (insertS zs r).1.length ≤ 24 := by
  unfold insertS
  split
  · rename_i h
    unfold insertL
    split
    · exact fits_len (relOk_len h)
    · exact relOk_len h
  · simp
theorem deleteS_len (zs : List RowV) (key : ByteArray) (a b : Int) : (deleteS zs key a b).1.length ≤ 24 := by
  unfold deleteS
  split
  · rename_i h
    split
    · exact fits_len (relOk_len h)
    · exact relOk_len h
  · simp

set_option maxRecDepth 100000 in
set_option maxHeartbeats 4000000 in
theorem RelInsert_any (A : Option Addr) (cap : Nat) (zs : List RowV) (r : RowV) (w : World) (hz : RowsA w A zs) (hA : A = none ∨ ∃ b off, A = some ⟨b, off, none⟩) (hl : zs.length ≤ 1048577) (hs : Short zs) (hr : r.k.size ≤ maxLen ∧ r.t.size ≤ maxLen) :
    Calls Try.prog 36 #[.slice A zs.length cap, .agg #[.string r.k, .string r.t, .int .i64 r.f, .int .i64 r.e]] w (GetsRB w (insertS zs r)) := by
  have HS := Lib.hid hs
  have HA := Lib.hid hA
  have HR := Lib.hid hr
  obtain ⟨o, ho⟩ : ∃ o, relOk zs = o := ⟨_, rfl⟩
  obtain ⟨ro, hro⟩ : ∃ ro, rowOk r = ro := ⟨_, rfl⟩
  have HRO := Lib.hid hro
  have HO := Lib.hid ho
  have EG := Lib.hid (show ∀ args w, (callFunc 98 args).run Try.prog w = .ok (.enter 98 args) w from enters_of Try.func98 (by kernel_rfl) rfl)
  clear hs hA hr ho hro
  cases o
  · rw [show insertS zs r = ([], false) from if_neg (by rw [HO.out]; simp)]
    go_enter Try.func36, Try.ntmps36
    go_wp2_with fail
    generalize hW : w.alloc _ = W0
    obtain ⟨rb, hrb⟩ : ∃ rb, w.heap.size = rb := ⟨_, rfl⟩
    have r0 : W0.cell? ⟨rb, 0, none⟩ = some (.string r.k) := by rw [← hW, ← hrb]; simp [go_sem]
    have r1 : W0.cell? ⟨rb, 1, none⟩ = some (.string r.t) := by rw [← hW, ← hrb]; simp [go_sem]
    have r2 : W0.cell? ⟨rb, 2, none⟩ = some (.int .i64 r.f) := by rw [← hW, ← hrb]; simp [go_sem]
    have r3 : W0.cell? ⟨rb, 3, none⟩ = some (.int .i64 r.e) := by rw [← hW, ← hrb]; simp [go_sem]
    have lrb : rb < W0.heap.size := by rw [← hW, ← hrb]; simp
    have lrb0 : rb ≤ W0.heap.size := Nat.le_of_lt lrb
    have B0 := Lib.hid (show Below rb w W0 from by rw [← hW]; exact (Below.refl _ _).alloc (by omega) _)
    have HZ := Lib.hid (show RowsA W0 A zs from hz.below (by have := B0.out; rw [← hrb] at this; exact this))
    rw [hrb]
    have HRB := Lib.hid hrb
    clear hW hz hrb
    have hq0 : Below W0.heap.size W0 W0 := Below.refl _ _
    go_region_held3 (fun w' => w'.cell? ⟨rb, 0, none⟩ = some (.string r.k) ∧ w'.cell? ⟨rb, 1, none⟩ = some (.string r.t) ∧ w'.cell? ⟨rb, 2, none⟩ = some (.int .i64 r.f) ∧ w'.cell? ⟨rb, 3, none⟩ = some (.int .i64 r.e) ∧ W0.heap.size ≤ w'.heap.size ∧ Below W0.heap.size W0 w')
      (((try go_split_ands); refine ⟨?c0, ?c1, ?c2, ?c3, ?s, ?b⟩; (case c0 => (repeat (first | with_reducible assumption | with_reducible refine cell_below hb (by first | omega | (simp; done) | (simp; omega)) ?_ | with_reducible refine cell_set_far (by first | omega | (simp; done) | (simp; omega)) ?_ | with_reducible exact cell_alloc_swap (by with_reducible assumption) (by first | omega | (simp; done) | (simp; omega)) | with_reducible refine cell_alloc_far ?_ | with_reducible refine cell_drew ?_))); (case c1 => (repeat (first | with_reducible assumption | with_reducible refine cell_below hb (by first | omega | (simp; done) | (simp; omega)) ?_ | with_reducible refine cell_set_far (by first | omega | (simp; done) | (simp; omega)) ?_ | with_reducible exact cell_alloc_swap (by with_reducible assumption) (by first | omega | (simp; done) | (simp; omega)) | with_reducible refine cell_alloc_far ?_ | with_reducible refine cell_drew ?_))); (case c2 => (repeat (first | with_reducible assumption | with_reducible refine cell_below hb (by first | omega | (simp; done) | (simp; omega)) ?_ | with_reducible refine cell_set_far (by first | omega | (simp; done) | (simp; omega)) ?_ | with_reducible exact cell_alloc_swap (by with_reducible assumption) (by first | omega | (simp; done) | (simp; omega)) | with_reducible refine cell_alloc_far ?_ | with_reducible refine cell_drew ?_))); (case c3 => (repeat (first | with_reducible assumption | with_reducible refine cell_below hb (by first | omega | (simp; done) | (simp; omega)) ?_ | with_reducible refine cell_set_far (by first | omega | (simp; done) | (simp; omega)) ?_ | with_reducible exact cell_alloc_swap (by with_reducible assumption) (by first | omega | (simp; done) | (simp; omega)) | with_reducible refine cell_alloc_far ?_ | with_reducible refine cell_drew ?_))); (case s => (first | with_reducible assumption | (have := hb.size; omega) | omega | (simp; done) | (simp; omega) | (have := hb.size; simp at this ⊢; omega))); (case b => (repeat (first | with_reducible assumption | with_reducible exact hq0 | with_reducible refine Below.drew ?_ | with_reducible refine Below.trans ?_ (hb.mono (by first | omega | (simp; done) | (simp; omega))) | with_reducible refine Below.setCell ?_ (by first | omega | (simp; done) | (simp; omega)) _ | with_reducible exact below_alloc_swap (by with_reducible assumption) (by first | omega | (simp; done) | (simp; omega)) | with_reducible refine Below.alloc ?_ (by first | omega | (simp; done) | (simp; omega)) _)))))
      (first
        | (go_at_call 72; refine (rowOkM_val r _ _ HR.out.1 HR.out.2 HRO.out).mono ?_; rintro e w1 ⟨rfl, hb⟩; have hbA := hb; have hsz : W0.heap.size ≤ w1.heap.size := (by have := hb.size; first | omega | (simp at this; omega)); obtain ⟨hc, hf, hlb⟩ := bcell3 hb)
        | (go_at_call 89; refine (modified_no A cap zs _ _ _ _ (HZ.out.below (by repeat (first | with_reducible assumption | with_reducible exact hq0 | with_reducible refine Below.drew ?_ | with_reducible refine Below.trans ?_ (hbB.mono (by first | omega | (simp; done) | (simp; omega) | (have h9 := hbA.size; simp at h9; omega))) | with_reducible refine Below.trans ?_ (hbA.mono (by first | omega | (simp; done) | (simp; omega) | (have h9 := hbA.size; simp at h9; omega))) | with_reducible refine Below.alloc ?_ (by first | omega | (simp; done) | (simp; omega) | (have h9 := hbA.size; simp at h9; omega)) _))) hl HS.out HO.out).mono ?_; rintro e w5 ⟨A5, c5, rfl, ho5, hb⟩; have O5 := Lib.hid (owns_baseE (base' := rb) ho5 (by first | omega | (simp; omega))); clear ho5))
    all_goals (go_wp2_with fail)
    all_goals (
      rename_i hHd
      refine bodyPost_ret (v := .tuple #[.slice A5 (([], false) : List RowV × Bool).1.length c5, .bool (([], false) : List RowV × Bool).2]) (by simp [results, Try.results36, go_sem]) rfl ?_
      exact ⟨A5, c5, rfl, by rw [HRB.out]; exact O5.out, by rw [HRB.out]; exact B0.out.trans (hHd.2.2.2.2.2.mono lrb0)⟩)
  · cases ro
    · rw [show insertS zs r = (zs, false) from by unfold insertS; rw [if_pos HO.out, insert_bad HRO.out]]
      go_enter Try.func36, Try.ntmps36
      go_wp2_with fail
      generalize hW : w.alloc _ = W0
      obtain ⟨rb, hrb⟩ : ∃ rb, w.heap.size = rb := ⟨_, rfl⟩
      have r0 : W0.cell? ⟨rb, 0, none⟩ = some (.string r.k) := by rw [← hW, ← hrb]; simp [go_sem]
      have r1 : W0.cell? ⟨rb, 1, none⟩ = some (.string r.t) := by rw [← hW, ← hrb]; simp [go_sem]
      have r2 : W0.cell? ⟨rb, 2, none⟩ = some (.int .i64 r.f) := by rw [← hW, ← hrb]; simp [go_sem]
      have r3 : W0.cell? ⟨rb, 3, none⟩ = some (.int .i64 r.e) := by rw [← hW, ← hrb]; simp [go_sem]
      have lrb : rb < W0.heap.size := by rw [← hW, ← hrb]; simp
      have lrb0 : rb ≤ W0.heap.size := Nat.le_of_lt lrb
      have B0 := Lib.hid (show Below rb w W0 from by rw [← hW]; exact (Below.refl _ _).alloc (by omega) _)
      have HZ := Lib.hid (show RowsA W0 A zs from hz.below (by have := B0.out; rw [← hrb] at this; exact this))
      rw [hrb]
      have HRB := Lib.hid hrb
      clear hW hz hrb
      have hq0 : Below W0.heap.size W0 W0 := Below.refl _ _
      go_region_held3 (fun w' => w'.cell? ⟨rb, 0, none⟩ = some (.string r.k) ∧ w'.cell? ⟨rb, 1, none⟩ = some (.string r.t) ∧ w'.cell? ⟨rb, 2, none⟩ = some (.int .i64 r.f) ∧ w'.cell? ⟨rb, 3, none⟩ = some (.int .i64 r.e) ∧ W0.heap.size ≤ w'.heap.size ∧ Below W0.heap.size W0 w')
        (((try go_split_ands); refine ⟨?c0, ?c1, ?c2, ?c3, ?s, ?b⟩; (case c0 => (repeat (first | with_reducible assumption | with_reducible refine cell_below hb (by first | omega | (simp; done) | (simp; omega)) ?_ | with_reducible refine cell_set_far (by first | omega | (simp; done) | (simp; omega)) ?_ | with_reducible exact cell_alloc_swap (by with_reducible assumption) (by first | omega | (simp; done) | (simp; omega)) | with_reducible refine cell_alloc_far ?_ | with_reducible refine cell_drew ?_))); (case c1 => (repeat (first | with_reducible assumption | with_reducible refine cell_below hb (by first | omega | (simp; done) | (simp; omega)) ?_ | with_reducible refine cell_set_far (by first | omega | (simp; done) | (simp; omega)) ?_ | with_reducible exact cell_alloc_swap (by with_reducible assumption) (by first | omega | (simp; done) | (simp; omega)) | with_reducible refine cell_alloc_far ?_ | with_reducible refine cell_drew ?_))); (case c2 => (repeat (first | with_reducible assumption | with_reducible refine cell_below hb (by first | omega | (simp; done) | (simp; omega)) ?_ | with_reducible refine cell_set_far (by first | omega | (simp; done) | (simp; omega)) ?_ | with_reducible exact cell_alloc_swap (by with_reducible assumption) (by first | omega | (simp; done) | (simp; omega)) | with_reducible refine cell_alloc_far ?_ | with_reducible refine cell_drew ?_))); (case c3 => (repeat (first | with_reducible assumption | with_reducible refine cell_below hb (by first | omega | (simp; done) | (simp; omega)) ?_ | with_reducible refine cell_set_far (by first | omega | (simp; done) | (simp; omega)) ?_ | with_reducible exact cell_alloc_swap (by with_reducible assumption) (by first | omega | (simp; done) | (simp; omega)) | with_reducible refine cell_alloc_far ?_ | with_reducible refine cell_drew ?_))); (case s => (first | with_reducible assumption | (have := hb.size; omega) | omega | (simp; done) | (simp; omega) | (have := hb.size; simp at this ⊢; omega))); (case b => (repeat (first | with_reducible assumption | with_reducible exact hq0 | with_reducible refine Below.drew ?_ | with_reducible refine Below.trans ?_ (hb.mono (by first | omega | (simp; done) | (simp; omega))) | with_reducible refine Below.setCell ?_ (by first | omega | (simp; done) | (simp; omega)) _ | with_reducible exact below_alloc_swap (by with_reducible assumption) (by first | omega | (simp; done) | (simp; omega)) | with_reducible refine Below.alloc ?_ (by first | omega | (simp; done) | (simp; omega)) _)))))
        (first
          | (go_at_call 72; refine (rowOkM_val r _ _ HR.out.1 HR.out.2 HRO.out).mono ?_; rintro e w1 ⟨rfl, hb⟩; have hbA := hb; have hsz : W0.heap.size ≤ w1.heap.size := (by have := hb.size; first | omega | (simp at this; omega)); obtain ⟨hc, hf, hlb⟩ := bcell3 hb)
          | (go_at_call 89; refine (modified_bad A cap zs _ _ _ (HZ.out.below (by repeat (first | with_reducible assumption | with_reducible exact hq0 | with_reducible refine Below.drew ?_ | with_reducible refine Below.trans ?_ (hbB.mono (by first | omega | (simp; done) | (simp; omega) | (have h9 := hbA.size; simp at h9; omega))) | with_reducible refine Below.trans ?_ (hbA.mono (by first | omega | (simp; done) | (simp; omega) | (have h9 := hbA.size; simp at h9; omega))) | with_reducible refine Below.alloc ?_ (by first | omega | (simp; done) | (simp; omega) | (have h9 := hbA.size; simp at h9; omega)) _))) HA.out HS.out HO.out).mono ?_; rintro e w5 ⟨A5, c5, rfl, ho5, hb⟩; have O5 := Lib.hid (owns_baseE (base' := rb) ho5 (by first | omega | (simp; omega))); clear ho5))
      all_goals (go_wp2_with fail)
      all_goals (
        rename_i hHd
        refine bodyPost_ret (v := .tuple #[.slice A5 ((zs, false) : List RowV × Bool).1.length c5, .bool ((zs, false) : List RowV × Bool).2]) (by simp [results, Try.results36, go_sem]) rfl ?_
        exact ⟨A5, c5, rfl, by rw [HRB.out]; exact O5.out, by rw [HRB.out]; exact B0.out.trans (hHd.2.2.2.2.2.mono lrb0)⟩)
    · have HP := Lib.hid (show ∀ s, Ordered s → s.Perm (zs.flatMap (fun x => [x]) ++ [r]) → changedL s zs = insertL zs r from fun s h1 h2 => insert_eq HO.out HRO.out h1 (by rwa [flat_self] at h2))
      rw [show insertS zs r = insertL zs r from by unfold insertS; rw [if_pos HO.out]]
      have hl24 := relOk_len HO.out
      obtain ⟨p, hp⟩ : ∃ p, insertL zs r = p := ⟨_, rfl⟩
      rw [hp] at HP ⊢
      clear hp
      go_enter Try.func36, Try.ntmps36
      go_wp2_with fail
      generalize hW : w.alloc _ = W0
      obtain ⟨rb, hrb⟩ : ∃ rb, w.heap.size = rb := ⟨_, rfl⟩
      have r0 : W0.cell? ⟨rb, 0, none⟩ = some (.string r.k) := by rw [← hW, ← hrb]; simp [go_sem]
      have r1 : W0.cell? ⟨rb, 1, none⟩ = some (.string r.t) := by rw [← hW, ← hrb]; simp [go_sem]
      have r2 : W0.cell? ⟨rb, 2, none⟩ = some (.int .i64 r.f) := by rw [← hW, ← hrb]; simp [go_sem]
      have r3 : W0.cell? ⟨rb, 3, none⟩ = some (.int .i64 r.e) := by rw [← hW, ← hrb]; simp [go_sem]
      have lrb : rb < W0.heap.size := by rw [← hW, ← hrb]; simp
      have lrb0 : rb ≤ W0.heap.size := Nat.le_of_lt lrb
      have B0 := Lib.hid (show Below rb w W0 from by rw [← hW]; exact (Below.refl _ _).alloc (by omega) _)
      have HZ := Lib.hid (show RowsA W0 A zs from hz.below (by have := B0.out; rw [← hrb] at this; exact this))
      rw [hrb]
      have HRB := Lib.hid hrb
      clear hW hz hrb
      have hq0 : Below W0.heap.size W0 W0 := Below.refl _ _
      go_region_held3 (fun w' => w'.cell? ⟨rb, 0, none⟩ = some (.string r.k) ∧ w'.cell? ⟨rb, 1, none⟩ = some (.string r.t) ∧ w'.cell? ⟨rb, 2, none⟩ = some (.int .i64 r.f) ∧ w'.cell? ⟨rb, 3, none⟩ = some (.int .i64 r.e) ∧ W0.heap.size ≤ w'.heap.size ∧ Below W0.heap.size W0 w')
        (((try go_split_ands); refine ⟨?c0, ?c1, ?c2, ?c3, ?s, ?b⟩; (case c0 => (repeat (first | with_reducible assumption | with_reducible refine cell_below hb (by first | omega | (simp; done) | (simp; omega)) ?_ | with_reducible refine cell_set_far (by first | omega | (simp; done) | (simp; omega)) ?_ | with_reducible exact cell_alloc_swap (by with_reducible assumption) (by first | omega | (simp; done) | (simp; omega)) | with_reducible refine cell_alloc_far ?_ | with_reducible refine cell_drew ?_))); (case c1 => (repeat (first | with_reducible assumption | with_reducible refine cell_below hb (by first | omega | (simp; done) | (simp; omega)) ?_ | with_reducible refine cell_set_far (by first | omega | (simp; done) | (simp; omega)) ?_ | with_reducible exact cell_alloc_swap (by with_reducible assumption) (by first | omega | (simp; done) | (simp; omega)) | with_reducible refine cell_alloc_far ?_ | with_reducible refine cell_drew ?_))); (case c2 => (repeat (first | with_reducible assumption | with_reducible refine cell_below hb (by first | omega | (simp; done) | (simp; omega)) ?_ | with_reducible refine cell_set_far (by first | omega | (simp; done) | (simp; omega)) ?_ | with_reducible exact cell_alloc_swap (by with_reducible assumption) (by first | omega | (simp; done) | (simp; omega)) | with_reducible refine cell_alloc_far ?_ | with_reducible refine cell_drew ?_))); (case c3 => (repeat (first | with_reducible assumption | with_reducible refine cell_below hb (by first | omega | (simp; done) | (simp; omega)) ?_ | with_reducible refine cell_set_far (by first | omega | (simp; done) | (simp; omega)) ?_ | with_reducible exact cell_alloc_swap (by with_reducible assumption) (by first | omega | (simp; done) | (simp; omega)) | with_reducible refine cell_alloc_far ?_ | with_reducible refine cell_drew ?_))); (case s => (first | with_reducible assumption | (have := hb.size; omega) | omega | (simp; done) | (simp; omega) | (have := hb.size; simp at this ⊢; omega))); (case b => (repeat (first | with_reducible assumption | with_reducible exact hq0 | with_reducible refine Below.drew ?_ | with_reducible refine Below.trans ?_ (hb.mono (by first | omega | (simp; done) | (simp; omega))) | with_reducible refine Below.setCell ?_ (by first | omega | (simp; done) | (simp; omega)) _ | with_reducible exact below_alloc_swap (by with_reducible assumption) (by first | omega | (simp; done) | (simp; omega)) | with_reducible refine Below.alloc ?_ (by first | omega | (simp; done) | (simp; omega)) _)))))
        (first
          | (go_at_call 72; refine (rowOkM_val r _ _ HR.out.1 HR.out.2 HRO.out).mono ?_; rintro e w1 ⟨rfl, hb⟩; have hbA := hb; have hsz : W0.heap.size ≤ w1.heap.size := (by have := hb.size; first | omega | (simp at this; omega)); obtain ⟨hc, hf, hlb⟩ := bcell3 hb)
          | (go_at_call 89; refine (modified_yes A cap zs 98 #[] (fun x => [x]) (fun _ => True) _ [r] _ EG.out (HZ.out.below (by repeat (first | with_reducible assumption | with_reducible exact hq0 | with_reducible refine Below.drew ?_ | with_reducible refine Below.trans ?_ (hbB.mono (by first | omega | (simp; done) | (simp; omega) | (have h9 := hbA.size; simp at h9; omega))) | with_reducible refine Below.trans ?_ (hbA.mono (by first | omega | (simp; done) | (simp; omega) | (have h9 := hbA.size; simp at h9; omega))) | with_reducible refine Below.alloc ?_ (by first | omega | (simp; done) | (simp; omega) | (have h9 := hbA.size; simp at h9; omega)) _))) HA.out HS.out HO.out (kept_chg _) (fun _ _ => trivial) (src_one (by repeat (first | with_reducible assumption | (simp; done) | (simp [go_sem]; done) | with_reducible refine cell_drew ?_ | with_reducible refine cell_alloc_far ?_ | with_reducible refine cell_below hbB (by first | omega | (simp; done) | (simp; omega) | (have h9 := hbA.size; simp at h9; omega)) ?_ | with_reducible refine cell_below hbA (by first | omega | (simp; done) | (simp; omega) | (have h9 := hbA.size; simp at h9; omega)) ?_)) (by repeat (first | with_reducible assumption | (simp; done) | (simp [go_sem]; done) | with_reducible refine cell_drew ?_ | with_reducible refine cell_alloc_far ?_ | with_reducible refine cell_below hbB (by first | omega | (simp; done) | (simp; omega) | (have h9 := hbA.size; simp at h9; omega)) ?_ | with_reducible refine cell_below hbA (by first | omega | (simp; done) | (simp; omega) | (have h9 := hbA.size; simp at h9; omega)) ?_)) (by repeat (first | with_reducible assumption | (simp; done) | (simp [go_sem]; done) | with_reducible refine cell_drew ?_ | with_reducible refine cell_alloc_far ?_ | with_reducible refine cell_below hbB (by first | omega | (simp; done) | (simp; omega) | (have h9 := hbA.size; simp at h9; omega)) ?_ | with_reducible refine cell_below hbA (by first | omega | (simp; done) | (simp; omega) | (have h9 := hbA.size; simp at h9; omega)) ?_)) (by repeat (first | with_reducible assumption | (simp; done) | (simp [go_sem]; done) | with_reducible refine cell_drew ?_ | with_reducible refine cell_alloc_far ?_ | with_reducible refine cell_below hbB (by first | omega | (simp; done) | (simp; omega) | (have h9 := hbA.size; simp at h9; omega)) ?_ | with_reducible refine cell_below hbA (by first | omega | (simp; done) | (simp; omega) | (have h9 := hbA.size; simp at h9; omega)) ?_))) (fun _ _ => by simp) (fun x hx => short_one (HS.out x hx)) (by simp) (short_one HR.out) _ HP.out).mono ?_; rintro e w5 ⟨A5, c5, rfl, ho5, hb⟩; have O5 := Lib.hid (owns_baseE (base' := rb) ho5 (by first | omega | (simp; omega))); clear ho5))
      all_goals (go_wp2_with fail)
      all_goals (
        rename_i hHd
        refine bodyPost_ret (v := .tuple #[.slice A5 p.1.length c5, .bool p.2]) (by simp [results, Try.results36, go_sem]) rfl ?_
        exact ⟨A5, c5, rfl, by rw [HRB.out]; exact O5.out, by rw [HRB.out]; exact B0.out.trans (hHd.2.2.2.2.2.mono lrb0)⟩)

set_option maxRecDepth 100000 in
set_option maxHeartbeats 4000000 in
theorem RelMerge_any (A : Option Addr) (cap : Nat) (zs : List RowV) (r : RowV) (w : World) (hz : RowsA w A zs) (hA : A = none ∨ ∃ b off, A = some ⟨b, off, none⟩) (hl : zs.length ≤ 1048577) (hs : Short zs) (hr : r.k.size ≤ maxLen ∧ r.t.size ≤ maxLen) :
    Calls Try.prog 33 #[.slice A zs.length cap, .agg #[.string r.k, .string r.t, .int .i64 r.f, .int .i64 r.e]] w (GetsRB w (mergeS zs r)) := by
  have HS := Lib.hid hs
  have HA := Lib.hid hA
  have HR := Lib.hid hr
  obtain ⟨o, ho⟩ : ∃ o, relOk zs = o := ⟨_, rfl⟩
  obtain ⟨ro, hro⟩ : ∃ ro, rowOk r = ro := ⟨_, rfl⟩
  have HRO := Lib.hid hro
  have HO := Lib.hid ho
  have EG := Lib.hid (show ∀ args w, (callFunc 137 args).run Try.prog w = .ok (.enter 137 args) w from enters_of Try.func137 (by kernel_rfl) rfl)
  clear hs hA hr ho hro
  cases o
  · rw [show mergeS zs r = ([], false) from if_neg (by rw [HO.out]; simp)]
    go_enter Try.func33, Try.ntmps33
    go_wp2_with fail
    generalize hW : w.alloc _ = W0
    obtain ⟨rb, hrb⟩ : ∃ rb, w.heap.size = rb := ⟨_, rfl⟩
    have r0 : W0.cell? ⟨rb, 0, none⟩ = some (.string r.k) := by rw [← hW, ← hrb]; simp [go_sem]
    have r1 : W0.cell? ⟨rb, 1, none⟩ = some (.string r.t) := by rw [← hW, ← hrb]; simp [go_sem]
    have r2 : W0.cell? ⟨rb, 2, none⟩ = some (.int .i64 r.f) := by rw [← hW, ← hrb]; simp [go_sem]
    have r3 : W0.cell? ⟨rb, 3, none⟩ = some (.int .i64 r.e) := by rw [← hW, ← hrb]; simp [go_sem]
    have lrb : rb < W0.heap.size := by rw [← hW, ← hrb]; simp
    have lrb0 : rb ≤ W0.heap.size := Nat.le_of_lt lrb
    have B0 := Lib.hid (show Below rb w W0 from by rw [← hW]; exact (Below.refl _ _).alloc (by omega) _)
    have HZ := Lib.hid (show RowsA W0 A zs from hz.below (by have := B0.out; rw [← hrb] at this; exact this))
    rw [hrb]
    have HRB := Lib.hid hrb
    clear hW hz hrb
    have hq0 : Below W0.heap.size W0 W0 := Below.refl _ _
    go_region_held3 (fun w' => w'.cell? ⟨rb, 0, none⟩ = some (.string r.k) ∧ w'.cell? ⟨rb, 1, none⟩ = some (.string r.t) ∧ w'.cell? ⟨rb, 2, none⟩ = some (.int .i64 r.f) ∧ w'.cell? ⟨rb, 3, none⟩ = some (.int .i64 r.e) ∧ W0.heap.size ≤ w'.heap.size ∧ Below W0.heap.size W0 w')
      (((try go_split_ands); refine ⟨?c0, ?c1, ?c2, ?c3, ?s, ?b⟩; (case c0 => (repeat (first | with_reducible assumption | with_reducible refine cell_below hb (by first | omega | (simp; done) | (simp; omega)) ?_ | with_reducible refine cell_set_far (by first | omega | (simp; done) | (simp; omega)) ?_ | with_reducible exact cell_alloc_swap (by with_reducible assumption) (by first | omega | (simp; done) | (simp; omega)) | with_reducible refine cell_alloc_far ?_ | with_reducible refine cell_drew ?_))); (case c1 => (repeat (first | with_reducible assumption | with_reducible refine cell_below hb (by first | omega | (simp; done) | (simp; omega)) ?_ | with_reducible refine cell_set_far (by first | omega | (simp; done) | (simp; omega)) ?_ | with_reducible exact cell_alloc_swap (by with_reducible assumption) (by first | omega | (simp; done) | (simp; omega)) | with_reducible refine cell_alloc_far ?_ | with_reducible refine cell_drew ?_))); (case c2 => (repeat (first | with_reducible assumption | with_reducible refine cell_below hb (by first | omega | (simp; done) | (simp; omega)) ?_ | with_reducible refine cell_set_far (by first | omega | (simp; done) | (simp; omega)) ?_ | with_reducible exact cell_alloc_swap (by with_reducible assumption) (by first | omega | (simp; done) | (simp; omega)) | with_reducible refine cell_alloc_far ?_ | with_reducible refine cell_drew ?_))); (case c3 => (repeat (first | with_reducible assumption | with_reducible refine cell_below hb (by first | omega | (simp; done) | (simp; omega)) ?_ | with_reducible refine cell_set_far (by first | omega | (simp; done) | (simp; omega)) ?_ | with_reducible exact cell_alloc_swap (by with_reducible assumption) (by first | omega | (simp; done) | (simp; omega)) | with_reducible refine cell_alloc_far ?_ | with_reducible refine cell_drew ?_))); (case s => (first | with_reducible assumption | (have := hb.size; omega) | omega | (simp; done) | (simp; omega) | (have := hb.size; simp at this ⊢; omega))); (case b => (repeat (first | with_reducible assumption | with_reducible exact hq0 | with_reducible refine Below.drew ?_ | with_reducible refine Below.trans ?_ (hb.mono (by first | omega | (simp; done) | (simp; omega))) | with_reducible refine Below.setCell ?_ (by first | omega | (simp; done) | (simp; omega)) _ | with_reducible exact below_alloc_swap (by with_reducible assumption) (by first | omega | (simp; done) | (simp; omega)) | with_reducible refine Below.alloc ?_ (by first | omega | (simp; done) | (simp; omega)) _)))))
      (first
        | (go_at_call 72; refine (rowOkM_val r _ _ HR.out.1 HR.out.2 HRO.out).mono ?_; rintro e w1 ⟨rfl, hb⟩; have hbA := hb; have hsz : W0.heap.size ≤ w1.heap.size := (by have := hb.size; first | omega | (simp at this; omega)); obtain ⟨hc, hf, hlb⟩ := bcell3 hb)
        | (go_at_call 92; refine (removed_any r.k r.f r.e _).mono ?_; rintro e w2 ⟨kb, sb, rfl, kc, sc0, sc1, lk, ls, hb⟩; have hbB := hb; have hsz2 : W0.heap.size ≤ w2.heap.size := (by have := hb.size; first | omega | (simp at this; omega)); obtain ⟨hc2, hf2, hlb2⟩ := bcell3 hb)
        | (go_at_call 89; refine (modified_no A cap zs _ _ _ _ (HZ.out.below (by repeat (first | with_reducible assumption | with_reducible exact hq0 | with_reducible refine Below.drew ?_ | with_reducible refine Below.trans ?_ (hbB.mono (by first | omega | (simp; done) | (simp; omega) | (have h9 := hbA.size; simp at h9; omega))) | with_reducible refine Below.trans ?_ (hbA.mono (by first | omega | (simp; done) | (simp; omega) | (have h9 := hbA.size; simp at h9; omega))) | with_reducible refine Below.alloc ?_ (by first | omega | (simp; done) | (simp; omega) | (have h9 := hbA.size; simp at h9; omega)) _))) hl HS.out HO.out).mono ?_; rintro e w5 ⟨A5, c5, rfl, ho5, hb⟩; have O5 := Lib.hid (owns_baseE (base' := rb) ho5 (by first | omega | (simp; omega))); clear ho5))
    all_goals (go_wp2_with fail)
    all_goals (
      rename_i hHd
      refine bodyPost_ret (v := .tuple #[.slice A5 (([], false) : List RowV × Bool).1.length c5, .bool (([], false) : List RowV × Bool).2]) (by simp [results, Try.results33, go_sem]) rfl ?_
      exact ⟨A5, c5, rfl, by rw [HRB.out]; exact O5.out, by rw [HRB.out]; exact B0.out.trans (hHd.2.2.2.2.2.mono lrb0)⟩)
  · cases ro
    · rw [show mergeS zs r = (zs, false) from by unfold mergeS; rw [if_pos HO.out, if_neg (by rw [HRO.out]; simp)]]
      go_enter Try.func33, Try.ntmps33
      go_wp2_with fail
      generalize hW : w.alloc _ = W0
      obtain ⟨rb, hrb⟩ : ∃ rb, w.heap.size = rb := ⟨_, rfl⟩
      have r0 : W0.cell? ⟨rb, 0, none⟩ = some (.string r.k) := by rw [← hW, ← hrb]; simp [go_sem]
      have r1 : W0.cell? ⟨rb, 1, none⟩ = some (.string r.t) := by rw [← hW, ← hrb]; simp [go_sem]
      have r2 : W0.cell? ⟨rb, 2, none⟩ = some (.int .i64 r.f) := by rw [← hW, ← hrb]; simp [go_sem]
      have r3 : W0.cell? ⟨rb, 3, none⟩ = some (.int .i64 r.e) := by rw [← hW, ← hrb]; simp [go_sem]
      have lrb : rb < W0.heap.size := by rw [← hW, ← hrb]; simp
      have lrb0 : rb ≤ W0.heap.size := Nat.le_of_lt lrb
      have B0 := Lib.hid (show Below rb w W0 from by rw [← hW]; exact (Below.refl _ _).alloc (by omega) _)
      have HZ := Lib.hid (show RowsA W0 A zs from hz.below (by have := B0.out; rw [← hrb] at this; exact this))
      rw [hrb]
      have HRB := Lib.hid hrb
      clear hW hz hrb
      have hq0 : Below W0.heap.size W0 W0 := Below.refl _ _
      go_region_held3 (fun w' => w'.cell? ⟨rb, 0, none⟩ = some (.string r.k) ∧ w'.cell? ⟨rb, 1, none⟩ = some (.string r.t) ∧ w'.cell? ⟨rb, 2, none⟩ = some (.int .i64 r.f) ∧ w'.cell? ⟨rb, 3, none⟩ = some (.int .i64 r.e) ∧ W0.heap.size ≤ w'.heap.size ∧ Below W0.heap.size W0 w')
        (((try go_split_ands); refine ⟨?c0, ?c1, ?c2, ?c3, ?s, ?b⟩; (case c0 => (repeat (first | with_reducible assumption | with_reducible refine cell_below hb (by first | omega | (simp; done) | (simp; omega)) ?_ | with_reducible refine cell_set_far (by first | omega | (simp; done) | (simp; omega)) ?_ | with_reducible exact cell_alloc_swap (by with_reducible assumption) (by first | omega | (simp; done) | (simp; omega)) | with_reducible refine cell_alloc_far ?_ | with_reducible refine cell_drew ?_))); (case c1 => (repeat (first | with_reducible assumption | with_reducible refine cell_below hb (by first | omega | (simp; done) | (simp; omega)) ?_ | with_reducible refine cell_set_far (by first | omega | (simp; done) | (simp; omega)) ?_ | with_reducible exact cell_alloc_swap (by with_reducible assumption) (by first | omega | (simp; done) | (simp; omega)) | with_reducible refine cell_alloc_far ?_ | with_reducible refine cell_drew ?_))); (case c2 => (repeat (first | with_reducible assumption | with_reducible refine cell_below hb (by first | omega | (simp; done) | (simp; omega)) ?_ | with_reducible refine cell_set_far (by first | omega | (simp; done) | (simp; omega)) ?_ | with_reducible exact cell_alloc_swap (by with_reducible assumption) (by first | omega | (simp; done) | (simp; omega)) | with_reducible refine cell_alloc_far ?_ | with_reducible refine cell_drew ?_))); (case c3 => (repeat (first | with_reducible assumption | with_reducible refine cell_below hb (by first | omega | (simp; done) | (simp; omega)) ?_ | with_reducible refine cell_set_far (by first | omega | (simp; done) | (simp; omega)) ?_ | with_reducible exact cell_alloc_swap (by with_reducible assumption) (by first | omega | (simp; done) | (simp; omega)) | with_reducible refine cell_alloc_far ?_ | with_reducible refine cell_drew ?_))); (case s => (first | with_reducible assumption | (have := hb.size; omega) | omega | (simp; done) | (simp; omega) | (have := hb.size; simp at this ⊢; omega))); (case b => (repeat (first | with_reducible assumption | with_reducible exact hq0 | with_reducible refine Below.drew ?_ | with_reducible refine Below.trans ?_ (hb.mono (by first | omega | (simp; done) | (simp; omega))) | with_reducible refine Below.setCell ?_ (by first | omega | (simp; done) | (simp; omega)) _ | with_reducible exact below_alloc_swap (by with_reducible assumption) (by first | omega | (simp; done) | (simp; omega)) | with_reducible refine Below.alloc ?_ (by first | omega | (simp; done) | (simp; omega)) _)))))
        (first
          | (go_at_call 72; refine (rowOkM_val r _ _ HR.out.1 HR.out.2 HRO.out).mono ?_; rintro e w1 ⟨rfl, hb⟩; have hbA := hb; have hsz : W0.heap.size ≤ w1.heap.size := (by have := hb.size; first | omega | (simp at this; omega)); obtain ⟨hc, hf, hlb⟩ := bcell3 hb)
          | (go_at_call 92; refine (removed_any r.k r.f r.e _).mono ?_; rintro e w2 ⟨kb, sb, rfl, kc, sc0, sc1, lk, ls, hb⟩; have hbB := hb; have hsz2 : W0.heap.size ≤ w2.heap.size := (by have := hb.size; first | omega | (simp at this; omega)); obtain ⟨hc2, hf2, hlb2⟩ := bcell3 hb)
          | (go_at_call 89; refine (modified_bad A cap zs _ _ _ (HZ.out.below (by repeat (first | with_reducible assumption | with_reducible exact hq0 | with_reducible refine Below.drew ?_ | with_reducible refine Below.trans ?_ (hbB.mono (by first | omega | (simp; done) | (simp; omega) | (have h9 := hbA.size; simp at h9; omega))) | with_reducible refine Below.trans ?_ (hbA.mono (by first | omega | (simp; done) | (simp; omega) | (have h9 := hbA.size; simp at h9; omega))) | with_reducible refine Below.alloc ?_ (by first | omega | (simp; done) | (simp; omega) | (have h9 := hbA.size; simp at h9; omega)) _))) HA.out HS.out HO.out).mono ?_; rintro e w5 ⟨A5, c5, rfl, ho5, hb⟩; have O5 := Lib.hid (owns_baseE (base' := rb) ho5 (by first | omega | (simp; omega))); clear ho5))
      all_goals (go_wp2_with fail)
      all_goals (
        rename_i hHd
        refine bodyPost_ret (v := .tuple #[.slice A5 ((zs, false) : List RowV × Bool).1.length c5, .bool ((zs, false) : List RowV × Bool).2]) (by simp [results, Try.results33, go_sem]) rfl ?_
        exact ⟨A5, c5, rfl, by rw [HRB.out]; exact O5.out, by rw [HRB.out]; exact B0.out.trans (hHd.2.2.2.2.2.mono lrb0)⟩)
    · have HP := Lib.hid (show ∀ s, Ordered s → s.Perm (zs.flatMap (cutRow r.k r.f r.e) ++ [r]) → changedL s zs = mergeL zs r from fun s h1 h2 => merge_eq HO.out HRO.out h1 h2)
      rw [show mergeS zs r = mergeL zs r from by unfold mergeS; rw [if_pos HO.out, if_pos HRO.out]]
      have hl24 := relOk_len HO.out
      obtain ⟨p, hp⟩ : ∃ p, mergeL zs r = p := ⟨_, rfl⟩
      rw [hp] at HP ⊢
      clear hp
      go_enter Try.func33, Try.ntmps33
      go_wp2_with fail
      generalize hW : w.alloc _ = W0
      obtain ⟨rb, hrb⟩ : ∃ rb, w.heap.size = rb := ⟨_, rfl⟩
      have r0 : W0.cell? ⟨rb, 0, none⟩ = some (.string r.k) := by rw [← hW, ← hrb]; simp [go_sem]
      have r1 : W0.cell? ⟨rb, 1, none⟩ = some (.string r.t) := by rw [← hW, ← hrb]; simp [go_sem]
      have r2 : W0.cell? ⟨rb, 2, none⟩ = some (.int .i64 r.f) := by rw [← hW, ← hrb]; simp [go_sem]
      have r3 : W0.cell? ⟨rb, 3, none⟩ = some (.int .i64 r.e) := by rw [← hW, ← hrb]; simp [go_sem]
      have lrb : rb < W0.heap.size := by rw [← hW, ← hrb]; simp
      have lrb0 : rb ≤ W0.heap.size := Nat.le_of_lt lrb
      have B0 := Lib.hid (show Below rb w W0 from by rw [← hW]; exact (Below.refl _ _).alloc (by omega) _)
      have HZ := Lib.hid (show RowsA W0 A zs from hz.below (by have := B0.out; rw [← hrb] at this; exact this))
      rw [hrb]
      have HRB := Lib.hid hrb
      clear hW hz hrb
      have hq0 : Below W0.heap.size W0 W0 := Below.refl _ _
      go_region_held3 (fun w' => w'.cell? ⟨rb, 0, none⟩ = some (.string r.k) ∧ w'.cell? ⟨rb, 1, none⟩ = some (.string r.t) ∧ w'.cell? ⟨rb, 2, none⟩ = some (.int .i64 r.f) ∧ w'.cell? ⟨rb, 3, none⟩ = some (.int .i64 r.e) ∧ W0.heap.size ≤ w'.heap.size ∧ Below W0.heap.size W0 w')
        (((try go_split_ands); refine ⟨?c0, ?c1, ?c2, ?c3, ?s, ?b⟩; (case c0 => (repeat (first | with_reducible assumption | with_reducible refine cell_below hb (by first | omega | (simp; done) | (simp; omega)) ?_ | with_reducible refine cell_set_far (by first | omega | (simp; done) | (simp; omega)) ?_ | with_reducible exact cell_alloc_swap (by with_reducible assumption) (by first | omega | (simp; done) | (simp; omega)) | with_reducible refine cell_alloc_far ?_ | with_reducible refine cell_drew ?_))); (case c1 => (repeat (first | with_reducible assumption | with_reducible refine cell_below hb (by first | omega | (simp; done) | (simp; omega)) ?_ | with_reducible refine cell_set_far (by first | omega | (simp; done) | (simp; omega)) ?_ | with_reducible exact cell_alloc_swap (by with_reducible assumption) (by first | omega | (simp; done) | (simp; omega)) | with_reducible refine cell_alloc_far ?_ | with_reducible refine cell_drew ?_))); (case c2 => (repeat (first | with_reducible assumption | with_reducible refine cell_below hb (by first | omega | (simp; done) | (simp; omega)) ?_ | with_reducible refine cell_set_far (by first | omega | (simp; done) | (simp; omega)) ?_ | with_reducible exact cell_alloc_swap (by with_reducible assumption) (by first | omega | (simp; done) | (simp; omega)) | with_reducible refine cell_alloc_far ?_ | with_reducible refine cell_drew ?_))); (case c3 => (repeat (first | with_reducible assumption | with_reducible refine cell_below hb (by first | omega | (simp; done) | (simp; omega)) ?_ | with_reducible refine cell_set_far (by first | omega | (simp; done) | (simp; omega)) ?_ | with_reducible exact cell_alloc_swap (by with_reducible assumption) (by first | omega | (simp; done) | (simp; omega)) | with_reducible refine cell_alloc_far ?_ | with_reducible refine cell_drew ?_))); (case s => (first | with_reducible assumption | (have := hb.size; omega) | omega | (simp; done) | (simp; omega) | (have := hb.size; simp at this ⊢; omega))); (case b => (repeat (first | with_reducible assumption | with_reducible exact hq0 | with_reducible refine Below.drew ?_ | with_reducible refine Below.trans ?_ (hb.mono (by first | omega | (simp; done) | (simp; omega))) | with_reducible refine Below.setCell ?_ (by first | omega | (simp; done) | (simp; omega)) _ | with_reducible exact below_alloc_swap (by with_reducible assumption) (by first | omega | (simp; done) | (simp; omega)) | with_reducible refine Below.alloc ?_ (by first | omega | (simp; done) | (simp; omega)) _)))))
        (first
          | (go_at_call 72; refine (rowOkM_val r _ _ HR.out.1 HR.out.2 HRO.out).mono ?_; rintro e w1 ⟨rfl, hb⟩; have hbA := hb; have hsz : W0.heap.size ≤ w1.heap.size := (by have := hb.size; first | omega | (simp at this; omega)); obtain ⟨hc, hf, hlb⟩ := bcell3 hb)
          | (go_at_call 92; refine (removed_any r.k r.f r.e _).mono ?_; rintro e w2 ⟨kb, sb, rfl, kc, sc0, sc1, lk, ls, hb⟩; have hbB := hb; have hsz2 : W0.heap.size ≤ w2.heap.size := (by have := hb.size; first | omega | (simp at this; omega)); obtain ⟨hc2, hf2, hlb2⟩ := bcell3 hb)
          | (go_at_call 89; refine (modified_yes A cap zs 137 _ (cutRow r.k r.f r.e) (fun x => 0 ≤ x.f ∧ x.f < x.e ∧ x.e ≤ 100) _ [r] _ EG.out (HZ.out.below (by repeat (first | with_reducible assumption | with_reducible exact hq0 | with_reducible refine Below.drew ?_ | with_reducible refine Below.trans ?_ (hbB.mono (by first | omega | (simp; done) | (simp; omega) | (have h9 := hbA.size; simp at h9; omega))) | with_reducible refine Below.trans ?_ (hbA.mono (by first | omega | (simp; done) | (simp; omega) | (have h9 := hbA.size; simp at h9; omega))) | with_reducible refine Below.alloc ?_ (by first | omega | (simp; done) | (simp; omega) | (have h9 := hbA.size; simp at h9; omega)) _))) HA.out HS.out HO.out (removed_chg (by repeat (first | with_reducible assumption | (simp; done) | (simp [go_sem]; done) | with_reducible refine cell_drew ?_ | with_reducible refine cell_alloc_far ?_ | with_reducible refine cell_below hbB (by first | omega | (simp; done) | (simp; omega) | (have h9 := hbA.size; simp at h9; omega)) ?_ | with_reducible refine cell_below hbA (by first | omega | (simp; done) | (simp; omega) | (have h9 := hbA.size; simp at h9; omega)) ?_)) (by repeat (first | with_reducible assumption | (simp; done) | (simp [go_sem]; done) | with_reducible refine cell_drew ?_ | with_reducible refine cell_alloc_far ?_ | with_reducible refine cell_below hbB (by first | omega | (simp; done) | (simp; omega) | (have h9 := hbA.size; simp at h9; omega)) ?_ | with_reducible refine cell_below hbA (by first | omega | (simp; done) | (simp; omega) | (have h9 := hbA.size; simp at h9; omega)) ?_)) (by repeat (first | with_reducible assumption | (simp; done) | (simp [go_sem]; done) | with_reducible refine cell_drew ?_ | with_reducible refine cell_alloc_far ?_ | with_reducible refine cell_below hbB (by first | omega | (simp; done) | (simp; omega) | (have h9 := hbA.size; simp at h9; omega)) ?_ | with_reducible refine cell_below hbA (by first | omega | (simp; done) | (simp; omega) | (have h9 := hbA.size; simp at h9; omega)) ?_)) (rowOk_iff.1 HRO.out).2.2) (rel_spans HO.out) (src_one (by repeat (first | with_reducible assumption | (simp; done) | (simp [go_sem]; done) | with_reducible refine cell_drew ?_ | with_reducible refine cell_alloc_far ?_ | with_reducible refine cell_below hbB (by first | omega | (simp; done) | (simp; omega) | (have h9 := hbA.size; simp at h9; omega)) ?_ | with_reducible refine cell_below hbA (by first | omega | (simp; done) | (simp; omega) | (have h9 := hbA.size; simp at h9; omega)) ?_)) (by repeat (first | with_reducible assumption | (simp; done) | (simp [go_sem]; done) | with_reducible refine cell_drew ?_ | with_reducible refine cell_alloc_far ?_ | with_reducible refine cell_below hbB (by first | omega | (simp; done) | (simp; omega) | (have h9 := hbA.size; simp at h9; omega)) ?_ | with_reducible refine cell_below hbA (by first | omega | (simp; done) | (simp; omega) | (have h9 := hbA.size; simp at h9; omega)) ?_)) (by repeat (first | with_reducible assumption | (simp; done) | (simp [go_sem]; done) | with_reducible refine cell_drew ?_ | with_reducible refine cell_alloc_far ?_ | with_reducible refine cell_below hbB (by first | omega | (simp; done) | (simp; omega) | (have h9 := hbA.size; simp at h9; omega)) ?_ | with_reducible refine cell_below hbA (by first | omega | (simp; done) | (simp; omega) | (have h9 := hbA.size; simp at h9; omega)) ?_)) (by repeat (first | with_reducible assumption | (simp; done) | (simp [go_sem]; done) | with_reducible refine cell_drew ?_ | with_reducible refine cell_alloc_far ?_ | with_reducible refine cell_below hbB (by first | omega | (simp; done) | (simp; omega) | (have h9 := hbA.size; simp at h9; omega)) ?_ | with_reducible refine cell_below hbA (by first | omega | (simp; done) | (simp; omega) | (have h9 := hbA.size; simp at h9; omega)) ?_))) (fun x _ => Nat.le_trans (cut_len _ _ _ x) (by omega)) (cutRow_short HS.out) (by simp) (short_one HR.out) _ HP.out).mono ?_; rintro e w5 ⟨A5, c5, rfl, ho5, hb⟩; have O5 := Lib.hid (owns_baseE (base' := rb) ho5 (by first | omega | (simp; omega))); clear ho5))
      all_goals (go_wp2_with fail)
      all_goals (
        rename_i hHd
        refine bodyPost_ret (v := .tuple #[.slice A5 p.1.length c5, .bool p.2]) (by simp [results, Try.results33, go_sem]) rfl ?_
        exact ⟨A5, c5, rfl, by rw [HRB.out]; exact O5.out, by rw [HRB.out]; exact B0.out.trans (hHd.2.2.2.2.2.mono lrb0)⟩)
end Go.Proofs.Ytgclmldhdjmabaa
