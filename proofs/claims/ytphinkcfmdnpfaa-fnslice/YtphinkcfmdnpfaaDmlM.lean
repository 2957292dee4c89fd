/-
  Walks: a table moved: the program and the model.
-/
import Derived.Test.YtphinkcfmdnpfaaDmlL
import Derived.Deep.RegionWith
import Derived.Test.YtphinkcfmdnpfaaDmlI
import Derived.Deep.AppendLies
namespace Go.Proofs.Ytphinkcfmdnpfaa
open Go.Shelf Go.RowKit Go.Lib Go.Sort

def deleteS (zs : List RowV) (key : ByteArray) (a b : Int) : List RowV × Bool := if relOk zs = true then (if (wordB key && okSpan a b) = true then deleteL zs key a b else (zs, false)) else ([], false)
theorem deleteS_len (zs : List RowV) (key : ByteArray) (a b : Int) : (deleteS zs key a b).1.length ≤ 24 := by
  unfold deleteS
  split
  · rename_i h
    split
    · exact fits_len (relOk_len h)
    · exact relOk_len h
  · simp

theorem deleteS_short {zs : List RowV} {key : ByteArray} {a b : Int} (h : Short zs) : Short (deleteS zs key a b).1 := by
  unfold deleteS
  split
  · split
    · exact short_fits (short_cut h) h
    · exact h
  · exact fun y hy => by cases hy

end Go.Proofs.Ytphinkcfmdnpfaa
namespace Go.Proofs.Ytphinkcfmdnpfaa
open Go.Shelf Go.RowKit Go.Lib Go.Sort

theorem src_one {w : World} {g c : Nat} {r : RowV} (h0 : w.cell? ⟨g, 0, none⟩ = some (.string r.k)) (h1 : w.cell? ⟨g, 1, none⟩ = some (.string r.t)) (h2 : w.cell? ⟨g, 2, none⟩ = some (.int .i64 r.f)) (h3 : w.cell? ⟨g, 3, none⟩ = some (.int .i64 r.e)) : ∀ W, Below w.heap.size w W → Src W (.slice (some ⟨g, 0, none⟩) 1 c) [r] := fun W hW => by
  have hg : g < w.heap.size := World.block_lt_of_cell? _ _ h0
  refine .inr ⟨⟨g, 0, none⟩, c, rfl, ?_⟩
  have := newsFour (cellBelow hW hg h0) (cellBelow hW hg h1) (cellBelow hW hg h2) (cellBelow hW hg h3)
  simpa [flatOf, rowC] using this
theorem src_nil (w : World) : ∀ W, Below w.heap.size w W → Src W (.slice none 0 0) [] := fun _ _ => .inl ⟨rfl, rfl⟩
theorem flat_self : ∀ zs : List RowV, zs.flatMap (fun x => [x]) = zs
  | [] => rfl
  | x :: l => by rw [List.flatMap_cons, flat_self l]; rfl
theorem short_one {r : RowV} (h : r.k.size ≤ maxLen ∧ r.t.size ≤ maxLen) : Short [r] := fun y hy => by rw [List.mem_singleton.1 hy]; exact h
theorem short_none : Short [] := fun y hy => by cases hy
theorem cutRow_short {zs : List RowV} (h : Short zs) {key : ByteArray} {a b : Int} : ∀ x ∈ zs, Short (cutRow key a b x) := fun x hx y hy => short_cut (key := key) (a := a) (b := b) h y (List.mem_flatMap.2 ⟨x, hx, hy⟩)
theorem rel_spans {zs : List RowV} (h : relOk zs = true) : ∀ x ∈ zs, 0 ≤ x.f ∧ x.f < x.e ∧ x.e ≤ 100 := fun x hx => (rowOk_iff.1 ((rel_apart h).1 x hx)).2.2

def insertS (zs : List RowV) (r : RowV) : List RowV × Bool := if relOk zs = true then insertL zs r else ([], false)
theorem insert_bad {zs : List RowV} {r : RowV} (h : rowOk r = false) : insertL zs r = (zs, false) := if_neg (by simp [h])
theorem insertS_len (zs : List RowV) (r : RowV) : (insertS zs r).1.length ≤ 24 := by
  unfold insertS
  split
  · rename_i h
    unfold insertL
    split
    · exact fits_len (relOk_len h)
    · exact relOk_len h
  · simp
end Go.Proofs.Ytphinkcfmdnpfaa
namespace Go.Proofs.Ytphinkcfmdnpfaa
open Go.Shelf Go.RowKit Go.Lib Go.Sort

def moveS (zs : List RowV) (n : Int) : List RowV := if relOk zs = true ∧ -99 ≤ n ∧ n ≤ 99 then moveL zs n else []
theorem moveS_len (zs : List RowV) (n : Int) : (moveS zs n).length ≤ 24 := by
  unfold moveS
  split
  · rename_i h
    have := move_len zs n
    have := relOk_len h.1
    omega
  · simp
theorem moveF_eq (n : Int) : ∀ zs : List RowV, zs.flatMap (fun x => (moveRow n x).toList) = moveL zs n
  | [] => rfl
  | x :: l => by
    rw [List.flatMap_cons, moveF_eq n l]
    unfold moveL
    rw [List.filterMap_cons]
    cases moveRow n x <;> rfl
theorem moveRow_yes {n : Int} {x : RowV} (h : mB 0 100 (x.f + n) (x.e + n) = true) : moveRow n x = some ⟨x.k, x.t, mF 0 100 (x.f + n) (x.e + n), mT 0 100 (x.f + n) (x.e + n)⟩ := by
  have h1 : max 0 (x.f + n) < min 100 (x.e + n) := by simpa [mB] using h
  have h2 : max (x.f + n) 0 < min (x.e + n) 100 := by omega
  unfold moveRow
  rw [if_pos h2]
  simp only [mF, mT, if_pos h1]
  congr 2 <;> omega
theorem moveRow_no {n : Int} {x : RowV} (h : mB 0 100 (x.f + n) (x.e + n) = false) : moveRow n x = none := by
  have h1 : ¬ max 0 (x.f + n) < min 100 (x.e + n) := by simpa [mB] using h
  have h2 : ¬ max (x.f + n) 0 < min (x.e + n) 100 := by omega
  unfold moveRow
  rw [if_neg h2]
theorem moveRow_yes2 {n : Int} {x : RowV} (h : mB (x.f + n) (x.e + n) 0 100 = true) : moveRow n x = some ⟨x.k, x.t, max (x.f + n) 0, min (x.e + n) 100⟩ := by
  have h2 : max (x.f + n) 0 < min (x.e + n) 100 := by simpa [mB] using h
  unfold moveRow
  rw [if_pos h2]
theorem moveRow_no2 {n : Int} {x : RowV} (h : mB (x.f + n) (x.e + n) 0 100 = false) : moveRow n x = none := by
  have h2 : ¬ max (x.f + n) 0 < min (x.e + n) 100 := by simpa [mB] using h
  unfold moveRow
  rw [if_neg h2]
theorem move_take {zs : List RowV} {k : Nat} {x : RowV} {n : Int} (hx : zs[k]? = some x) : moveL (zs.take (k + 1)) n = moveL (zs.take k) n ++ (moveRow n x).toList := by
  obtain ⟨hk, hx⟩ := List.getElem?_eq_some_iff.1 hx
  subst hx
  unfold moveL
  rw [List.take_succ_eq_append_getElem hk, List.filterMap_append]
  congr 1

set_option maxHeartbeats 1000000 in
theorem shifted_any (n : Int) (w : World) : Calls Try.prog 83 #[.int .i64 n] w fun e w' => ∃ ab nb : Nat, e = .returned (.func (.func 127) #[] #[.pointer (some ⟨ab, 0, none⟩), .pointer (some ⟨nb, 0, none⟩)]) ∧ w'.cell? ⟨ab, 0, none⟩ = some (.int .i64 0) ∧ w'.cell? ⟨ab, 1, none⟩ = some (.int .i64 100) ∧ w'.cell? ⟨nb, 0, none⟩ = some (.int .i64 n) ∧ Below w.heap.size w w' := by
  go_enter Try.func83, Try.ntmps83
  go_wp2
  go_ret
  exact ⟨w.heap.size + 1, w.heap.size, rfl, by first | (simp; done) | (simp [go_sem]; done), by first | (simp; done) | (simp [go_sem]; done), by first | (simp; done) | (simp [go_sem]; done), by repeat (first | exact Below.refl _ _ | refine Below.alloc ?_ (by simp) _)⟩

set_option maxRecDepth 100000 in
set_option maxHeartbeats 4000000 in
theorem shifted1_any (ab nb : Nat) (n : Int) (x : RowV) (w : World) (a0 : w.cell? ⟨ab, 0, none⟩ = some (.int .i64 0)) (a1 : w.cell? ⟨ab, 1, none⟩ = some (.int .i64 100)) (n0 : w.cell? ⟨nb, 0, none⟩ = some (.int .i64 n)) (hx : 0 ≤ x.f ∧ x.f < x.e ∧ x.e ≤ 100) (hn : -99 ≤ n ∧ n ≤ 99) :
    Calls Try.prog 127 #[.agg #[.string x.k, .string x.t, .int .i64 x.f, .int .i64 x.e], .pointer (some ⟨ab, 0, none⟩), .pointer (some ⟨nb, 0, none⟩)] w (GetsE rowC 4 70 w (moveRow n x).toList) := by
  have la : ab < w.heap.size := World.block_lt_of_cell? _ _ a0
  have ln : nb < w.heap.size := World.block_lt_of_cell? _ _ n0
  obtain ⟨hx0, hx1, hx2⟩ := hx
  obtain ⟨hn0, hn1⟩ := hn
  go_enter Try.func127, Try.ntmps127
  have r0 : (w.alloc (.cells #[.string x.k, .string x.t, .int .i64 x.f, .int .i64 x.e] 70)).cell? ⟨w.heap.size, 0, none⟩ = some (.string x.k) := by simp
  have r1 : (w.alloc (.cells #[.string x.k, .string x.t, .int .i64 x.f, .int .i64 x.e] 70)).cell? ⟨w.heap.size, 1, none⟩ = some (.string x.t) := by simp
  have r2 : (w.alloc (.cells #[.string x.k, .string x.t, .int .i64 x.f, .int .i64 x.e] 70)).cell? ⟨w.heap.size, 2, none⟩ = some (.int .i64 x.f) := by simp
  have r3 : (w.alloc (.cells #[.string x.k, .string x.t, .int .i64 x.f, .int .i64 x.e] 70)).cell? ⟨w.heap.size, 3, none⟩ = some (.int .i64 x.e) := by simp
  replace a0 : (w.alloc (.cells #[.string x.k, .string x.t, .int .i64 x.f, .int .i64 x.e] 70)).cell? ⟨ab, 0, none⟩ = some (.int .i64 0) := (World.cell?_alloc_lt _ _ _ la).trans a0
  replace a1 : (w.alloc (.cells #[.string x.k, .string x.t, .int .i64 x.f, .int .i64 x.e] 70)).cell? ⟨ab, 1, none⟩ = some (.int .i64 100) := (World.cell?_alloc_lt _ _ _ la).trans a1
  replace n0 : (w.alloc (.cells #[.string x.k, .string x.t, .int .i64 x.f, .int .i64 x.e] 70)).cell? ⟨nb, 0, none⟩ = some (.int .i64 n) := (World.cell?_alloc_lt _ _ _ ln).trans n0
  have B0 := Lib.hid ((Below.refl w.heap.size w).alloc (Nat.le_refl _) (.cells #[.string x.k, .string x.t, .int .i64 x.f, .int .i64 x.e] 70))
  have hW : (w.alloc (.cells #[.string x.k, .string x.t, .int .i64 x.f, .int .i64 x.e] 70)).heap.size = w.heap.size + 1 := by simp
  go_wp2_with fail
  refine (meet_any 0 100 (x.f + n) (x.e + n) _).mono ?_
  rintro e w2 ⟨rfl, hb2⟩
  replace r0 := cellBelow hb2 (by omega) r0
  replace r1 := cellBelow hb2 (by omega) r1
  replace r2 := cellBelow hb2 (by omega) r2
  replace r3 := cellBelow hb2 (by omega) r3
  have B2 := Lib.hid (B0.out.trans (hb2.mono (by omega)))
  have lr : w.heap.size < w2.heap.size := by have := hb2.size; omega
  clear hb2 a0 a1 n0 hW B0
  cases hm : mB 0 100 (x.f + n) (x.e + n)
  · have HE := Lib.hid (moveRow_no hm)
    generalize mF 0 100 (x.f + n) (x.e + n) = f9
    generalize mT 0 100 (x.f + n) (x.e + n) = t9
    go_wp2
    go_ret
    rw [HE.out]
    exact getsE_nil _ _ _ (B2.out.alloc (Nat.le_of_lt lr) _)
  · have HE := Lib.hid (moveRow_yes hm)
    clear hm
    generalize mF 0 100 (x.f + n) (x.e + n) = f9 at *
    generalize mT 0 100 (x.f + n) (x.e + n) = t9 at *
    go_wp2_with fail
    refine (during_any x f9 t9 _).mono ?_
    rintro e w4 ⟨rfl, hb4⟩
    have B4 := Lib.hid ((B2.out.alloc (Nat.le_of_lt lr) (.cells #[.int .i64 f9, .int .i64 t9] 29)).trans (hb4.mono (by simp; omega)))
    have hs4 := B4.out.size
    have OL := Lib.hid (World.ownsRow_lit (base := w.heap.size) (e := 70) (size := 4) w4 #[.string x.k, .string x.t, .int .i64 f9, .int .i64 t9] 1 hs4 (by simp [maxLen]) (by simp))
    clear hb4 r0 r1 r2 r3
    go_wp2
    go_ret
    rw [HE.out]
    refine ⟨some ⟨w4.heap.size, 0, none⟩, 1, rfl, ?_, B4.out.alloc hs4 _⟩
    have := OL.out
    simpa [flatOf, rowC] using this

theorem shifted_chg {ab nb : Nat} {n : Int} {w : World} (a0 : w.cell? ⟨ab, 0, none⟩ = some (.int .i64 0)) (a1 : w.cell? ⟨ab, 1, none⟩ = some (.int .i64 100)) (n0 : w.cell? ⟨nb, 0, none⟩ = some (.int .i64 n)) (hn : -99 ≤ n ∧ n ≤ 99) :
    Chg 127 #[.pointer (some ⟨ab, 0, none⟩), .pointer (some ⟨nb, 0, none⟩)] (fun x => (moveRow n x).toList) (fun x => 0 ≤ x.f ∧ x.f < x.e ∧ x.e ≤ 100) w := fun W x hW hx =>
  shifted1_any ab nb n x W (cellBelow hW (World.block_lt_of_cell? _ _ a0) a0) (cellBelow hW (World.block_lt_of_cell? _ _ a1) a1) (cellBelow hW (World.block_lt_of_cell? _ _ n0) n0) hx hn
theorem moveF_len (n : Int) (x : RowV) : (moveRow n x).toList.length ≤ 3 := by cases moveRow n x <;> simp
theorem moveF_short {zs : List RowV} {n : Int} (h : Short zs) : ∀ x ∈ zs, Short (moveRow n x).toList := fun x hx y hy => by
  cases hm : moveRow n x with
  | none => rw [hm] at hy; cases hy
  | some z =>
    rw [hm] at hy
    have : y = z := by simpa using hy
    subst this
    obtain ⟨e1, e2, _⟩ := move_in hm
    rw [e1, e2]
    exact h x hx

set_option maxRecDepth 100000 in
set_option maxHeartbeats 4000000 in
theorem RelMove_any (A : Option Addr) (cap : Nat) (zs : List RowV) (n : Int) (w : World) (hz : RowsA w A zs) (hl : zs.length ≤ 1048577) (hs : Short zs) :
    Calls Try.prog 29 #[.slice A zs.length cap, .int .i64 n] w (GetsE rowC 4 70 w (moveS zs n)) := by
  have HS := Lib.hid hs
  have HZ := Lib.hid hz
  obtain ⟨o, ho⟩ : ∃ o, relOk zs = o := ⟨_, rfl⟩
  have HO := Lib.hid ho
  have EG := Lib.hid (show ∀ args w, (callFunc 127 args).run Try.prog w = .ok (.enter 127 args) w from enters_of Try.func127 (by kernel_rfl) rfl)
  clear hs hz ho
  go_enter Try.func29, Try.ntmps29
  go_wp2_with fail
  refine (RelOk_any A cap zs w HZ.out hl HS.out).mono ?_
  rintro e w1 ⟨rfl, hb1⟩
  rw [HO.out]
  have B1 := Lib.hid hb1
  clear hb1
  cases o
  · have HE := Lib.hid (show moveS zs n = [] from if_neg (by rw [HO.out]; simp))
    go_wp2
    go_ret
    rw [HE.out]
    exact getsE_nil _ _ _ B1.out
  · have hl24 := relOk_len HO.out
    by_cases h1 : n < -99
    · have HE := Lib.hid (show moveS zs n = [] from if_neg (by omega))
      go_wp2
      go_ret
      rw [HE.out]
      exact getsE_nil _ _ _ B1.out
    · by_cases h2 : 99 < n
      · have HE := Lib.hid (show moveS zs n = [] from if_neg (by omega))
        go_wp2
        go_ret
        rw [HE.out]
        exact getsE_nil _ _ _ B1.out
      · have HE := Lib.hid (show moveS zs n = moveL zs n from if_pos ⟨HO.out, by omega, by omega⟩)
        have hs1 := B1.out.size
        go_wp2_with fail
        refine (shifted_any n _).mono ?_
        rintro e w2 ⟨ab, nb, rfl, a0, a1, n0, hb2⟩
        have HC := Lib.hid (shifted_chg a0 a1 n0 ⟨by omega, by omega⟩)
        have Z2 := Lib.hid ((HZ.out.below B1.out).below hb2)
        have B2 := Lib.hid (B1.out.trans (hb2.mono hs1))
        have hs2 := B2.out.size
        clear hb2 a0 a1 n0
        go_wp2_with fail
        refine (changed_any A cap zs 127 _ (fun x => (moveRow n x).toList) (fun x => 0 ≤ x.f ∧ x.f < x.e ∧ x.e ≤ 100) _ [] w2 EG.out Z2.out hl24 HC.out (rel_spans HO.out) (src_nil w2) (fun x _ => moveF_len n x) (moveF_short HS.out) (by simp) short_none).mono ?_
        rintro e w3 ⟨s, hord, hperm, A3, c3, rfl, ho3, hb3⟩
        have HT := Lib.hid (show (tableP s).1 = moveL zs n from (tableP_L s).trans (move_eq HO.out hord (by rwa [List.append_nil, moveF_eq] at hperm)))
        have O3 := Lib.hid (owns_baseE ho3 hs2)
        have B3 := Lib.hid (B2.out.trans (hb3.mono hs2))
        clear ho3 hb3 hord hperm HC
        generalize (tableP s).1 = tl at *
        generalize (tableP s).2 = tb at *
        go_wp2
        go_ret
        rw [HE.out, ← HT.out]
        exact ⟨A3, c3, rfl, O3.out, B3.out⟩

def AtOneM (wr : World) (x1 x2 y1 y2 : Int) (s8 s9 : Value) (wx : World) : Prop :=
  ∃ g' : Nat, s8 = .pointer (some ⟨g', 0, none⟩) ∧ s9 = .bool (mB x1 x2 y1 y2) ∧ wx.cell? ⟨g', 0, none⟩ = some (.int .i64 (max x1 y1)) ∧ wx.cell? ⟨g', 1, none⟩ = some (.int .i64 (min x2 y2)) ∧ wr.heap.size ≤ g' ∧ Below wr.heap.size wr wx

end Go.Proofs.Ytphinkcfmdnpfaa
