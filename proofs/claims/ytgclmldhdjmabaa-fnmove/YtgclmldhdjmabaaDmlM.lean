/-
  Walks: a table moved: the program and the model.
-/
import Derived.Test.YtgclmldhdjmabaaDmlA
import Derived.Deep.AppendLies
namespace Go.Proofs.Ytgclmldhdjmabaa
open Go.Shelf Go.RowKit Go.Lib Go.Sort

def moveS (zs : List RowV) (n : Int) : List RowV := if relOk zs = true ∧ -99 ≤ n ∧ n ≤ 99 then moveL zs n else []
theorem moveS_len (zs : List RowV) (n : Int) : (moveS zs n).length ≤ 24 := by
  unfold moveS
  split
  · rename_i h
    have := move_len zs n
    have := relOk_len h.1
    omega
  · simp
theorem moveF_eq (n : Int) : ∀ zs : List RowV, zs.flatMap (fun x => (moveRow n x).toList) = moveL zs n
  | [] => rfl
  | x :: l => by
    rw [List.flatMap_cons, moveF_eq n l]
    unfold moveL
    rw [List.filterMap_cons]
    cases moveRow n x <;> rfl
theorem moveRow_yes {n : Int} {x : RowV} (h : mB 0 100 (x.f + n) (x.e + n) = true) : moveRow n x = some ⟨x.k, x.t, mF 0 100 (x.f + n) (x.e + n), mT 0 100 (x.f + n) (x.e + n)⟩ := by
  have h1 : max 0 (x.f + n) < min 100 (x.e + n) := by simpa [mB] using h
  have h2 : max (x.f + n) 0 < min (x.e + n) 100 := by omega
  unfold moveRow
  rw [if_pos h2]
  simp only [mF, mT, if_pos h1]
  congr 2 <;> omega
theorem moveRow_no {n : Int} {x : RowV} (h : mB 0 100 (x.f + n) (x.e + n) = false) : moveRow n x = none := by
  have h1 : ¬ max 0 (x.f + n) < min 100 (x.e + n) := by simpa [mB] using h
  have h2 : ¬ max (x.f + n) 0 < min (x.e + n) 100 := by omega
  unfold moveRow
  rw [if_neg h2]
theorem moveRow_yes2 {n : Int} {x : RowV} (h : mB (x.f + n) (x.e + n) 0 100 = true) : moveRow n x = some ⟨x.k, x.t, max (x.f + n) 0, min (x.e + n) 100⟩ := by
  have h2 : max (x.f + n) 0 < min (x.e + n) 100 := by simpa [mB] using h
  unfold moveRow
  rw [if_pos h2]
theorem moveRow_no2 {n : Int} {x : RowV} (h : mB (x.f + n) (x.e + n) 0 100 = false) : moveRow n x = none := by
  have h2 : ¬ max (x.f + n) 0 < min (x.e + n) 100 := by simpa [mB] using h
  unfold moveRow
  rw [if_neg h2]
theorem move_take {zs : List RowV} {k : Nat} {x : RowV} {n : Int} (hx : zs[k]? = some x) : moveL (zs.take (k + 1)) n = moveL (zs.take k) n ++ (moveRow n x).toList := by
  obtain ⟨hk, hx⟩ := List.getElem?_eq_some_iff.1 hx
  subst hx
  unfold moveL
  rw [List.take_succ_eq_append_getElem hk, List.filterMap_append]
  congr 1

set_option maxHeartbeats 1000000 in
theorem shifted_any (n : Int) (w : World) : Calls Try.prog 86 #[.int .i64 n] w fun e w' => ∃ ab nb : Nat, e = .returned (.func (.func 132) #[] #[.pointer (some ⟨ab, 0, none⟩), .pointer (some ⟨nb, 0, none⟩)]) ∧ w'.cell? ⟨ab, 0, none⟩ = some (.int .i64 0) ∧ w'.cell? ⟨ab, 1, none⟩ = some (.int .i64 100) ∧ w'.cell? ⟨nb, 0, none⟩ = some (.int .i64 n) ∧ Below w.heap.size w w' := by
  go_enter Try.func86, Try.ntmps86
  go_wp2
  go_ret
  exact ⟨w.heap.size + 1, w.heap.size, rfl, by first | (simp; done) | (simp [go_sem]; done), by first | (simp; done) | (simp [go_sem]; done), by first | (simp; done) | (simp [go_sem]; done), by repeat (first | exact Below.refl _ _ | refine Below.alloc ?_ (by simp) _)⟩

set_option maxRecDepth 100000 in
set_option maxHeartbeats 4000000 in
theorem shifted1_any (ab nb : Nat) (n : Int) (x : RowV) (w : World) (a0 : w.cell? ⟨ab, 0, none⟩ = some (.int .i64 0)) (a1 : w.cell? ⟨ab, 1, none⟩ = some (.int .i64 100)) (n0 : w.cell? ⟨nb, 0, none⟩ = some (.int .i64 n)) (hx : 0 ≤ x.f ∧ x.f < x.e ∧ x.e ≤ 100) (hn : -99 ≤ n ∧ n ≤ 99) :
    Calls Try.prog 132 #[.agg #[.string x.k, .string x.t, .int .i64 x.f, .int .i64 x.e], .pointer (some ⟨ab, 0, none⟩), .pointer (some ⟨nb, 0, none⟩)] w (GetsE rowC 4 34 w (moveRow n x).toList) := by
  have la : ab < w.heap.size := World.block_lt_of_cell? _ _ a0
  have ln : nb < w.heap.size := World.block_lt_of_cell? _ _ n0
  obtain ⟨hx0, hx1, hx2⟩ := hx
  obtain ⟨hn0, hn1⟩ := hn
  go_enter Try.func132, Try.ntmps132
  have r0 : (w.alloc (.cells #[.string x.k, .string x.t, .int .i64 x.f, .int .i64 x.e] 34)).cell? ⟨w.heap.size, 0, none⟩ = some (.string x.k) := by simp
  have r1 : (w.alloc (.cells #[.string x.k, .string x.t, .int .i64 x.f, .int .i64 x.e] 34)).cell? ⟨w.heap.size, 1, none⟩ = some (.string x.t) := by simp
  have r2 : (w.alloc (.cells #[.string x.k, .string x.t, .int .i64 x.f, .int .i64 x.e] 34)).cell? ⟨w.heap.size, 2, none⟩ = some (.int .i64 x.f) := by simp
  have r3 : (w.alloc (.cells #[.string x.k, .string x.t, .int .i64 x.f, .int .i64 x.e] 34)).cell? ⟨w.heap.size, 3, none⟩ = some (.int .i64 x.e) := by simp
  replace a0 : (w.alloc (.cells #[.string x.k, .string x.t, .int .i64 x.f, .int .i64 x.e] 34)).cell? ⟨ab, 0, none⟩ = some (.int .i64 0) := (World.cell?_alloc_lt _ _ _ la).trans a0
  replace a1 : (w.alloc (.cells #[.string x.k, .string x.t, .int .i64 x.f, .int .i64 x.e] 34)).cell? ⟨ab, 1, none⟩ = some (.int .i64 100) := (World.cell?_alloc_lt _ _ _ la).trans a1
  replace n0 : (w.alloc (.cells #[.string x.k, .string x.t, .int .i64 x.f, .int .i64 x.e] 34)).cell? ⟨nb, 0, none⟩ = some (.int .i64 n) := (World.cell?_alloc_lt _ _ _ ln).trans n0
  have B0 := Lib.hid ((Below.refl w.heap.size w).alloc (Nat.le_refl _) (.cells #[.string x.k, .string x.t, .int .i64 x.f, .int .i64 x.e] 34))
  have hW : (w.alloc (.cells #[.string x.k, .string x.t, .int .i64 x.f, .int .i64 x.e] 34)).heap.size = w.heap.size + 1 := by simp
  go_wp2_with fail
  refine (meet_any 0 100 (x.f + n) (x.e + n) _).mono ?_
  rintro e w2 ⟨rfl, hb2⟩
  replace r0 := cellBelow hb2 (by omega) r0
  replace r1 := cellBelow hb2 (by omega) r1
  replace r2 := cellBelow hb2 (by omega) r2
  replace r3 := cellBelow hb2 (by omega) r3
  have B2 := Lib.hid (B0.out.trans (hb2.mono (by omega)))
  have lr : w.heap.size < w2.heap.size := by have := hb2.size; omega
  clear hb2 a0 a1 n0 hW B0
  cases hm : mB 0 100 (x.f + n) (x.e + n)
  · have HE := Lib.hid (moveRow_no hm)
    generalize mF 0 100 (x.f + n) (x.e + n) = f9
    generalize mT 0 100 (x.f + n) (x.e + n) = t9
    go_wp2
    go_ret
    rw [HE.out]
    exact getsE_nil _ _ _ (B2.out.alloc (Nat.le_of_lt lr) _)
  · have HE := Lib.hid (moveRow_yes hm)
    clear hm
    generalize mF 0 100 (x.f + n) (x.e + n) = f9 at *
    generalize mT 0 100 (x.f + n) (x.e + n) = t9 at *
    go_wp2_with fail
    refine (during_any x f9 t9 _).mono ?_
    rintro e w4 ⟨rfl, hb4⟩
    have B4 := Lib.hid ((B2.out.alloc (Nat.le_of_lt lr) (.cells #[.int .i64 f9, .int .i64 t9] 32)).trans (hb4.mono (by simp; omega)))
    have hs4 := B4.out.size
    have OL := Lib.hid (World.ownsRow_lit (base := w.heap.size) (e := 34) (size := 4) w4 #[.string x.k, .string x.t, .int .i64 f9, .int .i64 t9] 1 hs4 (by simp [maxLen]) (by simp))
    clear hb4 r0 r1 r2 r3
    go_wp2
    go_ret
    rw [HE.out]
    refine ⟨some ⟨w4.heap.size, 0, none⟩, 1, rfl, ?_, B4.out.alloc hs4 _⟩
    have := OL.out
    simpa [flatOf, rowC] using this

theorem shifted_chg {ab nb : Nat} {n : Int} {w : World} (a0 : w.cell? ⟨ab, 0, none⟩ = some (.int .i64 0)) (a1 : w.cell? ⟨ab, 1, none⟩ = some (.int .i64 100)) (n0 : w.cell? ⟨nb, 0, none⟩ = some (.int .i64 n)) (hn : -99 ≤ n ∧ n ≤ 99) :
    Chg 132 #[.pointer (some ⟨ab, 0, none⟩), .pointer (some ⟨nb, 0, none⟩)] (fun x => (moveRow n x).toList) (fun x => 0 ≤ x.f ∧ x.f < x.e ∧ x.e ≤ 100) w := fun W x hW hx =>
  shifted1_any ab nb n x W (cellBelow hW (World.block_lt_of_cell? _ _ a0) a0) (cellBelow hW (World.block_lt_of_cell? _ _ a1) a1) (cellBelow hW (World.block_lt_of_cell? _ _ n0) n0) hx hn
theorem moveF_len (n : Int) (x : RowV) : (moveRow n x).toList.length ≤ 3 := by cases moveRow n x <;> simp
theorem moveF_short {zs : List RowV} {n : Int} (h : Short zs) : ∀ x ∈ zs, Short (moveRow n x).toList := fun x hx y hy => by
  cases hm : moveRow n x with
  | none => rw [hm] at hy; cases hy
  | some z =>
    rw [hm] at hy
    have : y = z := by simpa using hy
    subst this
    obtain ⟨e1, e2, _⟩ := move_in hm
    rw [e1, e2]
    exact h x hx

set_option maxRecDepth 100000 in
set_option maxHeartbeats 4000000 in
theorem RelMove_any (A : Option Addr) (cap : Nat) (zs : List RowV) (n : Int) (w : World) (hz : RowsA w A zs) (hl : zs.length ≤ 1048577) (hs : Short zs) :
    Calls Try.prog 26 #[.slice A zs.length cap, .int .i64 n] w (GetsE rowC 4 34 w (moveS zs n)) := by
  have HS := Lib.hid hs
  have HZ := Lib.hid hz
  obtain ⟨o, ho⟩ : ∃ o, relOk zs = o := ⟨_, rfl⟩
  have HO := Lib.hid ho
  have EG := Lib.hid (show ∀ args w, (callFunc 132 args).run Try.prog w = .ok (.enter 132 args) w from enters_of Try.func132 (by kernel_rfl) rfl)
  clear hs hz ho
  go_enter Try.func26, Try.ntmps26
  go_wp2_with fail
  refine (RelOk_any A cap zs w HZ.out hl HS.out).mono ?_
  rintro e w1 ⟨rfl, hb1⟩
  rw [HO.out]
  have B1 := Lib.hid hb1
  clear hb1
  cases o
  · have HE := Lib.hid (show moveS zs n = [] from if_neg (by rw [HO.out]; simp))
    go_wp2
    go_ret
    rw [HE.out]
    exact getsE_nil _ _ _ B1.out
  · have hl24 := relOk_len HO.out
    by_cases h1 : n < -99
    · have HE := Lib.hid (show moveS zs n = [] from if_neg (by omega))
      go_wp2
      go_ret
      rw [HE.out]
      exact getsE_nil _ _ _ B1.out
    · by_cases h2 : 99 < n
      · have HE := Lib.hid (show moveS zs n = [] from if_neg (by omega))
        go_wp2
        go_ret
        rw [HE.out]
        exact getsE_nil _ _ _ B1.out
      · have HE := Lib.hid (show moveS zs n = moveL zs n from if_pos ⟨HO.out, by omega, by omega⟩)
        have hs1 := B1.out.size
        go_wp2_with fail
        refine (shifted_any n _).mono ?_
        rintro e w2 ⟨ab, nb, rfl, a0, a1, n0, hb2⟩
        have HC := Lib.hid (shifted_chg a0 a1 n0 ⟨by omega, by omega⟩)
        have Z2 := Lib.hid ((HZ.out.below B1.out).below hb2)
        have B2 := Lib.hid (B1.out.trans (hb2.mono hs1))
        have hs2 := B2.out.size
        clear hb2 a0 a1 n0
        go_wp2_with fail
        refine (changed_any A cap zs 132 _ (fun x => (moveRow n x).toList) (fun x => 0 ≤ x.f ∧ x.f < x.e ∧ x.e ≤ 100) _ [] w2 EG.out Z2.out hl24 HC.out (rel_spans HO.out) (src_nil w2) (fun x _ => moveF_len n x) (moveF_short HS.out) (by simp) short_none).mono ?_
        rintro e w3 ⟨s, hord, hperm, A3, c3, rfl, ho3, hb3⟩
        have HT := Lib.hid (show (tableP s).1 = moveL zs n from (tableP_L s).trans (move_eq HO.out hord (by rwa [List.append_nil, moveF_eq] at hperm)))
        have O3 := Lib.hid (owns_baseE ho3 hs2)
        have B3 := Lib.hid (B2.out.trans (hb3.mono hs2))
        clear ho3 hb3 hord hperm HC
        generalize (tableP s).1 = tl at *
        generalize (tableP s).2 = tb at *
        go_wp2
        go_ret
        rw [HE.out, ← HT.out]
        exact ⟨A3, c3, rfl, O3.out, B3.out⟩

def AtOneM (wr : World) (x1 x2 y1 y2 : Int) (s8 s9 : Value) (wx : World) : Prop :=
  ∃ g' : Nat, s8 = .pointer (some ⟨g', 0, none⟩) ∧ s9 = .bool (mB x1 x2 y1 y2) ∧ wx.cell? ⟨g', 0, none⟩ = some (.int .i64 (max x1 y1)) ∧ wx.cell? ⟨g', 1, none⟩ = some (.int .i64 (min x2 y2)) ∧ wr.heap.size ≤ g' ∧ Below wr.heap.size wr wx

set_option maxRecDepth 100000 in
set_option maxHeartbeats 4000000 in
theorem sRelMove_any (A : Option Addr) (cap : Nat) (zs : List RowV) (n : Int) (w : World) (hz : RowsA w A zs) (hl : zs.length ≤ 1048577) (hs : Short zs) :
    Calls Try.prog 27 #[.slice A zs.length cap, .int .i64 n] w (GetsE rowC 4 34 w (moveS zs n)) := by
  obtain ⟨i0, hi, hz0, hz1, hz2⟩ := info_parts Try.infoR34
  have Hi := Lib.hid hi
  have Hz0 := Lib.hid hz0
  have Hz1 := Lib.hid hz1
  have Hz2 := Lib.hid hz2
  clear hi hz0 hz1 hz2
  have HS := Lib.hid hs
  have HZ := Lib.hid hz
  obtain ⟨o, ho⟩ : ∃ o, relOk zs = o := ⟨_, rfl⟩
  have HO := Lib.hid ho
  clear hs hz ho
  go_enter Try.func27, Try.ntmps27
  go_wp2_with fail
  have OL := Lib.hid (World.ownsRow_lit (base := w.heap.size) (e := 34) (size := 4) w #[] 0 (Nat.le_refl _) (by simp [maxLen]) (by simp))
  have B0 := Lib.hid ((Below.refl w.heap.size w).alloc (Nat.le_refl _) (.cells #[] 34))
  refine (l2Ok_any A cap zs _ (HZ.out.below B0.out) hl HS.out).mono ?_
  rintro e w1 ⟨rfl, hb1⟩
  rw [HO.out]
  have O1 := Lib.hid (ownsKeep OL.out hb1)
  have B1 := Lib.hid (B0.out.trans (hb1.mono (by simp)))
  clear hb1 OL B0
  cases o
  · have HE := Lib.hid (show moveS zs n = [] from if_neg (by rw [HO.out]; simp))
    go_wp2
    go_ret
    rw [HE.out]
    exact getsE_nil _ _ _ B1.out
  · have hl24 := relOk_len HO.out
    go_wp2_with fail
    refine (in_any n (-99) 99 _).mono ?_
    rintro e w2 ⟨rfl, rfl⟩
    obtain ⟨iv, hiv⟩ : ∃ iv, inB n (-99) 99 = iv := ⟨_, rfl⟩
    rw [hiv]
    cases iv
    · have h2 : ¬ (-99 ≤ n ∧ n ≤ 99) := by simpa [inB] using hiv
      have HE := Lib.hid (show moveS zs n = [] from if_neg (fun h => h2 h.2))
      clear hiv h2
      go_wp2
      go_ret
      rw [HE.out]
      exact getsE_nil _ _ _ B1.out
    · have h2 : -99 ≤ n ∧ n ≤ 99 := by simpa [inB] using hiv
      obtain ⟨hn0, hn1⟩ := h2
      have HE := Lib.hid (show moveS zs n = moveL zs n from if_pos ⟨HO.out, hn0, hn1⟩)
      have HSp := Lib.hid (rel_spans HO.out)
      clear hiv
      go_wp2
      go_loopw [5, 6] (fun v i wr => ∃ k : Nat, k ≤ zs.length ∧ i = .int .i64 k ∧ wr.ownsRow w.heap.size 34 4 v (moveL (zs.take k) n).length (flatOf rowC (moveL (zs.take k) n)) ∧ Below w.heap.size w wr) (fun _ i _ => zs.length - (intOf i).toNat)
      case atStart => exact ⟨0, Nat.zero_le _, rfl, by simpa [flatOf, moveL] using O1.out, B1.out⟩
      case round =>
        obtain ⟨k, hk, rfl, hown, hbr⟩ := hrel
        have hs5 := hbr.size
        by_cases hlt : k < zs.length
        · obtain ⟨b0, off, x, rfl, hbW, hx, d0, d1, d2, d3⟩ := HZ.out.at_ hlt
          have HT := Lib.hid (move_take (n := n) hx)
          obtain ⟨hx0, hx1, hx2⟩ := HSp.out x (List.mem_of_getElem? hx)
          have hlo := move_len (zs.take k) n
          rw [List.length_take] at hlo
          obtain ⟨oo, hoo⟩ : ∃ oo, moveL (zs.take k) n = oo := ⟨_, rfl⟩
          rw [hoo] at hown HT hlo
          have Hown := Lib.hid hown
          have c0 := cellBelow hbr hbW d0
          have c1 := cellBelow hbr hbW d1
          have c2 := cellBelow hbr hbW d2
          have c3 := cellBelow hbr hbW d3
          have hb0 : b0 < wr.heap.size := by omega
          have hkz : (k : Int) < (zs.length : Int) := by omega
          have hkz0 : (0 : Int) ≤ (k : Int) := by omega
          have hq0 : Below wr.heap.size wr wr := Below.refl _ _
          have hw1 : IntKind.i64.wrap (x.f + n) = x.f + n := by rw [IntKind.wrap_i64]; omega
          have hw2 : IntKind.i64.wrap (x.e + n) = x.e + n := by rw [IntKind.wrap_i64]; omega
          clear hx hoo hown d0 d1 d2 d3
          go_upto_region 7 with fail
          go_cut [7, 8] (fun s7 s8 wx => AtOneM wr (x.f + n) (x.e + n) 0 100 s7 s8 wx)
          case first =>
            go_region_held3 (fun w' => w'.cell? ⟨b0, off + k * 4 + 2, none⟩ = some (.int .i64 x.f) ∧ w'.cell? ⟨b0, off + k * 4 + 3, none⟩ = some (.int .i64 x.e) ∧ wr.heap.size ≤ w'.heap.size ∧ Below wr.heap.size wr w')
              (((try go_split_ands); refine ⟨?c0, ?c1, ?s, ?b⟩; (case c0 => (repeat (first | with_reducible assumption | with_reducible refine cell_below hb (by first | omega | (simp; done) | (simp; omega)) ?_ | with_reducible refine cell_set_far (by first | omega | (simp; done) | (simp; omega)) ?_ | with_reducible exact cell_alloc_swap (by with_reducible assumption) (by first | omega | (simp; done) | (simp; omega)) | with_reducible refine cell_alloc_far ?_ | with_reducible refine cell_drew ?_))); (case c1 => (repeat (first | with_reducible assumption | with_reducible refine cell_below hb (by first | omega | (simp; done) | (simp; omega)) ?_ | with_reducible refine cell_set_far (by first | omega | (simp; done) | (simp; omega)) ?_ | with_reducible exact cell_alloc_swap (by with_reducible assumption) (by first | omega | (simp; done) | (simp; omega)) | with_reducible refine cell_alloc_far ?_ | with_reducible refine cell_drew ?_))); (case s => (first | with_reducible assumption | (have := hb.size; omega) | omega | (simp; done) | (simp; omega) | (have := hb.size; simp at this ⊢; omega))); (case b => (repeat (first | with_reducible assumption | with_reducible exact hq0 | with_reducible refine Below.drew ?_ | with_reducible refine Below.trans ?_ (hb.mono (by first | omega | (simp; done) | (simp; omega))) | with_reducible refine Below.setCell ?_ (by first | omega | (simp; done) | (simp; omega)) _ | with_reducible exact below_alloc_swap (by with_reducible assumption) (by first | omega | (simp; done) | (simp; omega)) | with_reducible refine Below.alloc ?_ (by first | omega | (simp; done) | (simp; omega)) _)))))
              ((go_at_call 88; refine (l1Meet_any _ _ _ _ _).mono ?_; rintro e w1 ⟨rfl, hb⟩; have hsz : wr.heap.size ≤ w1.heap.size := (by have := hb.size; first | omega | (simp at this; omega)); obtain ⟨hc, hf, hlb⟩ := bcell3 hb; (try (have hz2 : wr.heap.size < w1.heap.size := (by have := hb.size; first | omega | (simp at this; omega))))))
            all_goals (go_wp2_with fail; go_meet; unfold AtOneM; rename_i hH; obtain ⟨z0, z1, z2, z3⟩ := hH; refine ⟨_, rfl, by first | rfl | (rw [hw1, hw2]), ?_, ?_, ?_, z3⟩)
            any_goals (first | omega | (simp; omega) | (go_simp; done) | (simp (maxDischargeDepth := 6) [*, go_sem]; done))
            all_goals go_show
          case rest =>
            obtain ⟨g', rfl, rfl, k0, k1, hgg, hbM⟩ := hcut
            have OM := Lib.hid (ownsKeep Hown.out hbM)
            have BM := Lib.hid (hbr.trans (hbM.mono hbr.size))
            replace c0 := cellBelow hbM hb0 c0
            replace c1 := cellBelow hbM hb0 c1
            have hb2 : b0 < wc.heap.size := Nat.lt_of_lt_of_le hb0 hbM.size
            have hsM := BM.out.size
            have ab : u5.ownBlock ≠ some b0 := fun e => by have := (Hown.out.lt b0 e).1; omega
            have ag : u5.ownBlock ≠ some g' := fun e => by have := (Hown.out.lt g' e).2; omega
            have hg2 : g' < wc.heap.size := World.block_lt_of_cell? _ _ k0
            clear hbM hbr hq0 c2 c3 Hown
            cases hm : mB (x.f + n) (x.e + n) 0 100
            · rw [moveRow_no2 hm] at HT
              have HT2 := Lib.hid (show moveL (zs.take (k + 1)) n = oo from by rw [HT.out]; simp)
              go_wp2
              go_roundw
              case rel => exact ⟨k + 1, by omega, by go_num, by rw [HT2.out]; exact OM.out, BM.out⟩
              case measure => simp [intOf]; omega
            · rw [moveRow_yes2 hm] at HT
              have HT2 := Lib.hid (show moveL (zs.take (k + 1)) n = oo ++ [⟨x.k, x.t, max (x.f + n) 0, min (x.e + n) 100⟩] from by rw [HT.out]; rfl)
              clear HT
              generalize max (x.f + n) 0 = f9 at *
              generalize min (x.e + n) 100 = t9 at *
              go_wp2_with fail
              go_region_held3 (fun w' => w'.cell? ⟨b0, off + k * 4, none⟩ = some (.string x.k) ∧ w'.cell? ⟨b0, off + k * 4 + 1, none⟩ = some (.string x.t) ∧ w'.cell? ⟨g', 0, none⟩ = some (.int .i64 f9) ∧ w'.cell? ⟨g', 1, none⟩ = some (.int .i64 t9))
                (first
                  | go_keep
                  | (go_split_ands
                     refine ⟨?_, ?_, ?_, ?_⟩
                     · (rw [hgrow.cell_far _ (by simp; omega) (Ne.symm ab)]; assumption)
                     · (rw [hgrow.cell_far _ (by simp; omega) (Ne.symm ab)]; assumption)
                     · (rw [hgrow.cell_far _ (by simp; omega) (Ne.symm ag)]; assumption)
                     · (rw [hgrow.cell_far _ (by simp; omega) (Ne.symm ag)]; assumption)))
                ((refine step_append_lies _ (by rfl) _ _ _ (by rfl) w.heap.size 34 i0 _ 4 48 Try.underlying23 Hi.out Hz0.out Hz1.out Hz2.out rfl (by omega) u5 oo.length (flatOf rowC oo) (by rfl) ((OM.out.alloc _).drew)
                    ⟨wc.heap.size, 0, none⟩ 1 1 [.string x.k, .string x.t, .int .i64 f9, .int .i64 t9] (by rfl) (by rfl) (World.news_of_block (cs := #[.string x.k, .string x.t, .int .i64 f9, .int .i64 t9]) (t := 34) (fr := (0, 0)) (heap_alloc_new wc _)) (by simp [Value.oneCell'])
                    (by omega) (by unfold maxLen; omega) (by omega) (by simp; omega) (wc.heap.size + 1) (by simp) ?_; intro gg cap1 w3 hown' hgrow hat hlt3))
              have O6 := Lib.hid (show w3.ownsRow w.heap.size 34 4 (.slice (some ⟨gg, 0, none⟩) (oo.length + 1) cap1) (oo ++ [(⟨x.k, x.t, f9, t9⟩ : RowV)]).length (flatOf rowC (oo ++ [(⟨x.k, x.t, f9, t9⟩ : RowV)])) from by rw [flatOf_append, flatOf_one, List.length_append, List.length_singleton]; exact hown')
              have B6 := Lib.hid (((BM.out.alloc hsM _).drew).grown hgrow (by simp; omega) (fun i e => by have := (OM.out.lt i e).1; omega))
              clear hown' hgrow hat
              go_wp2
              go_roundw
              case rel => exact ⟨k + 1, by omega, by go_num, (by rw [HT2.out]; exact O6.out), B6.out⟩
              case measure => simp [intOf]; omega
        · obtain rfl : k = zs.length := by omega
          rw [List.take_length] at hown
          obtain ⟨A', c', hv⟩ := owns_sliceE hown
          subst hv
          have Hown := Lib.hid hown
          clear hown
          generalize moveL zs n = ml at *
          go_wp2
          go_ret
          rw [HE.out]
          exact ⟨A', c', rfl, Hown.out, hbr⟩
end Go.Proofs.Ytgclmldhdjmabaa
