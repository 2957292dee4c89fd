/-
  Walks: what went and came between two stamps, both ways.
-/
import Derived.Test.YtkalanjgjeijbaaStoDf
import Derived.Maps.AppendAt
namespace Go.Proofs.Ytkalanjgjeijbaa
open Go.Shelf Go.RowKit Go.Lib Go.Sort

/-- Two lists of rows in new memory, apart from each other. -/
def Gets2 (w : World) (x y : List RowV) (e : Ending) (w' : World) : Prop :=
  ∃ (A : Option Addr) (c : Nat) (A' : Option Addr) (c' : Nat), e = .returned (.tuple #[.slice A x.length c, .slice A' y.length c']) ∧ w'.ownsRow w.heap.size 57 4 (.slice A x.length c) x.length (flatOf rowC x) ∧ w'.ownsRow w.heap.size 57 4 (.slice A' y.length c') y.length (flatOf rowC y) ∧ ((Value.slice A x.length c).ownBlock = none ∨ (Value.slice A x.length c).ownBlock ≠ (Value.slice A' y.length c').ownBlock) ∧ Below w.heap.size w w'
theorem storeAtV (A : Option Addr) (cap : Nat) (zs : List VerV) (now a : Int) (x : List RowV) (w : World) (hz : VersA w A zs) (hl : zs.length ≤ 1048577) (h : storeB zs now = true) (hx : liveS zs (min a now) = x) :
    Calls Try.prog 22 #[.agg #[.int .i64 now, .slice A zs.length cap], .int .i64 a] w (GetsE rowC 4 57 w x) := by
  refine (storeAt_any A cap zs now a w hz hl).mono ?_
  rintro e w' ⟨l, A2, c2, rfl, hor, hp, ho, hb⟩
  obtain rfl : l = x := by rw [← hx]; exact at_eq h hor hp
  exact ⟨A2, c2, rfl, ho, hb⟩
theorem l5LiveV (A : Option Addr) (cap : Nat) (zs : List VerV) (m : Int) (x : List RowV) (w : World) (hz : VersA w A zs) (hl : zs.length ≤ 1048576) (hx : liveS zs m = x) :
    Calls Try.prog 25 #[.slice A zs.length cap, .int .i64 m] w (GetsE rowC 4 57 w x) := by
  subst hx; exact l5Live_any A cap zs m w hz hl
/-- What lies in two slots: tables. -/
def AtTwo (W : World) (x y : List RowV) (s1 s2 : Value) (wx : World) : Prop :=
  (∃ A c, s1 = .slice A x.length c ∧ RowsA wx A x) ∧ (∃ A c, s2 = .slice A y.length c ∧ RowsA wx A y) ∧ Below W.heap.size W wx
def AtOne (W : World) (x : List RowV) (s1 : Value) (wx : World) : Prop := (∃ A c, s1 = .slice A x.length c ∧ RowsA wx A x) ∧ Below W.heap.size W wx

set_option maxRecDepth 100000 in
set_option maxHeartbeats 8000000 in
theorem StoreDiff_any (A : Option Addr) (cap : Nat) (zs : List VerV) (now a b : Int) (w : World) (hz : VersA w A zs) (hl : zs.length ≤ 1048577) (hs : ShortV zs) :
    Calls Try.prog 7 #[.agg #[.int .i64 now, .slice A zs.length cap], .int .i64 a, .int .i64 b] w (Gets2 w (besides (storeAtL zs now a) (storeAtL zs now b)) (besides (storeAtL zs now b) (storeAtL zs now a))) := by
  have HS := Lib.hid hs
  clear hs
  obtain ⟨sb, hsb⟩ : ∃ sb, storeB zs now = sb := ⟨_, rfl⟩
  have HSB := Lib.hid hsb
  obtain ⟨x, hx⟩ : ∃ x, storeAtL zs now a = x := ⟨_, rfl⟩
  obtain ⟨y, hy⟩ : ∃ y, storeAtL zs now b = y := ⟨_, rfl⟩
  have hxl := storeAtL_len zs now a
  have hyl := storeAtL_len zs now b
  rw [hx] at hxl
  rw [hy] at hyl
  have HX := Lib.hid hx
  have HY := Lib.hid hy
  rw [hx, hy]
  clear hsb hx hy
  go_enter Try.func7, Try.ntmps7
  go_wp2_with fail
  generalize hW : w.alloc _ = W0
  have s0 : W0.cell? ⟨w.heap.size, 0, none⟩ = some (.int .i64 now) := by rw [← hW]; simp [go_sem]
  have s1 : W0.cell? ⟨w.heap.size, 1, none⟩ = some (.slice A zs.length cap) := by rw [← hW]; simp [go_sem]
  have ls : w.heap.size < W0.heap.size := by rw [← hW]; simp
  have B0 := Lib.hid (show Below w.heap.size w W0 from by rw [← hW]; exact (Below.refl _ _).alloc (Nat.le_refl _) _)
  have HZ := Lib.hid (hz.below B0.out)
  obtain ⟨G, hG⟩ : ∃ G, w.heap.size = G := ⟨_, rfl⟩
  rw [hG] at s0 s1 ls ⊢
  clear hW hG hz
  refine (StoreOk_any A cap zs now _ HZ.out hl HS.out).mono ?_
  rw [HSB.out]
  rintro e w1 ⟨rfl, hb⟩
  replace s0 := cellBelow hb ls s0
  replace s1 := cellBelow hb ls s1
  have ls1 := Nat.lt_of_lt_of_le ls hb.size
  have Z1 := Lib.hid (HZ.out.below hb)
  have B1 := Lib.hid (B0.out.trans (hb.mono B0.out.size))
  clear hb HZ B0 ls
  cases sb
  · obtain rfl : x = [] := by rw [← HX.out, storeAtL, if_neg (by rw [HSB.out]; simp)]
    obtain rfl : y = [] := by rw [← HY.out, storeAtL, if_neg (by rw [HSB.out]; simp)]
    go_wp2
    refine bodyPost_ret (v := .tuple #[.slice none 0 0, .slice none 0 0]) (by simp [results, Try.results7, go_sem]) rfl ?_
    exact ⟨none, 0, none, 0, rfl, World.ownsRow_nil _ _ _ _, World.ownsRow_nil _ _ _ _, .inl rfl, B1.out⟩
  · have HXL := Lib.hid (show liveS zs (min a now) = x from by rw [← HX.out, storeAtL, if_pos HSB.out])
    have HYL := Lib.hid (show liveS zs (min b now) = y from by rw [← HY.out, storeAtL, if_pos HSB.out])
    have hq0 : Below w1.heap.size w1 w1 := Below.refl _ _
    have hB1 := B1.out.size
    go_upto_region 3 with fail
    go_cut [8, 9] (fun s1 s2 wx => AtTwo w1 x y s1 s2 wx)
    case first =>
      go_region_held3 (fun w' => w'.cell? ⟨G, 0, none⟩ = some (.int .i64 now) ∧ w'.cell? ⟨G, 1, none⟩ = some (.slice A zs.length cap) ∧ w1.heap.size ≤ w'.heap.size ∧ Below w1.heap.size w1 w')
        (((try go_split_ands); refine ⟨?cc90, ?cc91, ?sz9, ?bl9⟩; (case cc90 => (repeat (first | with_reducible assumption | with_reducible refine cell_below hb (by first | omega | (simp; done) | (simp; omega)) ?_ | with_reducible refine cell_set_far (by first | omega | (simp; done) | (simp; omega)) ?_ | with_reducible exact cell_alloc_swap (by with_reducible assumption) (by first | omega | (simp; done) | (simp; omega)) | with_reducible refine cell_alloc_far ?_ | with_reducible refine cell_drew ?_))); (case cc91 => (repeat (first | with_reducible assumption | with_reducible refine cell_below hb (by first | omega | (simp; done) | (simp; omega)) ?_ | with_reducible refine cell_set_far (by first | omega | (simp; done) | (simp; omega)) ?_ | with_reducible exact cell_alloc_swap (by with_reducible assumption) (by first | omega | (simp; done) | (simp; omega)) | with_reducible refine cell_alloc_far ?_ | with_reducible refine cell_drew ?_))); (case sz9 => (first | with_reducible assumption | (have := hb.size; omega) | omega | (simp; done) | (simp; omega) | (have := hb.size; simp at this ⊢; omega))); (case bl9 => (repeat (first | with_reducible assumption | with_reducible exact hq0 | with_reducible refine Below.drew ?_ | with_reducible refine Below.trans ?_ (hb.mono (by first | omega | (simp; done) | (simp; omega))) | with_reducible refine Below.setCell ?_ (by first | omega | (simp; done) | (simp; omega)) _ | with_reducible exact below_alloc_swap (by with_reducible assumption) (by first | omega | (simp; done) | (simp; omega)) | with_reducible refine Below.alloc ?_ (by first | omega | (simp; done) | (simp; omega)) _)))))
        (first
          | (go_at_call 22; (try go_split_ands); (with_reducible refine (storeAtV A cap zs now a x _ (Z1.out.below (by (repeat (first | with_reducible assumption | with_reducible exact hq0 | with_reducible refine Below.drew ?_ | with_reducible refine Below.trans ?_ (hb.mono (by first | omega | (simp; done) | (simp; omega))) | with_reducible refine Below.setCell ?_ (by first | omega | (simp; done) | (simp; omega)) _ | with_reducible exact below_alloc_swap (by with_reducible assumption) (by first | omega | (simp; done) | (simp; omega)) | with_reducible refine Below.alloc ?_ (by first | omega | (simp; done) | (simp; omega)) _)))) hl HSB.out HXL.out).mono ?_); rintro e wA ⟨AA, cA, rfl, hoA, hb⟩; have RA := Lib.hid (show RowsA wA AA x from el_of_owns rowC_len hoA); clear hoA; (try have RB2 := Lib.hid (RB.out.below hb)); have hsz : w1.heap.size ≤ wA.heap.size := (by have := hb.size; first | omega | (simp at this; omega)); obtain ⟨hc, hf, hlb⟩ := bcell3 hb)
          | (go_at_call 22; (try go_split_ands); (with_reducible refine (storeAtV A cap zs now b y _ (Z1.out.below (by (repeat (first | with_reducible assumption | with_reducible exact hq0 | with_reducible refine Below.drew ?_ | with_reducible refine Below.trans ?_ (hb.mono (by first | omega | (simp; done) | (simp; omega))) | with_reducible refine Below.setCell ?_ (by first | omega | (simp; done) | (simp; omega)) _ | with_reducible exact below_alloc_swap (by with_reducible assumption) (by first | omega | (simp; done) | (simp; omega)) | with_reducible refine Below.alloc ?_ (by first | omega | (simp; done) | (simp; omega)) _)))) hl HSB.out HYL.out).mono ?_); rintro e wB ⟨AB, cB, rfl, hoB, hb⟩; have RB := Lib.hid (show RowsA wB AB y from el_of_owns rowC_len hoB); clear hoB; (try have RA2 := Lib.hid (RA.out.below hb)); have hsz : w1.heap.size ≤ wB.heap.size := (by have := hb.size; first | omega | (simp at this; omega)); obtain ⟨hc, hf, hlb⟩ := bcell3 hb))
      all_goals (go_wp2_with fail; go_meet; unfold AtTwo; rename_i hH; exact ⟨⟨AA, cA, rfl, by first | exact RA2.out | exact RA.out⟩, ⟨AB, cB, rfl, by first | exact RB2.out | exact RB.out⟩, hH.2.2.2⟩)
    case rest =>
      obtain ⟨⟨AX, cX, rfl, hrx⟩, ⟨AY, cY, rfl, hry⟩, hb⟩ := hcut
      have RX := Lib.hid hrx
      have RY := Lib.hid hry
      have B2 := Lib.hid (B1.out.trans (hb.mono B1.out.size))
      clear hrx hry hb B1 Z1 hq0 hB1 s0 s1 ls1
      go_wp2_with fail
      refine (rowsBeside_any AX AY cX cY x y _ RX.out RY.out (by omega) (by omega)).mono ?_
      have hp1 := besides_len x y
      have hp2 := besides_len y x
      have BQ := Lib.hid (show ∀ W' : World, RowsA W' AY y → RowsA W' AX x → Calls Try.prog 23 #[.slice AY y.length cY, .slice AX x.length cX] W' (GetsE rowC 4 57 W' (besides y x)) from fun W' h1 h2 => rowsBeside_any AY AX cY cX y x W' h1 h2 (by omega) (by omega))
      generalize besides x y = p at *
      generalize besides y x = q at *
      rintro e w3 ⟨A3, c3, rfl, ho, hb⟩
      have O3 := Lib.hid ho
      have RX3 := Lib.hid (RX.out.below hb)
      have RY3 := Lib.hid (RY.out.below hb)
      have hs2 := B2.out.size
      have B3 := Lib.hid (B2.out.trans (hb.mono B2.out.size))
      clear ho hb RX RY B2
      go_wp2_with fail
      refine (BQ.out _ RY3.out RX3.out).mono ?_
      rintro e w4 ⟨A4, c4, rfl, ho, hb⟩
      have AP := Lib.hid (ownsApart O3.out (Nat.le_refl _) (Nat.le_refl _) ho)
      have O4 := Lib.hid (ownsBase (base' := w.heap.size) ho B3.out.size)
      have K4 := Lib.hid (ownsBase (base' := w.heap.size) (ownsKeep O3.out hb) hs2)
      have B4 := Lib.hid (B3.out.trans (hb.mono B3.out.size))
      clear ho hb O3 RX3 RY3 B3
      go_wp2
      refine bodyPost_ret (v := .tuple #[.slice A3 p.length c3, .slice A4 q.length c4]) (by simp [results, Try.results7, go_sem]) rfl ?_
      exact ⟨A3, c3, A4, c4, rfl, K4.out, O4.out, AP.out, B4.out⟩

set_option maxRecDepth 100000 in
set_option maxHeartbeats 8000000 in
theorem sStoreDiff_any (A : Option Addr) (cap : Nat) (zs : List VerV) (now a b : Int) (w : World) (hz : VersA w A zs) (hl : zs.length ≤ 1048576) (hs : ShortV zs) :
    Calls Try.prog 8 #[.agg #[.int .i64 now, .slice A zs.length cap], .int .i64 a, .int .i64 b] w (Gets2 w (besides (storeAtL zs now a) (storeAtL zs now b)) (besides (storeAtL zs now b) (storeAtL zs now a))) := by
  obtain ⟨i0, hi, hz0, hz1, hz2⟩ := info_parts Try.infoR57
  have Hi := Lib.hid hi
  have Hz0 := Lib.hid hz0
  have Hz1 := Lib.hid hz1
  have Hz2 := Lib.hid hz2
  clear hi hz0 hz1 hz2
  have HS := Lib.hid hs
  clear hs
  obtain ⟨sb, hsb⟩ : ∃ sb, storeB zs now = sb := ⟨_, rfl⟩
  have HSB := Lib.hid hsb
  obtain ⟨x, hx⟩ : ∃ x, storeAtL zs now a = x := ⟨_, rfl⟩
  obtain ⟨y, hy⟩ : ∃ y, storeAtL zs now b = y := ⟨_, rfl⟩
  have hxl := storeAtL_len zs now a
  have hyl := storeAtL_len zs now b
  rw [hx] at hxl
  rw [hy] at hyl
  have HX := Lib.hid hx
  have HY := Lib.hid hy
  rw [hx, hy]
  clear hsb hx hy
  go_enter Try.func8, Try.ntmps8
  go_wp2_with fail
  generalize hW : w.alloc _ = W0
  have s0 : W0.cell? ⟨w.heap.size, 0, none⟩ = some (.int .i64 now) := by rw [← hW]; simp [go_sem]
  have s1 : W0.cell? ⟨w.heap.size, 1, none⟩ = some (.slice A zs.length cap) := by rw [← hW]; simp [go_sem]
  have ls : w.heap.size < W0.heap.size := by rw [← hW]; simp
  have B0 := Lib.hid (show Below w.heap.size w W0 from by rw [← hW]; exact (Below.refl _ _).alloc (Nat.le_refl _) _)
  have HZ := Lib.hid (hz.below B0.out)
  obtain ⟨G, hG⟩ : ∃ G, w.heap.size = G := ⟨_, rfl⟩
  rw [hG] at s0 s1 ls ⊢
  clear hW hG hz
  refine (l5Ok_any A cap zs now _ HZ.out hl HS.out).mono ?_
  rw [HSB.out]
  rintro e w1 ⟨rfl, hb⟩
  replace s0 := cellBelow hb ls s0
  replace s1 := cellBelow hb ls s1
  have ls1 := Nat.lt_of_lt_of_le ls hb.size
  have Z1 := Lib.hid (HZ.out.below hb)
  have B1 := Lib.hid (B0.out.trans (hb.mono B0.out.size))
  clear hb HZ B0 ls
  cases sb
  · obtain rfl : x = [] := by rw [← HX.out, storeAtL, if_neg (by rw [HSB.out]; simp)]
    obtain rfl : y = [] := by rw [← HY.out, storeAtL, if_neg (by rw [HSB.out]; simp)]
    go_wp2
    refine bodyPost_ret (v := .tuple #[.slice none 0 0, .slice none 0 0]) (by simp [results, Try.results8, go_sem]) rfl ?_
    exact ⟨none, 0, none, 0, rfl, World.ownsRow_nil _ _ _ _, World.ownsRow_nil _ _ _ _, .inl rfl, B1.out⟩
  · have HXL := Lib.hid (show liveS zs (min a now) = x from by rw [← HX.out, storeAtL, if_pos HSB.out])
    have HYL := Lib.hid (show liveS zs (min b now) = y from by rw [← HY.out, storeAtL, if_pos HSB.out])
    have hq0 : Below w1.heap.size w1 w1 := Below.refl _ _
    have hB1 := B1.out.size
    go_upto_region 3 with fail
    go_cut [8] (fun s1 wx => AtOne w1 x s1 wx)
    case first =>
      go_region_held3 (fun w' => w'.cell? ⟨G, 0, none⟩ = some (.int .i64 now) ∧ w'.cell? ⟨G, 1, none⟩ = some (.slice A zs.length cap) ∧ w1.heap.size ≤ w'.heap.size ∧ Below w1.heap.size w1 w')
        (((try go_split_ands); refine ⟨?cc90, ?cc91, ?sz9, ?bl9⟩; (case cc90 => (repeat (first | with_reducible assumption | with_reducible refine cell_below hb (by first | omega | (simp; done) | (simp; omega)) ?_ | with_reducible refine cell_set_far (by first | omega | (simp; done) | (simp; omega)) ?_ | with_reducible exact cell_alloc_swap (by with_reducible assumption) (by first | omega | (simp; done) | (simp; omega)) | with_reducible refine cell_alloc_far ?_ | with_reducible refine cell_drew ?_))); (case cc91 => (repeat (first | with_reducible assumption | with_reducible refine cell_below hb (by first | omega | (simp; done) | (simp; omega)) ?_ | with_reducible refine cell_set_far (by first | omega | (simp; done) | (simp; omega)) ?_ | with_reducible exact cell_alloc_swap (by with_reducible assumption) (by first | omega | (simp; done) | (simp; omega)) | with_reducible refine cell_alloc_far ?_ | with_reducible refine cell_drew ?_))); (case sz9 => (first | with_reducible assumption | (have := hb.size; omega) | omega | (simp; done) | (simp; omega) | (have := hb.size; simp at this ⊢; omega))); (case bl9 => (repeat (first | with_reducible assumption | with_reducible exact hq0 | with_reducible refine Below.drew ?_ | with_reducible refine Below.trans ?_ (hb.mono (by first | omega | (simp; done) | (simp; omega))) | with_reducible refine Below.setCell ?_ (by first | omega | (simp; done) | (simp; omega)) _ | with_reducible exact below_alloc_swap (by with_reducible assumption) (by first | omega | (simp; done) | (simp; omega)) | with_reducible refine Below.alloc ?_ (by first | omega | (simp; done) | (simp; omega)) _)))))
        (first
          | (go_at_call 26; (try go_split_ands); refine (l5Clamp_any _ _ _ _ _ _).mono ?_; rintro e wA ⟨rfl, hb⟩; have hsz : w1.heap.size ≤ wA.heap.size := (by have := hb.size; first | omega | (simp at this; omega)); obtain ⟨hc, hf, hlb⟩ := bcell3 hb)
          | (go_at_call 25; (try go_split_ands); refine (l5LiveV A cap zs (min a now) x _ (Z1.out.below (by (repeat (first | with_reducible assumption | with_reducible exact hq0 | with_reducible refine Below.drew ?_ | with_reducible refine Below.trans ?_ (hb.mono (by first | omega | (simp; done) | (simp; omega))) | with_reducible refine Below.setCell ?_ (by first | omega | (simp; done) | (simp; omega)) _ | with_reducible exact below_alloc_swap (by with_reducible assumption) (by first | omega | (simp; done) | (simp; omega)) | with_reducible refine Below.alloc ?_ (by first | omega | (simp; done) | (simp; omega)) _)))) hl HXL.out).mono ?_; rintro e wB ⟨AB, cB, rfl, ho, hb⟩; have RB := Lib.hid (show RowsA wB AB x from el_of_owns rowC_len ho); clear ho; have hsz : w1.heap.size ≤ wB.heap.size := (by have := hb.size; first | omega | (simp at this; omega)); obtain ⟨hc, hf, hlb⟩ := bcell3 hb))
      all_goals (go_wp2_with fail; go_meet; unfold AtOne; rename_i hH; exact ⟨⟨AB, cB, rfl, RB.out⟩, hH.2.2.2⟩)
    case rest =>
      obtain ⟨⟨AX, cX, rfl, hrx⟩, hb⟩ := hcut
      have RX := Lib.hid hrx
      have Z2 := Lib.hid (Z1.out.below hb)
      have B2 := Lib.hid (B1.out.trans (hb.mono B1.out.size))
      replace s0 := cellBelow hb ls1 s0
      replace s1 := cellBelow hb ls1 s1
      have ls2 := Nat.lt_of_lt_of_le ls1 hb.size
      clear hrx hb B1 Z1 hq0 hB1 ls1
      have hq0 : Below wc.heap.size wc wc := Below.refl _ _
      have hB1 := B2.out.size
      go_upto_region 4 with fail
      go_cut [9] (fun s1 wy => AtOne wc y s1 wy)
      case first =>
        go_region_held3 (fun w' => w'.cell? ⟨G, 0, none⟩ = some (.int .i64 now) ∧ w'.cell? ⟨G, 1, none⟩ = some (.slice A zs.length cap) ∧ wc.heap.size ≤ w'.heap.size ∧ Below wc.heap.size wc w')
          (((try go_split_ands); refine ⟨?cc90, ?cc91, ?sz9, ?bl9⟩; (case cc90 => (repeat (first | with_reducible assumption | with_reducible refine cell_below hb (by first | omega | (simp; done) | (simp; omega)) ?_ | with_reducible refine cell_set_far (by first | omega | (simp; done) | (simp; omega)) ?_ | with_reducible exact cell_alloc_swap (by with_reducible assumption) (by first | omega | (simp; done) | (simp; omega)) | with_reducible refine cell_alloc_far ?_ | with_reducible refine cell_drew ?_))); (case cc91 => (repeat (first | with_reducible assumption | with_reducible refine cell_below hb (by first | omega | (simp; done) | (simp; omega)) ?_ | with_reducible refine cell_set_far (by first | omega | (simp; done) | (simp; omega)) ?_ | with_reducible exact cell_alloc_swap (by with_reducible assumption) (by first | omega | (simp; done) | (simp; omega)) | with_reducible refine cell_alloc_far ?_ | with_reducible refine cell_drew ?_))); (case sz9 => (first | with_reducible assumption | (have := hb.size; omega) | omega | (simp; done) | (simp; omega) | (have := hb.size; simp at this ⊢; omega))); (case bl9 => (repeat (first | with_reducible assumption | with_reducible exact hq0 | with_reducible refine Below.drew ?_ | with_reducible refine Below.trans ?_ (hb.mono (by first | omega | (simp; done) | (simp; omega))) | with_reducible refine Below.setCell ?_ (by first | omega | (simp; done) | (simp; omega)) _ | with_reducible exact below_alloc_swap (by with_reducible assumption) (by first | omega | (simp; done) | (simp; omega)) | with_reducible refine Below.alloc ?_ (by first | omega | (simp; done) | (simp; omega)) _)))))
          (first
            | (go_at_call 26; (try go_split_ands); refine (l5Clamp_any _ _ _ _ _ _).mono ?_; rintro e wA ⟨rfl, hb⟩; have hsz : wc.heap.size ≤ wA.heap.size := (by have := hb.size; first | omega | (simp at this; omega)); obtain ⟨hc, hf, hlb⟩ := bcell3 hb)
            | (go_at_call 25; (try go_split_ands); refine (l5LiveV A cap zs (min b now) y _ (Z2.out.below (by (repeat (first | with_reducible assumption | with_reducible exact hq0 | with_reducible refine Below.drew ?_ | with_reducible refine Below.trans ?_ (hb.mono (by first | omega | (simp; done) | (simp; omega))) | with_reducible refine Below.setCell ?_ (by first | omega | (simp; done) | (simp; omega)) _ | with_reducible exact below_alloc_swap (by with_reducible assumption) (by first | omega | (simp; done) | (simp; omega)) | with_reducible refine Below.alloc ?_ (by first | omega | (simp; done) | (simp; omega)) _)))) hl HYL.out).mono ?_; rintro e wB ⟨AB, cB, rfl, ho, hb⟩; have RB := Lib.hid (show RowsA wB AB y from el_of_owns rowC_len ho); clear ho; have hsz : wc.heap.size ≤ wB.heap.size := (by have := hb.size; first | omega | (simp at this; omega)); obtain ⟨hc, hf, hlb⟩ := bcell3 hb))
        all_goals (go_wp2_with fail; go_meet; unfold AtOne; rename_i hH; exact ⟨⟨AB, cB, rfl, RB.out⟩, hH.2.2.2⟩)
      case rest =>
        obtain ⟨⟨AY, cY, rfl, hry⟩, hb⟩ := hcut
        obtain ⟨W, rfl⟩ : ∃ W, W = wc := ⟨_, rfl⟩
        have RY := Lib.hid hry
        have RX3 := Lib.hid (RX.out.below hb)
        have B3 := Lib.hid (B2.out.trans (hb.mono B2.out.size))
        clear hry hb RX B2 Z2 s0 s1 ls2 hq0 hB1 HX HY HXL HYL
        go_wp2
        generalize hW : (W.alloc _).alloc _ = W5
        have B0 := Lib.hid (show Below W.heap.size W W5 from by rw [← hW]; exact ((Below.refl _ _).alloc (Nat.le_refl _) _).alloc (by simp) _)
        have OG := Lib.hid (show W5.ownsRow W.heap.size 57 4 (.slice (some ⟨W.heap.size, 0, none⟩) 0 0) 0 (flatOf rowC []) from by
          rw [← hW]
          have := (World.ownsRow_lit (base := W.heap.size) (e := 57) (size := 4) W #[] 0 (Nat.le_refl _) (by simp [maxLen]) (by simp)).alloc (.cells #[] 57)
          simpa [flatOf] using this)
        have OC := Lib.hid (show W5.ownsRow W.heap.size 57 4 (.slice (some ⟨W.heap.size + 1, 0, none⟩) 0 0) 0 (flatOf rowC []) from by
          rw [← hW]
          have := World.ownsRow_lit (base := W.heap.size) (e := 57) (size := 4) (W.alloc (.cells #[] 57)) #[] 0 (by simp) (by simp [maxLen]) (by simp)
          simpa [flatOf] using this)
        clear hW
        go_loopw [10, 12] (fun v i wr => ∃ k : Nat, k ≤ x.length ∧ i = .int .i64 k ∧ wr.ownsRow W.heap.size 57 4 v (besides (x.take k) y).length (flatOf rowC (besides (x.take k) y)) ∧ wr.ownsRow W.heap.size 57 4 (.slice (some ⟨W.heap.size + 1, 0, none⟩) 0 0) 0 (flatOf rowC []) ∧ v.ownBlock ≠ some (W.heap.size + 1) ∧ Below W.heap.size W wr) (fun _ i _ => x.length - (intOf i).toNat)
        case atStart => exact ⟨0, Nat.zero_le _, rfl, OG.out, OC.out, by simp [Value.ownBlock], B0.out⟩
        case round =>
          obtain ⟨k, hk, rfl, hown, hoc, hvc, hbr⟩ := hrel
          obtain ⟨A5, c5, rfl⟩ := owns_formN hown
          have Hown := Lib.hid hown
          have HC := Lib.hid hoc
          have hvC := Lib.hid hvc
          clear hown hoc hvc
          have hlo : (besides (x.take k) y).length ≤ 1048577 := by have := besides_len (x.take k) y; rw [List.length_take] at this; omega
          have hs5 := hbr.size
          by_cases hlt : k < x.length
          · obtain ⟨bb, off, z, e1, hbb, hzz, c0, c1, c2, c3⟩ := (RX3.out.below hbr).at_ hlt
            have HT := Lib.hid (besides_take (b := y) hzz)
            obtain ⟨oo, hoo⟩ : ∃ oo, besides (x.take k) y = oo := ⟨_, rfl⟩
            rw [hoo] at Hown HT hlo hvC ⊢
            clear hzz hoo
            subst e1
            have hkz : (k : Int) < (x.length : Int) := by omega
            have hkz0 : (0 : Int) ≤ (k : Int) := by omega
            obtain ⟨lb, hlb⟩ : ∃ lb, hasR y z = lb := ⟨_, rfl⟩
            have HLB := Lib.hid hlb
            rw [hlb] at HT
            clear hlb
            go_wp2_with fail
            refine (l5Has_any AY cY y z _ (RY.out.below hbr) (by omega)).mono ?_
            rw [HLB.out]
            rintro e w2 ⟨rfl, hb2⟩
            replace c0 := cellBelow hb2 hbb c0
            replace c1 := cellBelow hb2 hbb c1
            replace c2 := cellBelow hb2 hbb c2
            replace c3 := cellBelow hb2 hbb c3
            replace hbb := Nat.lt_of_lt_of_le hbb hb2.size
            have O2 := Lib.hid (ownsKeep Hown.out hb2)
            have OC2 := Lib.hid (ownsKeep HC.out hb2)
            have hB2 := hbr.trans (hb2.mono hbr.size)
            have hs2 := hB2.size
            clear hb2 hbr Hown HC
            cases lb
            · rw [if_neg (by simp)] at HT
              go_wp2_with (at_builtin; refine wpList_append_own_at _ rfl _ _ 28 rfl W.heap.size 57 i0 _ 4 48 Try.underlying28 Hi.out Hz0.out Hz1.out Hz2.out rfl (by decide) _ oo.length (flatOf rowC oo) rfl (O2.out.alloc _) ⟨w2.heap.size, 0, none⟩ 1 1 [.string z.k, .string z.t, .int .i64 z.f, .int .i64 z.e] rfl rfl (newsFour (by simp) (by simp) (by simp) (by simp)) (by simp [Value.oneCell']) (by unfold maxLen; omega) (by omega) (by simp; omega) ?_; intro v' w3 hown' hgrow hnil hat; have O3 := Lib.hid hown'; have OC3 := Lib.hid ((OC2.out.alloc _).kept hgrow (.inr fun e => hvC.out e.symm)); have HAT := Lib.hid hat; have B3 := Lib.hid ((hB2.alloc hs2 _).grown hgrow (by simp; omega) (fun i e => by have := (O2.out.lt i e).1; omega)); clear hown' hgrow hnil hat)
              have HNB := Lib.hid (show v'.ownBlock ≠ some (W.heap.size + 1) from by
                rcases HAT.out with e | e
                · rw [e]; exact hvC.out
                · rw [e]
                  intro e1
                  injection e1 with e1
                  have h2 := (OC2.out.lt _ rfl).2
                  simp at e1 h2
                  omega)
              refine ⟨⟨k + 1, by omega, by go_num, ?_, OC3.out, HNB.out, B3.out⟩, ?_⟩
              · rw [HT.out, flatOf_append, flatOf_one, show (oo ++ [z]).length = oo.length + 1 by simp]
                exact O3.out
              · simp [intOf]; omega
            · rw [if_pos rfl, List.append_nil] at HT
              have B2' := Lib.hid hB2
              clear hB2
              go_wp2
              go_roundw
              case rel => exact ⟨k + 1, by omega, by go_num, (by rw [HT.out]; exact O2.out), OC2.out, hvC.out, B2'.out⟩
              case measure => simp [intOf]; omega
          · obtain rfl : k = x.length := by omega
            rw [List.take_length] at Hown hlo hvC ⊢
            have hpl := besides_len x y
            obtain ⟨pp, hpp⟩ : ∃ pp, besides x y = pp := ⟨_, rfl⟩
            rw [hpp] at Hown hlo hvC hpl ⊢
            have HPP := Lib.hid hpp
            clear hpp
            obtain ⟨A4, e4⟩ : ∃ A4, A4 = A5 := ⟨_, rfl⟩
            obtain ⟨c4, e5⟩ : ∃ c4, c4 = c5 := ⟨_, rfl⟩
            rw [← e4, ← e5] at Hown hvC ⊢
            clear e4 e5
            have HAP := Lib.hid (show (Value.slice (some ⟨W.heap.size + 1, 0, none⟩) 0 0).ownBlock = none ∨ (Value.slice (some ⟨W.heap.size + 1, 0, none⟩) 0 0).ownBlock ≠ (Value.slice A4 pp.length c4).ownBlock from .inr fun e => hvC.out e.symm)
            clear hvC hs5 hlt hk
            go_wp2
            go_loopw [11, 13] (fun v i wr => ∃ k : Nat, k ≤ y.length ∧ i = .int .i64 k ∧ wr.ownsRow W.heap.size 57 4 v (besides (y.take k) x).length (flatOf rowC (besides (y.take k) x)) ∧ wr.ownsRow W.heap.size 57 4 (.slice A4 pp.length c4) pp.length (flatOf rowC pp) ∧ (v.ownBlock = none ∨ v.ownBlock ≠ (Value.slice A4 pp.length c4).ownBlock) ∧ Below W.heap.size W wr) (fun _ i _ => y.length - (intOf i).toNat)
            case atStart => exact ⟨0, Nat.zero_le _, rfl, HC.out, Hown.out, HAP.out, hbr⟩
            case round =>
              obtain ⟨k, hk, rfl, hown, hoc, hvc, hbr⟩ := hrel
              obtain ⟨A5, c5, rfl⟩ := owns_formN hown
              have Hown := Lib.hid hown
              have HC := Lib.hid hoc
              have hvC := Lib.hid hvc
              clear hown hoc hvc
              have hlo : (besides (y.take k) x).length ≤ 1048577 := by have := besides_len (y.take k) x; rw [List.length_take] at this; omega
              have hs5 := hbr.size
              by_cases hlt : k < y.length
              · obtain ⟨bb, off, z, e1, hbb, hzz, c0, c1, c2, c3⟩ := (RY.out.below hbr).at_ hlt
                have HT := Lib.hid (besides_take (b := x) hzz)
                obtain ⟨oo, hoo⟩ : ∃ oo, besides (y.take k) x = oo := ⟨_, rfl⟩
                rw [hoo] at Hown HT hlo hvC ⊢
                clear hzz hoo
                subst e1
                have hkz : (k : Int) < (y.length : Int) := by omega
                have hkz0 : (0 : Int) ≤ (k : Int) := by omega
                obtain ⟨lb, hlb⟩ : ∃ lb, hasR x z = lb := ⟨_, rfl⟩
                have HLB := Lib.hid hlb
                rw [hlb] at HT
                clear hlb
                go_wp2_with fail
                refine (l5Has_any AX cX x z _ (RX3.out.below hbr) (by omega)).mono ?_
                rw [HLB.out]
                rintro e w2 ⟨rfl, hb2⟩
                replace c0 := cellBelow hb2 hbb c0
                replace c1 := cellBelow hb2 hbb c1
                replace c2 := cellBelow hb2 hbb c2
                replace c3 := cellBelow hb2 hbb c3
                replace hbb := Nat.lt_of_lt_of_le hbb hb2.size
                have O2 := Lib.hid (ownsKeep Hown.out hb2)
                have OC2 := Lib.hid (ownsKeep HC.out hb2)
                have hB2 := hbr.trans (hb2.mono hbr.size)
                have hs2 := hB2.size
                clear hb2 hbr Hown HC
                cases lb
                · rw [if_neg (by simp)] at HT
                  go_wp2_with (at_builtin; refine wpList_append_own_at _ rfl _ _ 28 rfl W.heap.size 57 i0 _ 4 48 Try.underlying28 Hi.out Hz0.out Hz1.out Hz2.out rfl (by decide) _ oo.length (flatOf rowC oo) rfl (O2.out.alloc _) ⟨w2.heap.size, 0, none⟩ 1 1 [.string z.k, .string z.t, .int .i64 z.f, .int .i64 z.e] rfl rfl (newsFour (by simp) (by simp) (by simp) (by simp)) (by simp [Value.oneCell']) (by unfold maxLen; omega) (by omega) (by simp; omega) ?_; intro v' w3 hown' hgrow hnil hat; have O3 := Lib.hid hown'; have OC3 := Lib.hid ((OC2.out.alloc _).kept hgrow (apSym hvC.out)); have HAT := Lib.hid hat; have B3 := Lib.hid ((hB2.alloc hs2 _).grown hgrow (by simp; omega) (fun i e => by have := (O2.out.lt i e).1; omega)); clear hown' hgrow hnil hat)
                  have HNB := Lib.hid (show (v'.ownBlock = none ∨ v'.ownBlock ≠ (Value.slice A4 pp.length c4).ownBlock) from by
                    rcases HAT.out with e | e
                    · rw [e]; exact hvC.out
                    · rw [e]
                      refine .inr fun e1 => ?_
                      skip
                      have h2 := (OC2.out.lt _ e1.symm).2
                      simp at h2
                      omega)
                  go_roundw
                  case rel => exact ⟨k + 1, by omega, by go_num, (by rw [HT.out, flatOf_append, flatOf_one, show (oo ++ [z]).length = oo.length + 1 by simp]; exact O3.out), OC3.out, HNB.out, B3.out⟩
                  case measure => simp [intOf]; omega
                · rw [if_pos rfl, List.append_nil] at HT
                  have B2' := Lib.hid hB2
                  clear hB2
                  go_wp2
                  go_roundw
                  case rel => exact ⟨k + 1, by omega, by go_num, (by rw [HT.out]; exact O2.out), OC2.out, hvC.out, B2'.out⟩
                  case measure => simp [intOf]; omega
              · obtain rfl : k = y.length := by omega
                rw [List.take_length] at Hown hlo hvC ⊢
                have BZ := Lib.hid (B3.out.trans (hbr.mono B3.out.size))
                have hsz := B3.out.size
                go_wp2
                refine bodyPost_ret (v := .tuple #[.slice A4 pp.length c4, .slice A5 (besides y x).length c5]) (by simp [results, Try.results8, go_sem]) rfl ?_
                rw [HPP.out]
                exact ⟨A4, c4, A5, c5, rfl, ownsBase (base' := w.heap.size) HC.out hsz, ownsBase (base' := w.heap.size) Hown.out hsz, apSym hvC.out, BZ.out⟩

end Go.Proofs.Ytkalanjgjeijbaa
