/-
  Walks: what went and came between two stamps, both ways.
-/
import Derived.Test.YtacddgipcafdlaaStoDf
import Derived.Maps.AppendAt
namespace Go.Proofs.Ytacddgipcafdlaa
open Go.Shelf Go.RowKit Go.Lib Go.Sort

/-- Two lists of rows in new memory, apart from each other. -/
def Gets2 (w : World) (x y : List RowV) (e : Ending) (w' : World) : Prop :=
  ∃ (A : Option Addr) (c : Nat) (A' : Option Addr) (c' : Nat), e = .returned (.tuple #[.slice A x.length c, .slice A' y.length c']) ∧ w'.ownsRow w.heap.size 72 4 (.slice A x.length c) x.length (flatOf rowC x) ∧ w'.ownsRow w.heap.size 72 4 (.slice A' y.length c') y.length (flatOf rowC y) ∧ ((Value.slice A x.length c).ownBlock = none ∨ (Value.slice A x.length c).ownBlock ≠ (Value.slice A' y.length c').ownBlock) ∧ Below w.heap.size w w'
theorem storeAtV (A : Option Addr) (cap : Nat) (zs : List VerV) (now a : Int) (x : List RowV) (w : World) (hz : VersA w A zs) (hl : zs.length ≤ 1048577) (h : storeB zs now = true) (hx : liveS zs (min a now) = x) :
    Calls Try.prog 78 #[.agg #[.int .i64 now, .slice A zs.length cap], .int .i64 a] w (GetsE rowC 4 72 w x) := by
  refine (storeAt_any A cap zs now a w hz hl).mono ?_
  rintro e w' ⟨l, A2, c2, rfl, hor, hp, ho, hb⟩
  obtain rfl : l = x := by rw [← hx]; exact at_eq h hor hp
  exact ⟨A2, c2, rfl, ho, hb⟩
theorem l5LiveV (A : Option Addr) (cap : Nat) (zs : List VerV) (m : Int) (x : List RowV) (w : World) (hz : VersA w A zs) (hl : zs.length ≤ 1048576) (hx : liveS zs m = x) :
    Calls Try.prog 71 #[.slice A zs.length cap, .int .i64 m] w (GetsE rowC 4 72 w x) := by
  subst hx; exact l5Live_any A cap zs m w hz hl
/-- What lies in two slots: tables. -/
def AtTwo (W : World) (x y : List RowV) (s1 s2 : Value) (wx : World) : Prop :=
  (∃ A c, s1 = .slice A x.length c ∧ RowsA wx A x) ∧ (∃ A c, s2 = .slice A y.length c ∧ RowsA wx A y) ∧ Below W.heap.size W wx
def AtOne (W : World) (x : List RowV) (s1 : Value) (wx : World) : Prop := (∃ A c, s1 = .slice A x.length c ∧ RowsA wx A x) ∧ Below W.heap.size W wx

set_option maxRecDepth 100000 in
set_option maxHeartbeats 8000000 in
theorem StoreDiff_any (A : Option Addr) (cap : Nat) (zs : List VerV) (now a b : Int) (w : World) (hz : VersA w A zs) (hl : zs.length ≤ 1048577) (hs : ShortV zs) :
    Calls Try.prog 57 #[.agg #[.int .i64 now, .slice A zs.length cap], .int .i64 a, .int .i64 b] w (Gets2 w (besides (storeAtL zs now a) (storeAtL zs now b)) (besides (storeAtL zs now b) (storeAtL zs now a))) := by
  have HS := Lib.hid hs
  clear hs
  obtain ⟨sb, hsb⟩ : ∃ sb, storeB zs now = sb := ⟨_, rfl⟩
  have HSB := Lib.hid hsb
  obtain ⟨x, hx⟩ : ∃ x, storeAtL zs now a = x := ⟨_, rfl⟩
  obtain ⟨y, hy⟩ : ∃ y, storeAtL zs now b = y := ⟨_, rfl⟩
  have hxl := storeAtL_len zs now a
  have hyl := storeAtL_len zs now b
  rw [hx] at hxl
  rw [hy] at hyl
  have HX := Lib.hid hx
  have HY := Lib.hid hy
  rw [hx, hy]
  clear hsb hx hy
  go_enter Try.func57, Try.ntmps57
  go_wp2_with fail
  generalize hW : w.alloc _ = W0
  have s0 : W0.cell? ⟨w.heap.size, 0, none⟩ = some (.int .i64 now) := by rw [← hW]; simp [go_sem]
  have s1 : W0.cell? ⟨w.heap.size, 1, none⟩ = some (.slice A zs.length cap) := by rw [← hW]; simp [go_sem]
  have ls : w.heap.size < W0.heap.size := by rw [← hW]; simp
  have B0 := Lib.hid (show Below w.heap.size w W0 from by rw [← hW]; exact (Below.refl _ _).alloc (Nat.le_refl _) _)
  have HZ := Lib.hid (hz.below B0.out)
  obtain ⟨G, hG⟩ : ∃ G, w.heap.size = G := ⟨_, rfl⟩
  rw [hG] at s0 s1 ls ⊢
  clear hW hG hz
  refine (StoreOk_any A cap zs now _ HZ.out hl HS.out).mono ?_
  rw [HSB.out]
  rintro e w1 ⟨rfl, hb⟩
  replace s0 := cellBelow hb ls s0
  replace s1 := cellBelow hb ls s1
  have ls1 := Nat.lt_of_lt_of_le ls hb.size
  have Z1 := Lib.hid (HZ.out.below hb)
  have B1 := Lib.hid (B0.out.trans (hb.mono B0.out.size))
  clear hb HZ B0 ls
  cases sb
  · obtain rfl : x = [] := by rw [← HX.out, storeAtL, if_neg (by rw [HSB.out]; simp)]
    obtain rfl : y = [] := by rw [← HY.out, storeAtL, if_neg (by rw [HSB.out]; simp)]
    go_wp2
    refine bodyPost_ret (v := .tuple #[.slice none 0 0, .slice none 0 0]) (by simp [results, Try.results57, go_sem]) rfl ?_
    exact ⟨none, 0, none, 0, rfl, World.ownsRow_nil _ _ _ _, World.ownsRow_nil _ _ _ _, .inl rfl, B1.out⟩
  · have HXL := Lib.hid (show liveS zs (min a now) = x from by rw [← HX.out, storeAtL, if_pos HSB.out])
    have HYL := Lib.hid (show liveS zs (min b now) = y from by rw [← HY.out, storeAtL, if_pos HSB.out])
    have hq0 : Below w1.heap.size w1 w1 := Below.refl _ _
    have hB1 := B1.out.size
    go_upto_region 3 with fail
    go_cut [8, 9] (fun s1 s2 wx => AtTwo w1 x y s1 s2 wx)
    case first =>
      go_region_held3 (fun w' => w'.cell? ⟨G, 0, none⟩ = some (.int .i64 now) ∧ w'.cell? ⟨G, 1, none⟩ = some (.slice A zs.length cap) ∧ w1.heap.size ≤ w'.heap.size ∧ Below w1.heap.size w1 w')
        (((try go_split_ands); refine ⟨?cc90, ?cc91, ?sz9, ?bl9⟩; (case cc90 => (repeat (first | with_reducible assumption | with_reducible refine cell_below hb (by first | omega | (simp; done) | (simp; omega)) ?_ | with_reducible refine cell_set_far (by first | omega | (simp; done) | (simp; omega)) ?_ | with_reducible exact cell_alloc_swap (by with_reducible assumption) (by first | omega | (simp; done) | (simp; omega)) | with_reducible refine cell_alloc_far ?_ | with_reducible refine cell_drew ?_))); (case cc91 => (repeat (first | with_reducible assumption | with_reducible refine cell_below hb (by first | omega | (simp; done) | (simp; omega)) ?_ | with_reducible refine cell_set_far (by first | omega | (simp; done) | (simp; omega)) ?_ | with_reducible exact cell_alloc_swap (by with_reducible assumption) (by first | omega | (simp; done) | (simp; omega)) | with_reducible refine cell_alloc_far ?_ | with_reducible refine cell_drew ?_))); (case sz9 => (first | with_reducible assumption | (have := hb.size; omega) | omega | (simp; done) | (simp; omega) | (have := hb.size; simp at this ⊢; omega))); (case bl9 => (repeat (first | with_reducible assumption | with_reducible exact hq0 | with_reducible refine Below.drew ?_ | with_reducible refine Below.trans ?_ (hb.mono (by first | omega | (simp; done) | (simp; omega))) | with_reducible refine Below.setCell ?_ (by first | omega | (simp; done) | (simp; omega)) _ | with_reducible exact below_alloc_swap (by with_reducible assumption) (by first | omega | (simp; done) | (simp; omega)) | with_reducible refine Below.alloc ?_ (by first | omega | (simp; done) | (simp; omega)) _)))))
        (first
          | (go_at_call 78; (try go_split_ands); (with_reducible refine (storeAtV A cap zs now a x _ (Z1.out.below (by (repeat (first | with_reducible assumption | with_reducible exact hq0 | with_reducible refine Below.drew ?_ | with_reducible refine Below.trans ?_ (hb.mono (by first | omega | (simp; done) | (simp; omega))) | with_reducible refine Below.setCell ?_ (by first | omega | (simp; done) | (simp; omega)) _ | with_reducible exact below_alloc_swap (by with_reducible assumption) (by first | omega | (simp; done) | (simp; omega)) | with_reducible refine Below.alloc ?_ (by first | omega | (simp; done) | (simp; omega)) _)))) hl HSB.out HXL.out).mono ?_); rintro e wA ⟨AA, cA, rfl, hoA, hb⟩; have RA := Lib.hid (show RowsA wA AA x from el_of_owns rowC_len hoA); clear hoA; (try have RB2 := Lib.hid (RB.out.below hb)); have hsz : w1.heap.size ≤ wA.heap.size := (by have := hb.size; first | omega | (simp at this; omega)); obtain ⟨hc, hf, hlb⟩ := bcell3 hb)
          | (go_at_call 78; (try go_split_ands); (with_reducible refine (storeAtV A cap zs now b y _ (Z1.out.below (by (repeat (first | with_reducible assumption | with_reducible exact hq0 | with_reducible refine Below.drew ?_ | with_reducible refine Below.trans ?_ (hb.mono (by first | omega | (simp; done) | (simp; omega))) | with_reducible refine Below.setCell ?_ (by first | omega | (simp; done) | (simp; omega)) _ | with_reducible exact below_alloc_swap (by with_reducible assumption) (by first | omega | (simp; done) | (simp; omega)) | with_reducible refine Below.alloc ?_ (by first | omega | (simp; done) | (simp; omega)) _)))) hl HSB.out HYL.out).mono ?_); rintro e wB ⟨AB, cB, rfl, hoB, hb⟩; have RB := Lib.hid (show RowsA wB AB y from el_of_owns rowC_len hoB); clear hoB; (try have RA2 := Lib.hid (RA.out.below hb)); have hsz : w1.heap.size ≤ wB.heap.size := (by have := hb.size; first | omega | (simp at this; omega)); obtain ⟨hc, hf, hlb⟩ := bcell3 hb))
      all_goals (go_wp2_with fail; go_meet; unfold AtTwo; rename_i hH; exact ⟨⟨AA, cA, rfl, by first | exact RA2.out | exact RA.out⟩, ⟨AB, cB, rfl, by first | exact RB2.out | exact RB.out⟩, hH.2.2.2⟩)
    case rest =>
      obtain ⟨⟨AX, cX, rfl, hrx⟩, ⟨AY, cY, rfl, hry⟩, hb⟩ := hcut
      have RX := Lib.hid hrx
      have RY := Lib.hid hry
      have B2 := Lib.hid (B1.out.trans (hb.mono B1.out.size))
      clear hrx hry hb B1 Z1 hq0 hB1 s0 s1 ls1
      go_wp2_with fail
      refine (rowsBeside_any AX AY cX cY x y _ RX.out RY.out (by omega) (by omega)).mono ?_
      have hp1 := besides_len x y
      have hp2 := besides_len y x
      have BQ := Lib.hid (show ∀ W' : World, RowsA W' AY y → RowsA W' AX x → Calls Try.prog 97 #[.slice AY y.length cY, .slice AX x.length cX] W' (GetsE rowC 4 72 W' (besides y x)) from fun W' h1 h2 => rowsBeside_any AY AX cY cX y x W' h1 h2 (by omega) (by omega))
      generalize besides x y = p at *
      generalize besides y x = q at *
      rintro e w3 ⟨A3, c3, rfl, ho, hb⟩
      have O3 := Lib.hid ho
      have RX3 := Lib.hid (RX.out.below hb)
      have RY3 := Lib.hid (RY.out.below hb)
      have hs2 := B2.out.size
      have B3 := Lib.hid (B2.out.trans (hb.mono B2.out.size))
      clear ho hb RX RY B2
      go_wp2_with fail
      refine (BQ.out _ RY3.out RX3.out).mono ?_
      rintro e w4 ⟨A4, c4, rfl, ho, hb⟩
      have AP := Lib.hid (ownsApart O3.out (Nat.le_refl _) (Nat.le_refl _) ho)
      have O4 := Lib.hid (ownsBase (base' := w.heap.size) ho B3.out.size)
      have K4 := Lib.hid (ownsBase (base' := w.heap.size) (ownsKeep O3.out hb) hs2)
      have B4 := Lib.hid (B3.out.trans (hb.mono B3.out.size))
      clear ho hb O3 RX3 RY3 B3
      go_wp2
      refine bodyPost_ret (v := .tuple #[.slice A3 p.length c3, .slice A4 q.length c4]) (by simp [results, Try.results57, go_sem]) rfl ?_
      exact ⟨A3, c3, A4, c4, rfl, K4.out, O4.out, AP.out, B4.out⟩

end Go.Proofs.Ytacddgipcafdlaa
