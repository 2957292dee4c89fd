/-
  Walks: how rows stand to a span.
-/
import Derived.Test.YtmfpojminbkojaaStandS
import Derived.Test.YtmfpojminbkojaaRelS
import Derived.Test.YtmfpojminbkojaaElI
import Derived.OwnWalk
import Derived.Deep.AppendLies
import Derived.Deep.RegionLaw
import Derived.Lib.OwnBridge
import Derived.Deep.RegionHeld3
import Derived.Deep.DeepCutAuto
namespace Go.Proofs.Ytmfpojminbkojaa
open Go.RowKit Go.Lib

def standR (c d : Int) (r : RowV) : Int := standI r.f r.e c d
def standAllL (zs : List RowV) (c d : Int) : List Int := if (relOk zs && okB c d) = true then zs.map (standR c d) else []
theorem standAllL_len (zs : List RowV) (c d : Int) : (standAllL zs c d).length ≤ 24 := by
  unfold standAllL
  split
  · rename_i h
    have := relOk_len (show relOk zs = true by simp only [Bool.and_eq_true] at h; exact h.1)
    rw [List.length_map]; exact this
  · simp
theorem stand_take {zs : List RowV} {k : Nat} {x : RowV} (c d : Int) (hx : zs[k]? = some x) : (zs.take (k + 1)).map (standR c d) = (zs.take k).map (standR c d) ++ [standR c d x] := by
  obtain ⟨hk, hx⟩ := List.getElem?_eq_some_iff.1 hx
  rw [List.take_succ_eq_append_getElem hk, List.map_append, hx]; rfl
theorem row_lt {zs : List RowV} {k : Nat} {x : RowV} (h : relOk zs = true) (hx : zs[k]? = some x) : x.f < x.e := by
  have hk := (List.getElem?_eq_some_iff.1 hx).1
  have := relOk_each h hk
  simp only [relAt, rowOk, getD_of hx, Bool.and_eq_true, okSpan, decide_eq_true_eq] at this
  omega
theorem Try.infoT3 : (Try.prog.info? 3).map (fun i => (i.zero, i.size, i.bytes)) = some (some (.int .i64 0), 1, 8) := by kernel_rfl
theorem news1 {w : World} {g : Nat} {f : Value} (h0 : w.cell? ⟨g, 0, none⟩ = some f) : ∀ j u, [f][j]? = some u → w.cell? ((⟨g, 0, none⟩ : Addr).add j) = some u := by
  intro j u h
  match j, h with
  | 0, h => simp at h; subst h; simpa [Addr.add] using h0
  | j + 1, h => simp at h
theorem ownInts {w : World} {base n : Nat} {v : Value} {o : List Int} {x : Int} {t : TypeId} (h : w.ownsRow base t 1 v n (flatOf intC o ++ [.int .i64 x])) (hn : n = o.length + 1) : w.ownsRow base t 1 v (o ++ [x]).length (flatOf intC (o ++ [x])) := by
  rw [flatOf_append, flatOf_one, List.length_append, List.length_singleton]
  subst hn
  exact h

set_option maxRecDepth 100000 in
set_option maxHeartbeats 4000000 in
theorem StandAll_any (A : Option Addr) (cap : Nat) (zs : List RowV) (c d : Int) (w : World) (hz : RowsA w A zs) (hl : zs.length ≤ 1048577) (hs : ∀ r ∈ zs, r.k.size ≤ maxLen ∧ r.t.size ≤ maxLen) :
    Calls Try.prog 23 #[.slice A zs.length cap, .agg #[.int .i64 c, .int .i64 d]] w (GetsE intC 1 3 w (standAllL zs c d)) := by
  obtain ⟨i0, hi, hz0, hz1, hz2⟩ := info_parts Try.infoT3
  have Hi := Lib.hid hi
  have Hz0 := Lib.hid hz0
  have Hz1 := Lib.hid hz1
  have Hz2 := Lib.hid hz2
  have HS := Lib.hid hs
  clear hi hz0 hz1 hz2 hs
  obtain ⟨o, ho⟩ : ∃ o, relOk zs = o := ⟨_, rfl⟩
  have HO := Lib.hid ho
  obtain ⟨u, hu⟩ : ∃ u, okB c d = u := ⟨_, rfl⟩
  have HU := Lib.hid hu
  obtain ⟨r, hr⟩ : ∃ r, standAllL zs c d = r := ⟨_, rfl⟩
  have HR := Lib.hid hr
  rw [hr]
  clear ho hu hr
  go_enter Try.func23, Try.ntmps23
  go_wp2_with fail
  generalize hW : w.alloc _ = W0
  have s0 : W0.cell? ⟨w.heap.size, 0, none⟩ = some (.int .i64 c) := by rw [← hW]; simp [go_sem]
  have s1 : W0.cell? ⟨w.heap.size, 1, none⟩ = some (.int .i64 d) := by rw [← hW]; simp [go_sem]
  have ls : w.heap.size < W0.heap.size := by rw [← hW]; simp
  have B0 := Lib.hid (show Below w.heap.size w W0 from by rw [← hW]; exact (Below.refl _ _).alloc (Nat.le_refl _) _)
  have HZ := Lib.hid (hz.below B0.out)
  obtain ⟨G, hG⟩ : ∃ G, w.heap.size = G := ⟨_, rfl⟩
  have hGle : w.heap.size ≤ G := Nat.le_of_eq hG
  rw [hG] at s0 s1 ls ⊢
  clear hW hG
  refine (RelOk_any A cap zs _ HZ.out hl HS.out).mono ?_
  rw [HO.out]
  rintro e w1 ⟨rfl, hb⟩
  replace s0 := cellBelow hb ls s0
  replace s1 := cellBelow hb ls s1
  have ls1 := Nat.lt_of_lt_of_le ls hb.size
  have B1 := Lib.hid (B0.out.trans (hb.mono B0.out.size))
  have Z0 := Lib.hid hz
  clear hb HZ B0 ls hz
  cases o
  · have HE := Lib.hid (show r = [] from by rw [← HR.out, standAllL, HO.out]; rfl)
    go_wp2
    go_ret
    rw [HE.out]
    exact getsE_nil _ _ _ B1.out
  go_wp2_with fail
  refine (ok_any c d _).mono ?_
  rw [HU.out]
  rintro e w2 ⟨rfl, hb⟩
  replace s0 := cellBelow hb ls1 s0
  replace s1 := cellBelow hb ls1 s1
  have ls2 := Nat.lt_of_lt_of_le ls1 hb.size
  have B2 := Lib.hid (B1.out.trans (hb.mono B1.out.size))
  clear hb B1 ls1
  cases u
  · have HE := Lib.hid (show r = [] from by rw [← HR.out, standAllL, HO.out, HU.out]; rfl)
    go_wp2
    go_ret
    rw [HE.out]
    exact getsE_nil _ _ _ B2.out
  have HE := Lib.hid (show r = zs.map (standR c d) from by rw [← HR.out, standAllL, HO.out, HU.out]; rfl)
  have hcd := okB_lt HU.out
  go_wp2
  have S0 := Lib.hid s0
  have S1 := Lib.hid s1
  clear s0 s1
  go_loopw [5, 18] (fun v i wr => ∃ k : Nat, k ≤ zs.length ∧ i = .int .i64 (k : Int) ∧ wr.ownsRow (G + 1) 3 1 v ((zs.take k).map (standR c d)).length (flatOf intC ((zs.take k).map (standR c d))) ∧ Below (G + 1) w2 wr) (fun _ i _ => zs.length - (intOf i).toNat)
  case atStart => exact ⟨0, Nat.zero_le _, rfl, World.ownsRow_nil _ _ _ _, Below.refl _ _⟩
  case round =>
    obtain ⟨k, hk, rfl, hown, hbr⟩ := hrel
    have Hown := Lib.hid hown
    clear hown
    have hsz := hbr.size
    have t0 : wr.cell? ⟨G, 0, none⟩ = some (.int .i64 c) := (hbr.cell (p := ⟨G, 0, none⟩) (show G < G + 1 by omega)).trans S0.out
    have t1 : wr.cell? ⟨G, 1, none⟩ = some (.int .i64 d) := (hbr.cell (p := ⟨G, 1, none⟩) (show G < G + 1 by omega)).trans S1.out
    have BW := Lib.hid (B2.out.trans (hbr.mono (by omega)))
    by_cases hlt : k < zs.length
    · obtain ⟨b, off, x, rfl, hb, hx, c0, c1, c2, c3⟩ := (Z0.out.below BW.out).at_ hlt
      have HT := Lib.hid (stand_take c d hx)
      have hfe := row_lt HO.out hx
      have hlo : ((zs.take k).map (standR c d)).length ≤ k := by rw [List.length_map, List.length_take]; omega
      obtain ⟨oo, hoo⟩ : ∃ oo, (zs.take k).map (standR c d) = oo := ⟨_, rfl⟩
      rw [hoo] at Hown HT hlo
      clear hx hoo
      have hGwr : G < wr.heap.size := by omega
      have hkz : (k : Int) < (zs.length : Int) := by omega
      have hkz0 : (0 : Int) ≤ (k : Int) := by omega
      go_wp2_with fail
      generalize hWX : wr.alloc _ = WX
      have B3 := Lib.hid (show Below wr.heap.size wr WX from by rw [← hWX]; exact (Below.refl _ _).alloc (Nat.le_refl _) _)
      clear hWX
      refine (stand_any x.f x.e c d _ hfe hcd).mono ?_
      rintro e w3 ⟨rfl, hb3⟩
      have HX := Lib.hid (show standI x.f x.e c d = standR c d x from rfl)
      rw [HX.out]
      have B4 := Lib.hid (B3.out.trans (hb3.mono B3.out.size))
      have B5 := Lib.hid (hbr.trans (B4.out.mono (by omega)))
      have Hown3 := Lib.hid (ownsKeep Hown.out B4.out)
      have hs3 : wr.heap.size ≤ w3.heap.size := B4.out.size
      clear hb3 B3 Hown hbr c0 c1 c2 c3 HX
      generalize standR c d x = sx at *
      go_wp2_with (at_builtin; refine wpList_append_own _ rfl _ _ 28 rfl (G + 1) 3 i0 _ 1 8 Try.underlying28 Hi.out Hz0.out Hz1.out Hz2.out rfl (by decide) _ oo.length (flatOf intC oo) rfl (Hown3.out.alloc _) ⟨w3.heap.size, 0, none⟩ 1 1 [.int .i64 sx] rfl rfl (news1 (by simp)) (by simp [Value.oneCell']) (by unfold maxLen; omega) (by omega) (by simp; omega) ?_; intro v' w4 hown' hgrow hnil)
      have O4 := Lib.hid (ownInts (x := sx) hown' rfl)
      have B6 := Lib.hid ((B5.out.alloc (by omega) _).grown hgrow (by simp; omega) (fun i e => by have := (Hown3.out.lt i e).1; omega))
      clear hown' hgrow hnil
      go_wp2
      go_roundw
      case rel => exact ⟨k + 1, by omega, by go_num, by rw [HT.out]; exact O4.out, B6.out⟩
      case measure => simp [intOf]; omega
    · obtain rfl : k = zs.length := by omega
      obtain ⟨oo, hoo⟩ : ∃ oo, (zs.take zs.length).map (standR c d) = oo := ⟨_, rfl⟩
      have HN := Lib.hid (show r = oo from by rw [HE.out, ← hoo, List.take_length])
      rw [hoo] at Hown
      clear hoo
      obtain ⟨A', c', hv⟩ := owns_sliceE Hown.out
      subst hv
      go_wp2
      go_ret
      rw [HN.out]
      exact ⟨A', c', rfl, ownsBase Hown.out (by omega), BW.out⟩

theorem l10Of_val (a b c d : Int) (w : World) (v : Int) (h1 : a < b) (h2 : c < d) (h : standI a b c d = v) :
    Calls Try.prog 43 #[.agg #[.int .i64 a, .int .i64 b], .agg #[.int .i64 c, .int .i64 d]] w fun e w' => e = .returned (.int .i64 v) ∧ Below w.heap.size w w' := by
  subst h; exact l10Of_any a b c d w h1 h2

set_option maxRecDepth 100000 in
set_option maxHeartbeats 4000000 in
theorem sStandAll_any (A : Option Addr) (cap : Nat) (zs : List RowV) (c d : Int) (w : World) (hz : RowsA w A zs) (hl : zs.length ≤ 1048577) (hs : ∀ r ∈ zs, r.k.size ≤ maxLen ∧ r.t.size ≤ maxLen) :
    Calls Try.prog 21 #[.slice A zs.length cap, .agg #[.int .i64 c, .int .i64 d]] w (GetsE intC 1 3 w (standAllL zs c d)) := by
  obtain ⟨i0, hi, hz0, hz1, hz2⟩ := info_parts Try.infoT3
  have Hi := Lib.hid hi
  have Hz0 := Lib.hid hz0
  have Hz1 := Lib.hid hz1
  have Hz2 := Lib.hid hz2
  have HS := Lib.hid hs
  clear hi hz0 hz1 hz2 hs
  obtain ⟨o, ho⟩ : ∃ o, relOk zs = o := ⟨_, rfl⟩
  have HO := Lib.hid ho
  obtain ⟨u, hu⟩ : ∃ u, okB c d = u := ⟨_, rfl⟩
  have HU := Lib.hid hu
  obtain ⟨r, hr⟩ : ∃ r, standAllL zs c d = r := ⟨_, rfl⟩
  have HR := Lib.hid hr
  rw [hr]
  clear ho hu hr
  go_enter Try.func21, Try.ntmps21
  go_wp2
  have hOW := World.ownsRow_lit (base := w.heap.size + 1) (e := 3) (size := 1) (w.alloc (.cells #[.int .i64 c, .int .i64 d] 25)) #[] 0 (by simp) (by simp [maxLen]) (by simp)
  generalize hW : (w.alloc _).alloc _ = W0
  have s0 : W0.cell? ⟨w.heap.size, 0, none⟩ = some (.int .i64 c) := by rw [← hW]; simp [go_sem]
  have s1 : W0.cell? ⟨w.heap.size, 1, none⟩ = some (.int .i64 d) := by rw [← hW]; simp [go_sem]
  have ls : w.heap.size < W0.heap.size := by rw [← hW]; simp; omega
  have B0 := Lib.hid (show Below w.heap.size w W0 from by rw [← hW]; exact ((Below.refl _ _).alloc (Nat.le_refl _) _).alloc (by simp) _)
  have OW := Lib.hid (show W0.ownsRow (w.heap.size + 1) 3 1 (.slice (some ⟨w.heap.size + 1, 0, none⟩) 0 0) 0 (flatOf intC []) from by rw [← hW]; simpa [flatOf] using hOW)
  obtain ⟨G, hG⟩ : ∃ G, w.heap.size = G := ⟨_, rfl⟩
  have hGle : w.heap.size ≤ G := Nat.le_of_eq hG
  rw [hG] at s0 s1 ls OW ⊢
  have Z0 := Lib.hid hz
  clear hW hG hOW hz
  have S0 := Lib.hid s0
  have S1 := Lib.hid s1
  clear s0 s1
  go_loopw [5, 6] (fun v i wr => ∃ k : Nat, k ≤ zs.length ∧ (0 < k → o = true ∧ u = true) ∧ i = .int .i64 (k : Int) ∧ wr.ownsRow (G + 1) 3 1 v ((zs.take k).map (standR c d)).length (flatOf intC ((zs.take k).map (standR c d))) ∧ Below (G + 1) W0 wr) (fun _ i _ => zs.length - (intOf i).toNat)
  case atStart => exact ⟨0, Nat.zero_le _, (fun h => absurd h (by decide)), rfl, OW.out, Below.refl _ _⟩
  case round =>
    obtain ⟨k, hk, hou, rfl, hown, hbr⟩ := hrel
    have Hown := Lib.hid hown
    have HOU := Lib.hid hou
    clear hown hou
    have hsz := hbr.size
    have t0 : wr.cell? ⟨G, 0, none⟩ = some (.int .i64 c) := (hbr.cell (p := ⟨G, 0, none⟩) (show G < G + 1 by omega)).trans S0.out
    have t1 : wr.cell? ⟨G, 1, none⟩ = some (.int .i64 d) := (hbr.cell (p := ⟨G, 1, none⟩) (show G < G + 1 by omega)).trans S1.out
    have BW := Lib.hid (B0.out.trans (hbr.mono (by omega)))
    have hGwr : G < wr.heap.size := by omega
    by_cases hlt : k < zs.length
    · have hkz : (k : Int) < (zs.length : Int) := by omega
      have hkz0 : (0 : Int) ≤ (k : Int) := by omega
      go_wp2_with fail
      refine (l2Ok_any A cap zs _ (Z0.out.below BW.out) hl HS.out).mono ?_
      rw [HO.out]
      rintro e w1 ⟨rfl, hb⟩
      replace t0 := cellBelow hb hGwr t0
      replace t1 := cellBelow hb hGwr t1
      have hG1 := Nat.lt_of_lt_of_le hGwr hb.size
      have Hown1 := Lib.hid (ownsKeep Hown.out hb)
      have B1 := Lib.hid (hbr.trans (hb.mono (by omega)))
      have BW1 := Lib.hid (BW.out.trans (hb.mono BW.out.size))
      clear hb hbr Hown BW
      cases o
      · obtain rfl : k = 0 := by
          by_cases h : 0 < k
          · exact absurd (HOU.out h).1 (by decide)
          · omega
        have HN := Lib.hid (show r = [] from by rw [← HR.out, standAllL, HO.out]; rfl)
        obtain ⟨A', c', hv⟩ := owns_sliceE Hown1.out
        subst hv
        have Hown2 := Lib.hid (show w1.ownsRow (G + 1) 3 1 (.slice A' 0 c') 0 (flatOf intC []) from Hown1.out)
        clear Hown1
        go_wp2
        go_ret
        rw [HN.out]
        exact ⟨A', c', rfl, ownsBase Hown2.out (by omega), BW1.out⟩
      go_wp2_with fail
      refine (l1Ok_any c d _).mono ?_
      rw [HU.out]
      rintro e w2 ⟨rfl, hb⟩
      replace t0 := cellBelow hb hG1 t0
      replace t1 := cellBelow hb hG1 t1
      have hG2 := Nat.lt_of_lt_of_le hG1 hb.size
      have Hown2 := Lib.hid (ownsKeep Hown1.out hb)
      have B2 := Lib.hid (B1.out.trans (hb.mono (by omega)))
      have BW2 := Lib.hid (BW1.out.trans (hb.mono BW1.out.size))
      clear hb Hown1 B1 BW1
      cases u
      · obtain rfl : k = 0 := by
          by_cases h : 0 < k
          · exact absurd (HOU.out h).2 (by decide)
          · omega
        have HN := Lib.hid (show r = [] from by rw [← HR.out, standAllL, HO.out, HU.out]; rfl)
        obtain ⟨A', c', hv⟩ := owns_sliceE Hown2.out
        subst hv
        have Hown3 := Lib.hid (show w2.ownsRow (G + 1) 3 1 (.slice A' 0 c') 0 (flatOf intC []) from Hown2.out)
        clear Hown2
        go_wp2
        go_ret
        rw [HN.out]
        exact ⟨A', c', rfl, ownsBase Hown3.out (by omega), BW2.out⟩
      obtain ⟨b, off, x, hAe, hb, hx, c0, c1, c2, c3⟩ := (Z0.out.below BW2.out).at_ hlt
      have hbw : b < w.heap.size := by
        obtain ⟨b', off', hAe', hlt', _⟩ := Z0.out (by omega)
        rw [hAe] at hAe'
        injection hAe' with e1
        injection e1 with e1
        subst e1
        exact hlt'
      subst hAe
      have HT := Lib.hid (stand_take c d hx)
      have hfe := row_lt HO.out hx
      have hcd := okB_lt HU.out
      have hlo : ((zs.take k).map (standR c d)).length ≤ k := by rw [List.length_map, List.length_take]; omega
      obtain ⟨oo, hoo⟩ : ∃ oo, (zs.take k).map (standR c d) = oo := ⟨_, rfl⟩
      rw [hoo] at Hown2 HT hlo
      clear hx hoo
      have hs2 : G + 1 ≤ w2.heap.size := hG2
      have hq0 : Below w2.heap.size w2 w2 := Below.refl _ _
      obtain ⟨sx, hsx⟩ : ∃ sx, standR c d x = sx := ⟨_, rfl⟩
      have HX := Lib.hid (show standI x.f x.e c d = sx from hsx)
      rw [hsx] at HT
      clear hsx
      obtain ⟨A', c', hv⟩ := owns_sliceE Hown2.out
      subst hv
      have agb : (Value.slice A' oo.length c').ownBlock ≠ some b := fun e => by have := (Hown2.out.lt b e).1; omega
      have agG : (Value.slice A' oo.length c').ownBlock ≠ some G := fun e => by have := (Hown2.out.lt G e).1; omega
      go_upto_region 5 with fail
      go_region_held3 (fun w' => w'.cell? ⟨b, off + k * 4 + 2, none⟩ = some (.int .i64 x.f) ∧ w'.cell? ⟨b, off + k * 4 + 3, none⟩ = some (.int .i64 x.e) ∧ w'.cell? ⟨G, 0, none⟩ = some (.int .i64 c) ∧ w'.cell? ⟨G, 1, none⟩ = some (.int .i64 d))
        (((try go_split_ands); refine ⟨?cc90, ?cc91, ?cc92, ?cc93⟩; (case cc90 => (repeat (first | with_reducible assumption | (rw [hgrow.cell_far _ (by simp; omega) (Ne.symm agb)]) | (rw [hgrow.cell_far _ (by simp; omega) (Ne.symm agG)]) | with_reducible refine cell_below hb (by first | omega | (simp; done) | (simp; omega)) ?_ | with_reducible exact cell_alloc_swap (by with_reducible assumption) (by first | omega | (simp; done) | (simp; omega)) | with_reducible refine cell_alloc_far ?_ | with_reducible refine cell_drew ?_))); (case cc91 => (repeat (first | with_reducible assumption | (rw [hgrow.cell_far _ (by simp; omega) (Ne.symm agb)]) | (rw [hgrow.cell_far _ (by simp; omega) (Ne.symm agG)]) | with_reducible refine cell_below hb (by first | omega | (simp; done) | (simp; omega)) ?_ | with_reducible exact cell_alloc_swap (by with_reducible assumption) (by first | omega | (simp; done) | (simp; omega)) | with_reducible refine cell_alloc_far ?_ | with_reducible refine cell_drew ?_))); (case cc92 => (repeat (first | with_reducible assumption | (rw [hgrow.cell_far _ (by simp; omega) (Ne.symm agb)]) | (rw [hgrow.cell_far _ (by simp; omega) (Ne.symm agG)]) | with_reducible refine cell_below hb (by first | omega | (simp; done) | (simp; omega)) ?_ | with_reducible exact cell_alloc_swap (by with_reducible assumption) (by first | omega | (simp; done) | (simp; omega)) | with_reducible refine cell_alloc_far ?_ | with_reducible refine cell_drew ?_))); (case cc93 => (repeat (first | with_reducible assumption | (rw [hgrow.cell_far _ (by simp; omega) (Ne.symm agb)]) | (rw [hgrow.cell_far _ (by simp; omega) (Ne.symm agG)]) | with_reducible refine cell_below hb (by first | omega | (simp; done) | (simp; omega)) ?_ | with_reducible exact cell_alloc_swap (by with_reducible assumption) (by first | omega | (simp; done) | (simp; omega)) | with_reducible refine cell_alloc_far ?_ | with_reducible refine cell_drew ?_)))))
        (first
          | (go_at_call 43; (try go_split_ands); refine (l10Of_val x.f x.e c d _ sx hfe hcd HX.out).mono ?_; rintro e wA ⟨rfl, hb⟩; have BA := Lib.hid (show Below w2.heap.size w2 wA from (by (repeat (first | with_reducible assumption | with_reducible exact hq0 | with_reducible refine Below.drew ?_ | with_reducible refine Below.trans ?_ (hb.mono (by first | omega | (simp; done) | (simp; omega))) | with_reducible refine Below.setCell ?_ (by first | omega | (simp; done) | (simp; omega)) _ | with_reducible exact below_alloc_swap (by with_reducible assumption) (by first | omega | (simp; done) | (simp; omega)) | with_reducible refine Below.alloc ?_ (by first | omega | (simp; done) | (simp; omega)) _)))); have hsA := BA.out.size)
          | (refine step_append_lies _ (by rfl) _ _ _ (by rfl) (G + 1) 3 i0 _ 1 8 Try.underlying28 Hi.out Hz0.out Hz1.out Hz2.out rfl (by omega) (.slice A' oo.length c') oo.length (flatOf intC oo) (by rfl) ((ownsKeep Hown2.out BA.out).alloc _) ⟨wA.heap.size, 0, none⟩ 1 1 [.int .i64 sx] (by rfl) (by rfl) (World.news_of_block (cs := #[.int .i64 sx]) (t := 3) (fr := (0, 0)) (heap_alloc_new wA _)) (by simp [Value.oneCell']) (by omega) (by unfold maxLen; omega) (by omega) (by simp; omega) (wA.heap.size + 1) (by simp) ?_; intro gg cap1 w3 hown' hgrow hat hlt3))
      have O3 := Lib.hid (ownInts (x := sx) hown' rfl)
      have B3 := Lib.hid (((B2.out.trans (BA.out.mono (by omega))).alloc (by omega) _).grown hgrow (by simp; omega) (fun i e => by have := (Hown2.out.lt i e).1; omega))
      clear hown' hgrow hat
      go_wp2
      go_roundw
      case rel => exact ⟨k + 1, by omega, (by first | exact fun _ => ⟨rfl, rfl⟩ | simp), by go_num, by rw [HT.out]; exact O3.out, B3.out⟩
      case measure => simp [intOf]; omega
    · obtain rfl : k = zs.length := by omega
      obtain ⟨oo, hoo⟩ : ∃ oo, (zs.take zs.length).map (standR c d) = oo := ⟨_, rfl⟩
      have HN := Lib.hid (show r = oo from by
        rw [← HR.out, standAllL, ← hoo, List.take_length]
        by_cases h : 0 < zs.length
        · rw [HO.out, HU.out, (HOU.out h).1, (HOU.out h).2]; rfl
        · have h0 : zs = [] := List.length_eq_zero_iff.1 (by omega)
          subst h0
          split <;> rfl)
      rw [hoo] at Hown
      clear hoo
      obtain ⟨A', c', hv⟩ := owns_sliceE Hown.out
      subst hv
      go_wp2
      go_ret
      rw [HN.out]
      exact ⟨A', c', rfl, ownsBase Hown.out (by omega), BW.out⟩
end Go.Proofs.Ytmfpojminbkojaa
