/-
  The walk of the exact law of IndexMeet.
-/
import Derived.Test.YtphinkcfmdnpfaaRowM
import Derived.Test.YtphinkcfmdnpfaaNodM
import Derived.Test.YtphinkcfmdnpfaaIdxV
namespace Go.Proofs.Ytphinkcfmdnpfaa
open Go.RowKit Go.Lib

def AtRB (W : World) (zs : List RowV) (zb : Int) (s1 s2 : Value) (wx : World) : Prop :=
  ∃ A cap, s1 = .slice A zs.length cap ∧ s2 = .int .i64 zb ∧ wx.ownsRow W.heap.size 70 4 (.slice A zs.length cap) zs.length (flatOf rowC zs) ∧ Below W.heap.size W wx

set_option maxRecDepth 100000 in
set_option maxHeartbeats 8000000 in
theorem FnExactIndexMeet_any (A0 : Option Addr) (n0 cap0 : Nat) (zs0 : List NodV) (a1 b1 : Int) (w : World) (h0 : NodsA w A0 zs0 ∧ zs0.length = n0 ∧ n0 ≤ maxLen ∧ ∀ r ∈ zs0, r.r.k.size ≤ maxLen ∧ r.r.t.size ≤ maxLen) :
    Calls Try.prog 8 #[.slice A0 n0 cap0, .agg #[.int .i64 a1, .int .i64 b1]] w fun e w' => e = .returned (.bool true) ∧ Below w.heap.size w w' := by
  obtain ⟨hz0, rfl, hm0, hs0⟩ := h0
  have HZ0 := Lib.hid hz0
  clear hz0
  have HS0 := Lib.hid hs0
  clear hs0
  go_enter Try.func8, Try.ntmps8
  have Bw := Lib.hid (Below.refl w.heap.size w)
  go_wp2_with fail
  generalize hW : w.alloc _ = W0
  have x0 : W0.cell? ⟨w.heap.size, 0, none⟩ = some (.int .i64 a1) := by rw [← hW]; simp [go_sem]
  have x1 : W0.cell? ⟨w.heap.size, 1, none⟩ = some (.int .i64 b1) := by rw [← hW]; simp [go_sem]
  have lx : w.heap.size < W0.heap.size := by rw [← hW]; simp
  have BW0 := Lib.hid (show Below w.heap.size w W0 from by rw [← hW]; exact (Below.refl _ _).alloc (Nat.le_refl _) _)
  clear hW Bw
  refine (szNodeS_any _ _ _ _ _ (by omega) (by omega) (HZ0.out.below BW0.out) hm0 HS0.out).mono ?_
  rintro e w1 ⟨v0, rfl, hv0, hb⟩
  replace x0 := cellBelow hb lx x0
  replace x1 := cellBelow hb lx x1
  replace lx := Nat.lt_of_lt_of_le lx hb.size
  have Bw1 := Lib.hid (BW0.out.trans (hb.mono BW0.out.size))
  clear hb BW0
  rcases hv0 with rfl | ⟨hv00, hv01, hv02⟩
  · go_wp2
    go_ret
    exact ⟨rfl, Bw1.out⟩
  · skip
    have hl0 : zs0.length ≤ 1048577 := by omega
    have hd0 : decide (v0 < 0) = false := decide_eq_false (by omega)
    have hzl : ((metR zs0 a1 b1)).1.length ≤ 4194304 := (Nat.le_trans (metR_len zs0 a1 b1).1 (by omega))
    obtain ⟨pz, hzs⟩ : ∃ pz, (metR zs0 a1 b1) = pz := ⟨_, rfl⟩
    rw [hzs] at hzl
    have HZ := Lib.hid hzs
    clear hzs
    obtain ⟨zs, zb⟩ := pz
    replace hzl : zs.length ≤ 4194304 := hzl
    go_upto_region 5 with fail
    have hq0 : Below w1.heap.size w1 w1 := Below.refl _ _
    have hzW := Bw1.out.size
    go_cut [6, 7] (fun s1 s2 wx => AtRB w1 zs zb s1 s2 wx)
    case first =>
      go_region_held3 (fun w' => w'.cell? ⟨w.heap.size, 0, none⟩ = some (.int .i64 a1) ∧ w'.cell? ⟨w.heap.size, 1, none⟩ = some (.int .i64 b1) ∧ w1.heap.size ≤ w'.heap.size ∧ Below w1.heap.size w1 w')
        (((try go_split_ands); refine ⟨?cc90, ?cc91, ?sz9, ?bl9⟩; (case cc90 => (repeat (first | with_reducible assumption | with_reducible refine cell_below hb (by first | omega | (simp; done) | (simp; omega)) ?_ | with_reducible refine cell_set_far (by first | omega | (simp; done) | (simp; omega)) ?_ | with_reducible exact cell_alloc_swap (by with_reducible assumption) (by first | omega | (simp; done) | (simp; omega)) | with_reducible refine cell_alloc_far ?_ | with_reducible refine cell_drew ?_))); (case cc91 => (repeat (first | with_reducible assumption | with_reducible refine cell_below hb (by first | omega | (simp; done) | (simp; omega)) ?_ | with_reducible refine cell_set_far (by first | omega | (simp; done) | (simp; omega)) ?_ | with_reducible exact cell_alloc_swap (by with_reducible assumption) (by first | omega | (simp; done) | (simp; omega)) | with_reducible refine cell_alloc_far ?_ | with_reducible refine cell_drew ?_))); (case sz9 => (first | with_reducible assumption | (have := hb.size; omega) | omega | (simp; done) | (simp; omega) | (have := hb.size; simp at this ⊢; omega))); (case bl9 => (repeat (first | with_reducible assumption | with_reducible exact hq0 | with_reducible refine Below.drew ?_ | with_reducible refine Below.trans ?_ (hb.mono (by first | omega | (simp; done) | (simp; omega))) | with_reducible refine Below.setCell ?_ (by first | omega | (simp; done) | (simp; omega)) _ | with_reducible exact below_alloc_swap (by with_reducible assumption) (by first | omega | (simp; done) | (simp; omega)) | with_reducible refine Below.alloc ?_ (by first | omega | (simp; done) | (simp; omega)) _)))))
        (first
          | (go_at_call 41; refine (toNodeS_any _ _ _ _ (HZ0.out.below (by first | exact Bw1.out | exact Bw1.out.drew)) hl0).mono ?_; rintro e wA ⟨AA, cA, rfl, ho, hb⟩; have OA := Lib.hid ho; clear ho; have hsA : w1.heap.size ≤ wA.heap.size := (by have := hb.size; first | omega | (simp at this; omega)); obtain ⟨hc, hf, hlb⟩ := bcell3 hb)
          | (go_at_call 44; refine (toSpan_any _ _ _).mono ?_; rintro e wB ⟨rfl, hb⟩; have OB := Lib.hid (ownsKeep OA.out hb); have hsB : w1.heap.size ≤ wB.heap.size := (by have := hb.size; first | omega | (simp at this; omega)); obtain ⟨hc2, hf2, hlb2⟩ := bcell3 hb)
          | (go_at_call 43; refine (sIndexMeet_any _ _ zs0 a1 b1 _ (el_of_owns nodC_len OB.out) (owns_cap OB.out) hl0 HS0.out).mono ?_; rw [HZ.out]; rintro e wC ⟨AC, cC, rfl, ho, hb⟩; have OC := Lib.hid (ownsBase (base' := w1.heap.size) (show wC.ownsRow wB.heap.size 70 4 (.slice AC zs.length cC) zs.length (flatOf rowC zs) from ho) hsB); clear ho))
      all_goals (go_wp2_with fail; go_meet; unfold AtRB; rename_i hH; exact ⟨AC, cC, rfl, rfl, OC.out, hH.2.2.2⟩)
    case rest =>
      obtain ⟨AW0, cW0, rfl, rfl, ho, hb⟩ := hcut
      have OW0 := Lib.hid ho
      clear ho hq0 hzW
      have zzW0 := Bw1.out.size
      have zxW0 := lx
      replace x0 := cellBelow hb lx x0
      replace x1 := cellBelow hb lx x1
      replace lx := Nat.lt_of_lt_of_le lx hb.size
      have Bw3 := Lib.hid (Bw1.out.trans (hb.mono Bw1.out.size))
      clear Bw1
      clear hb
      go_wp2_with fail
      refine (toNodeS_any _ _ _ _ (HZ0.out.below Bw3.out) hl0).mono ?_
      rintro e w4 ⟨Ax0, cx0, rfl, ho, hb⟩
      have Ox0 := Lib.hid ho
      clear ho
      have zzx0 := Bw3.out.size
      have zxx0 := lx
      have aW0x0 := Lib.hid (ownsApart OW0.out (Nat.le_refl _) (Nat.le_refl _) Ox0.out)
      replace x0 := cellBelow hb lx x0
      replace x1 := cellBelow hb lx x1
      replace lx := Nat.lt_of_lt_of_le lx hb.size
      have Bw4 := Lib.hid (Bw3.out.trans (hb.mono Bw3.out.size))
      have Kw4W0 := Lib.hid (ownsKeep OW0.out hb)
      clear OW0
      clear Bw3
      clear hb
      go_wp2_with fail
      refine (toSpan_any _ _ _).mono ?_
      rintro e w5 ⟨rfl, hb⟩
      replace x0 := cellBelow hb lx x0
      replace x1 := cellBelow hb lx x1
      replace lx := Nat.lt_of_lt_of_le lx hb.size
      have Bw5 := Lib.hid (Bw4.out.trans (hb.mono Bw4.out.size))
      have Kw5W0 := Lib.hid (ownsKeep Kw4W0.out hb)
      clear Kw4W0
      have Kw5x0 := Lib.hid (ownsKeep Ox0.out hb)
      clear Ox0
      clear Bw4
      clear hb
      go_wp2_with fail
      refine (IndexMeet_any _ _ zs0 a1 b1 _ (el_of_owns nodC_len Kw5x0.out) hl0 HS0.out).mono ?_
      rw [HZ.out]
      rintro e w6 ⟨AG0, cG0, rfl, ho, hb⟩
      have OG0 := Lib.hid (show w6.ownsRow _ 70 4 (.slice AG0 zs.length cG0) zs.length (flatOf rowC zs) from ho)
      clear ho
      have zzG0 := Bw5.out.size
      have zxG0 := lx
      have aW0G0 := Lib.hid (ownsApart Kw5W0.out (Nat.le_refl _) (Nat.le_refl _) OG0.out)
      have ax0G0 := Lib.hid (ownsApart Kw5x0.out (Nat.le_refl _) (Nat.le_refl _) OG0.out)
      replace x0 := cellBelow hb lx x0
      replace x1 := cellBelow hb lx x1
      replace lx := Nat.lt_of_lt_of_le lx hb.size
      have Bw6 := Lib.hid (Bw5.out.trans (hb.mono Bw5.out.size))
      have Kw6W0 := Lib.hid (ownsKeep Kw5W0.out hb)
      clear Kw5W0
      have Kw6x0 := Lib.hid (ownsKeep Kw5x0.out hb)
      clear Kw5x0
      clear Bw5
      clear hb
      go_wp2_with fail
      refine (eqRowS_same _ _ _ _ _ _ (el_of_owns rowC_len OG0.out) (el_of_owns rowC_len Kw6W0.out) (by unfold maxLen; omega)).mono ?_
      rintro e w7 ⟨rfl, hb⟩
      replace x0 := cellBelow hb lx x0
      replace x1 := cellBelow hb lx x1
      replace lx := Nat.lt_of_lt_of_le lx hb.size
      have Bw7 := Lib.hid (Bw6.out.trans (hb.mono Bw6.out.size))
      have Kw7W0 := Lib.hid (ownsKeep Kw6W0.out hb)
      clear Kw6W0
      have Kw7x0 := Lib.hid (ownsKeep Kw6x0.out hb)
      clear Kw6x0
      have Kw7G0 := Lib.hid (ownsKeep OG0.out hb)
      clear OG0
      clear Bw6
      clear hb
      go_wp2_with fail
      refine (toNodeS_any _ _ _ _ (HZ0.out.below Bw7.out) hl0).mono ?_
      rintro e w8 ⟨Ay0, cy0, rfl, ho, hb⟩
      have Oy0 := Lib.hid ho
      clear ho
      have zzy0 := Bw7.out.size
      have zxy0 := lx
      have aW0y0 := Lib.hid (ownsApart Kw7W0.out (Nat.le_refl _) (Nat.le_refl _) Oy0.out)
      have ax0y0 := Lib.hid (ownsApart Kw7x0.out (Nat.le_refl _) (Nat.le_refl _) Oy0.out)
      have aG0y0 := Lib.hid (ownsApart Kw7G0.out (Nat.le_refl _) (Nat.le_refl _) Oy0.out)
      replace x0 := cellBelow hb lx x0
      replace x1 := cellBelow hb lx x1
      replace lx := Nat.lt_of_lt_of_le lx hb.size
      have Bw8 := Lib.hid (Bw7.out.trans (hb.mono Bw7.out.size))
      have Kw8W0 := Lib.hid (ownsKeep Kw7W0.out hb)
      clear Kw7W0
      have Kw8x0 := Lib.hid (ownsKeep Kw7x0.out hb)
      clear Kw7x0
      have Kw8G0 := Lib.hid (ownsKeep Kw7G0.out hb)
      clear Kw7G0
      clear Bw7
      clear hb
      go_wp2_with fail
      refine (eqNodeS_same _ _ _ _ _ _ (el_of_owns nodC_len Kw8x0.out) (el_of_owns nodC_len Oy0.out) hm0).mono ?_
      rintro e w9 ⟨rfl, hb⟩
      replace x0 := cellBelow hb lx x0
      replace x1 := cellBelow hb lx x1
      replace lx := Nat.lt_of_lt_of_le lx hb.size
      have Bw9 := Lib.hid (Bw8.out.trans (hb.mono Bw8.out.size))
      have Kw9W0 := Lib.hid (ownsKeep Kw8W0.out hb)
      clear Kw8W0
      have Kw9x0 := Lib.hid (ownsKeep Kw8x0.out hb)
      clear Kw8x0
      have Kw9G0 := Lib.hid (ownsKeep Kw8G0.out hb)
      clear Kw8G0
      have Kw9y0 := Lib.hid (ownsKeep Oy0.out hb)
      clear Oy0
      clear Bw8
      clear hb
      clear Kw9y0
      go_wp2_with fail
      refine (markNodeS_any _ _ zs0 1 _ Kw9x0.out (by omega) (by omega) (by omega)).mono ?_
      rintro e w10 ⟨rfl, hmk, hg⟩
      have Bw10 := Lib.hid (Bw9.out.grown hg Bw9.out.size (fun k e => by have := (Kw9x0.out.lt k e).1; have := zzx0; omega))
      have hbx : ∀ k, (Value.slice Ax0 zs0.length cx0).ownBlock = some k → w.heap.size < k := fun k e => by have := (Kw9x0.out.lt k e).1; have := zzx0; have := zxx0; omega
      replace x0 : w10.cell? ⟨w.heap.size, 0, none⟩ = some (.int .i64 a1) := (World.cell?_of_block (a := ⟨w.heap.size, 0, none⟩) (hg.block w.heap.size lx (fun e => by have := hbx _ e.symm; omega))).trans x0
      replace x1 : w10.cell? ⟨w.heap.size, 1, none⟩ = some (.int .i64 b1) := (World.cell?_of_block (a := ⟨w.heap.size, 1, none⟩) (hg.block w.heap.size lx (fun e => by have := hbx _ e.symm; omega))).trans x1
      replace lx := Nat.lt_of_lt_of_le lx hg.size
      clear hbx
      have Kw10W0 := Lib.hid (Kw9W0.out.kept hg aW0x0.out)
      clear Kw9W0
      have Kw10G0 := Lib.hid (Kw9G0.out.kept hg (apSym ax0G0.out))
      clear Kw9G0
      clear Kw9x0
      clear hmk hg Bw9
      have hk : decide (1 + 6 * (zs0.length : Int) < 0) = false := decide_eq_false (by omega)
      go_wp2_with fail
      refine (eqRowS_same _ _ _ _ _ _ (el_of_owns rowC_len Kw10G0.out) (el_of_owns rowC_len Kw10W0.out) (by unfold maxLen; omega)).mono ?_
      rintro e w11 ⟨rfl, hb⟩
      replace x0 := cellBelow hb lx x0
      replace x1 := cellBelow hb lx x1
      replace lx := Nat.lt_of_lt_of_le lx hb.size
      have Bw11 := Lib.hid (Bw10.out.trans (hb.mono Bw10.out.size))
      have Kw11W0 := Lib.hid (ownsKeep Kw10W0.out hb)
      clear Kw10W0
      have Kw11G0 := Lib.hid (ownsKeep Kw10G0.out hb)
      clear Kw10G0
      clear Bw10
      clear hb
      go_wp2_with fail
      refine (markRowS_any _ _ zs 1 _ Kw11G0.out (by omega) (by omega) (by omega)).mono ?_
      rintro e w12 ⟨rfl, hmk, hg⟩
      have Bw12 := Lib.hid (Bw11.out.grown hg Bw11.out.size (fun k e => by have := (Kw11G0.out.lt k e).1; have := zzG0; omega))
      have hbx : ∀ k, (Value.slice AG0 zs.length cG0).ownBlock = some k → w.heap.size < k := fun k e => by have := (Kw11G0.out.lt k e).1; have := zzG0; have := zxG0; omega
      replace x0 : w12.cell? ⟨w.heap.size, 0, none⟩ = some (.int .i64 a1) := (World.cell?_of_block (a := ⟨w.heap.size, 0, none⟩) (hg.block w.heap.size lx (fun e => by have := hbx _ e.symm; omega))).trans x0
      replace x1 : w12.cell? ⟨w.heap.size, 1, none⟩ = some (.int .i64 b1) := (World.cell?_of_block (a := ⟨w.heap.size, 1, none⟩) (hg.block w.heap.size lx (fun e => by have := hbx _ e.symm; omega))).trans x1
      replace lx := Nat.lt_of_lt_of_le lx hg.size
      clear hbx
      have Kw12W0 := Lib.hid (Kw11W0.out.kept hg aW0G0.out)
      clear Kw11W0
      have MG0 := Lib.hid (show w12.ownsRow _ 70 4 (.slice AG0 (markE rowMk 4 1 zs.length).length cG0) (markE rowMk 4 1 zs.length).length (flatOf rowC (markE rowMk 4 1 zs.length)) from by rw [markE_length]; exact hmk)
      clear Kw11G0
      clear hmk hg Bw11
      go_wp2_with fail
      refine (heldRowS_any _ zs.length _ 1 _ (el_of_owns rowC_len MG0.out) (by omega) (by omega) (by omega)).mono ?_
      rintro e w13 ⟨rfl, hb⟩
      replace x0 := cellBelow hb lx x0
      replace x1 := cellBelow hb lx x1
      replace lx := Nat.lt_of_lt_of_le lx hb.size
      have Bw13 := Lib.hid (Bw12.out.trans (hb.mono Bw12.out.size))
      have Kw13W0 := Lib.hid (ownsKeep Kw12W0.out hb)
      clear Kw12W0
      have Kw13G0 := Lib.hid (ownsKeep MG0.out hb)
      clear MG0
      clear Bw12
      clear hb
      have hq : decide (1 + 4 * (zs.length : Int) < 0) = false := decide_eq_false (by omega)
      go_upto_region 24 with fail
      have hq0 : Below w13.heap.size w13 w13 := Below.refl _ _
      have hzW := Bw13.out.size
      go_cut [14, 15] (fun s1 s2 wx => AtRB w13 zs zb s1 s2 wx)
      case first =>
        go_region_held3 (fun w' => w'.cell? ⟨w.heap.size, 0, none⟩ = some (.int .i64 a1) ∧ w'.cell? ⟨w.heap.size, 1, none⟩ = some (.int .i64 b1) ∧ w13.heap.size ≤ w'.heap.size ∧ Below w13.heap.size w13 w')
          (((try go_split_ands); refine ⟨?cc90, ?cc91, ?sz9, ?bl9⟩; (case cc90 => (repeat (first | with_reducible assumption | with_reducible refine cell_below hb (by first | omega | (simp; done) | (simp; omega)) ?_ | with_reducible refine cell_set_far (by first | omega | (simp; done) | (simp; omega)) ?_ | with_reducible exact cell_alloc_swap (by with_reducible assumption) (by first | omega | (simp; done) | (simp; omega)) | with_reducible refine cell_alloc_far ?_ | with_reducible refine cell_drew ?_))); (case cc91 => (repeat (first | with_reducible assumption | with_reducible refine cell_below hb (by first | omega | (simp; done) | (simp; omega)) ?_ | with_reducible refine cell_set_far (by first | omega | (simp; done) | (simp; omega)) ?_ | with_reducible exact cell_alloc_swap (by with_reducible assumption) (by first | omega | (simp; done) | (simp; omega)) | with_reducible refine cell_alloc_far ?_ | with_reducible refine cell_drew ?_))); (case sz9 => (first | with_reducible assumption | (have := hb.size; omega) | omega | (simp; done) | (simp; omega) | (have := hb.size; simp at this ⊢; omega))); (case bl9 => (repeat (first | with_reducible assumption | with_reducible exact hq0 | with_reducible refine Below.drew ?_ | with_reducible refine Below.trans ?_ (hb.mono (by first | omega | (simp; done) | (simp; omega))) | with_reducible refine Below.setCell ?_ (by first | omega | (simp; done) | (simp; omega)) _ | with_reducible exact below_alloc_swap (by with_reducible assumption) (by first | omega | (simp; done) | (simp; omega)) | with_reducible refine Below.alloc ?_ (by first | omega | (simp; done) | (simp; omega)) _)))))
          (first
            | (go_at_call 41; refine (toNodeS_any _ _ _ _ (HZ0.out.below (by first | exact Bw13.out | exact Bw13.out.drew)) hl0).mono ?_; rintro e wA ⟨AA, cA, rfl, ho, hb⟩; have OA := Lib.hid ho; clear ho; have hsA : w13.heap.size ≤ wA.heap.size := (by have := hb.size; first | omega | (simp at this; omega)); obtain ⟨hc, hf, hlb⟩ := bcell3 hb)
            | (go_at_call 44; refine (toSpan_any _ _ _).mono ?_; rintro e wB ⟨rfl, hb⟩; have OB := Lib.hid (ownsKeep OA.out hb); have hsB : w13.heap.size ≤ wB.heap.size := (by have := hb.size; first | omega | (simp at this; omega)); obtain ⟨hc2, hf2, hlb2⟩ := bcell3 hb)
            | (go_at_call 45; refine (IndexMeet_any _ _ zs0 a1 b1 _ (el_of_owns nodC_len OB.out) hl0 HS0.out).mono ?_; rw [HZ.out]; rintro e wC ⟨AC, cC, rfl, ho, hb⟩; have OC := Lib.hid (ownsBase (base' := w13.heap.size) (show wC.ownsRow wB.heap.size 70 4 (.slice AC zs.length cC) zs.length (flatOf rowC zs) from ho) hsB); clear ho))
        all_goals (go_wp2_with fail; go_meet; unfold AtRB; rename_i hH; exact ⟨AC, cC, rfl, rfl, OC.out, hH.2.2.2⟩)
      case rest =>
        obtain ⟨AH0, cH0, rfl, rfl, ho, hb⟩ := hcut
        have OH0 := Lib.hid ho
        clear ho hq0 hzW
        have zzH0 := Bw13.out.size
        have zxH0 := lx
        have aW0H0 := Lib.hid (ownsApart Kw13W0.out (Nat.le_refl _) (Nat.le_refl _) OH0.out)
        have aG0H0 := Lib.hid (ownsApart Kw13G0.out (Nat.le_refl _) (Nat.le_refl _) OH0.out)
        replace x0 := cellBelow hb lx x0
        replace x1 := cellBelow hb lx x1
        replace lx := Nat.lt_of_lt_of_le lx hb.size
        have Bw15 := Lib.hid (Bw13.out.trans (hb.mono Bw13.out.size))
        have Kw15W0 := Lib.hid (ownsKeep Kw13W0.out hb)
        clear Kw13W0
        have Kw15G0 := Lib.hid (ownsKeep Kw13G0.out hb)
        clear Kw13G0
        clear Bw13
        clear hb
        go_wp2_with fail
        refine (eqRowS_same _ _ _ _ _ _ (el_of_owns rowC_len OH0.out) (el_of_owns rowC_len Kw15W0.out) (by unfold maxLen; omega)).mono ?_
        rintro e w16 ⟨rfl, hb⟩
        replace x0 := cellBelow hb lx x0
        replace x1 := cellBelow hb lx x1
        replace lx := Nat.lt_of_lt_of_le lx hb.size
        have Bw16 := Lib.hid (Bw15.out.trans (hb.mono Bw15.out.size))
        have Kw16W0 := Lib.hid (ownsKeep Kw15W0.out hb)
        clear Kw15W0
        have Kw16G0 := Lib.hid (ownsKeep Kw15G0.out hb)
        clear Kw15G0
        have Kw16H0 := Lib.hid (ownsKeep OH0.out hb)
        clear OH0
        clear Bw15
        clear hb
        go_wp2_with fail
        refine (heldRowS_any _ zs.length _ 1 _ (el_of_owns rowC_len Kw16G0.out) (by omega) (by omega) (by omega)).mono ?_
        rintro e w17 ⟨rfl, hb⟩
        replace x0 := cellBelow hb lx x0
        replace x1 := cellBelow hb lx x1
        replace lx := Nat.lt_of_lt_of_le lx hb.size
        have Bw17 := Lib.hid (Bw16.out.trans (hb.mono Bw16.out.size))
        have Kw17W0 := Lib.hid (ownsKeep Kw16W0.out hb)
        clear Kw16W0
        have Kw17G0 := Lib.hid (ownsKeep Kw16G0.out hb)
        clear Kw16G0
        have Kw17H0 := Lib.hid (ownsKeep Kw16H0.out hb)
        clear Kw16H0
        clear Bw16
        clear hb
        go_wp2
        go_ret
        exact ⟨rfl, Bw17.out⟩
end Go.Proofs.Ytphinkcfmdnpfaa
