/-
  The walk of the exact law of RelUpdate.
-/
import Derived.Test.YtkdhdppngfadiabRowM
import Derived.Test.YtkdhdppngfadiabDmlU
namespace Go.Proofs.Ytkdhdppngfadiab
open Go.RowKit Go.Lib

def AtRB (W : World) (zs : List RowV) (zb : Bool) (s1 s2 : Value) (wx : World) : Prop :=
  ∃ A cap, s1 = .slice A zs.length cap ∧ s2 = .bool zb ∧ wx.ownsRow W.heap.size 35 4 (.slice A zs.length cap) zs.length (flatOf rowC zs) ∧ Below W.heap.size W wx

set_option maxRecDepth 100000 in
set_option maxHeartbeats 8000000 in
theorem FnExactRelUpdate_any (A0 : Option Addr) (n0 cap0 : Nat) (zs0 : List RowV) (r1 : RowV) (w : World) (h0 : RowsA w A0 zs0 ∧ zs0.length = n0 ∧ n0 ≤ maxLen ∧ ∀ r ∈ zs0, r.k.size ≤ maxLen ∧ r.t.size ≤ maxLen) (h1 : r1.k.size ≤ maxLen ∧ r1.t.size ≤ maxLen) :
    Calls Try.prog 5 #[.slice A0 n0 cap0, .agg #[.string r1.k, .string r1.t, .int .i64 r1.f, .int .i64 r1.e]] w fun e w' => e = .returned (.bool true) ∧ Below w.heap.size w w' := by
  obtain ⟨hz0, rfl, hm0, hs0⟩ := h0
  have HZ0 := Lib.hid hz0
  clear hz0
  have HS0 := Lib.hid hs0
  clear hs0
  have HRr1 := Lib.hid h1
  clear h1
  go_enter Try.func5, Try.ntmps5
  have Bw := Lib.hid (Below.refl w.heap.size w)
  go_wp2_with fail
  generalize hW : w.alloc _ = W0
  have x0 : W0.cell? ⟨w.heap.size, 0, none⟩ = some (.string r1.k) := by rw [← hW]; simp [go_sem]
  have x1 : W0.cell? ⟨w.heap.size, 1, none⟩ = some (.string r1.t) := by rw [← hW]; simp [go_sem]
  have x2 : W0.cell? ⟨w.heap.size, 2, none⟩ = some (.int .i64 r1.f) := by rw [← hW]; simp [go_sem]
  have x3 : W0.cell? ⟨w.heap.size, 3, none⟩ = some (.int .i64 r1.e) := by rw [← hW]; simp [go_sem]
  have lx : w.heap.size < W0.heap.size := by rw [← hW]; simp
  have BW0 := Lib.hid (show Below w.heap.size w W0 from by rw [← hW]; exact (Below.refl _ _).alloc (Nat.le_refl _) _)
  clear hW Bw
  refine (szRowS_any _ _ _ _ _ (by omega) (by omega) (HZ0.out.below BW0.out) hm0 HS0.out).mono ?_
  rintro e w1 ⟨v0, rfl, hv0, hb⟩
  replace x0 := cellBelow hb lx x0
  replace x1 := cellBelow hb lx x1
  replace x2 := cellBelow hb lx x2
  replace x3 := cellBelow hb lx x3
  replace lx := Nat.lt_of_lt_of_le lx hb.size
  have Bw1 := Lib.hid (BW0.out.trans (hb.mono BW0.out.size))
  clear hb BW0
  rcases hv0 with rfl | ⟨hv00, hv01, hv02⟩
  · go_wp2
    go_ret
    exact ⟨rfl, Bw1.out⟩
  · skip
    have hl0 : zs0.length ≤ 1048577 := by omega
    have hd0 : decide (v0 < 0) = false := decide_eq_false (by omega)
    go_wp2_with fail
    refine (szRow_any r1 _ _ (by omega) (by omega) HRr1.out.1 HRr1.out.2).mono ?_
    rintro e w2 ⟨rfl, hb⟩
    replace x0 := cellBelow hb lx x0
    replace x1 := cellBelow hb lx x1
    replace x2 := cellBelow hb lx x2
    replace x3 := cellBelow hb lx x3
    replace lx := Nat.lt_of_lt_of_le lx hb.size
    have Bw2 := Lib.hid (Bw1.out.trans (hb.mono Bw1.out.size))
    clear hb Bw1
    generalize (if (v0 : Int) - r1.k.size < 0 then (-1 : Int) else if (v0 : Int) - r1.k.size - r1.t.size < 0 then -1 else v0 - r1.k.size - r1.t.size) = left1
    by_cases hneg1 : left1 < 0
    · go_wp2
      go_ret
      exact ⟨rfl, Bw2.out⟩
    · skip
      have hdn1 : decide (left1 < 0) = false := decide_eq_false hneg1
      clear hneg1
      have hzl : (updateS zs0 r1).1.length ≤ 4194304 := by have := updateS_len zs0 r1; omega
      obtain ⟨pz, hzs⟩ : ∃ pz, updateS zs0 r1 = pz := ⟨_, rfl⟩
      rw [hzs] at hzl
      have HZ := Lib.hid hzs
      clear hzs
      obtain ⟨zs, zb⟩ := pz
      replace hzl : zs.length ≤ 4194304 := hzl
      go_upto_region 8 with fail
      have hq0 : Below w2.heap.size w2 w2 := Below.refl _ _
      have hzW := Bw2.out.size
      go_cut [6, 7] (fun s1 s2 wx => AtRB w2 zs zb s1 s2 wx)
      case first =>
        go_region_held3 (fun w' => w'.cell? ⟨w.heap.size, 0, none⟩ = some (.string r1.k) ∧ w'.cell? ⟨w.heap.size, 1, none⟩ = some (.string r1.t) ∧ w'.cell? ⟨w.heap.size, 2, none⟩ = some (.int .i64 r1.f) ∧ w'.cell? ⟨w.heap.size, 3, none⟩ = some (.int .i64 r1.e) ∧ w2.heap.size ≤ w'.heap.size ∧ Below w2.heap.size w2 w')
          (((try go_split_ands); refine ⟨?c0, ?c1, ?c2, ?c3, ?s, ?b⟩; (case c0 => (repeat (first | with_reducible assumption | with_reducible refine cell_below hb (by first | omega | (simp; done) | (simp; omega)) ?_ | with_reducible refine cell_set_far (by first | omega | (simp; done) | (simp; omega)) ?_ | with_reducible exact cell_alloc_swap (by with_reducible assumption) (by first | omega | (simp; done) | (simp; omega)) | with_reducible refine cell_alloc_far ?_ | with_reducible refine cell_drew ?_))); (case c1 => (repeat (first | with_reducible assumption | with_reducible refine cell_below hb (by first | omega | (simp; done) | (simp; omega)) ?_ | with_reducible refine cell_set_far (by first | omega | (simp; done) | (simp; omega)) ?_ | with_reducible exact cell_alloc_swap (by with_reducible assumption) (by first | omega | (simp; done) | (simp; omega)) | with_reducible refine cell_alloc_far ?_ | with_reducible refine cell_drew ?_))); (case c2 => (repeat (first | with_reducible assumption | with_reducible refine cell_below hb (by first | omega | (simp; done) | (simp; omega)) ?_ | with_reducible refine cell_set_far (by first | omega | (simp; done) | (simp; omega)) ?_ | with_reducible exact cell_alloc_swap (by with_reducible assumption) (by first | omega | (simp; done) | (simp; omega)) | with_reducible refine cell_alloc_far ?_ | with_reducible refine cell_drew ?_))); (case c3 => (repeat (first | with_reducible assumption | with_reducible refine cell_below hb (by first | omega | (simp; done) | (simp; omega)) ?_ | with_reducible refine cell_set_far (by first | omega | (simp; done) | (simp; omega)) ?_ | with_reducible exact cell_alloc_swap (by with_reducible assumption) (by first | omega | (simp; done) | (simp; omega)) | with_reducible refine cell_alloc_far ?_ | with_reducible refine cell_drew ?_))); (case s => (first | with_reducible assumption | (have := hb.size; omega) | omega | (simp; done) | (simp; omega) | (have := hb.size; simp at this ⊢; omega))); (case b => (repeat (first | with_reducible assumption | with_reducible exact hq0 | with_reducible refine Below.drew ?_ | with_reducible refine Below.trans ?_ (hb.mono (by first | omega | (simp; done) | (simp; omega))) | with_reducible refine Below.setCell ?_ (by first | omega | (simp; done) | (simp; omega)) _ | with_reducible exact below_alloc_swap (by with_reducible assumption) (by first | omega | (simp; done) | (simp; omega)) | with_reducible refine Below.alloc ?_ (by first | omega | (simp; done) | (simp; omega)) _)))))
          (first
            | (go_at_call 18; refine (toRowS_any _ _ _ _ (HZ0.out.below (by first | exact Bw2.out | exact Bw2.out.drew)) hl0).mono ?_; rintro e wA ⟨AA, cA, rfl, ho, hb⟩; have OA := Lib.hid ho; clear ho; have hsA : w2.heap.size ≤ wA.heap.size := (by have := hb.size; first | omega | (simp at this; omega)); obtain ⟨hc, hf, hlb⟩ := bcell3 hb)
            | (go_at_call 19; refine (toRow_any r1 _).mono ?_; rintro e wB ⟨rfl, hb⟩; have OB := Lib.hid (ownsKeep OA.out hb); have hsB : w2.heap.size ≤ wB.heap.size := (by have := hb.size; first | omega | (simp at this; omega)); obtain ⟨hc2, hf2, hlb2⟩ := bcell3 hb)
            | (go_at_call 27; refine (sRelUpdate_any _ _ _ r1 _ (el_of_owns rowC_len OB.out) (owns_nilcap OB.out) hl0 HS0.out HRr1.out).mono ?_; rw [HZ.out]; rintro e wC ⟨AC, cC, rfl, ho, hb⟩; have OC := Lib.hid (ownsBase (base' := w2.heap.size) (show wC.ownsRow wB.heap.size 35 4 (.slice AC zs.length cC) zs.length (flatOf rowC zs) from ho) hsB); clear ho))
        all_goals (go_wp2_with fail; go_meet; unfold AtRB; rename_i hH; exact ⟨AC, cC, rfl, rfl, OC.out, hH.2.2.2.2.2⟩)
      case rest =>
        obtain ⟨AW0, cW0, rfl, rfl, ho, hb⟩ := hcut
        have OW0 := Lib.hid ho
        clear ho hq0 hzW
        have zzW0 := Bw2.out.size
        have zxW0 := lx
        replace x0 := cellBelow hb lx x0
        replace x1 := cellBelow hb lx x1
        replace x2 := cellBelow hb lx x2
        replace x3 := cellBelow hb lx x3
        replace lx := Nat.lt_of_lt_of_le lx hb.size
        have Bw4 := Lib.hid (Bw2.out.trans (hb.mono Bw2.out.size))
        clear Bw2
        clear hb
        go_wp2_with fail
        refine (toRowS_any _ _ _ _ (HZ0.out.below Bw4.out) hl0).mono ?_
        rintro e w5 ⟨Ax0, cx0, rfl, ho, hb⟩
        have Ox0 := Lib.hid ho
        clear ho
        have zzx0 := Bw4.out.size
        have zxx0 := lx
        have aW0x0 := Lib.hid (ownsApart OW0.out (Nat.le_refl _) (Nat.le_refl _) Ox0.out)
        replace x0 := cellBelow hb lx x0
        replace x1 := cellBelow hb lx x1
        replace x2 := cellBelow hb lx x2
        replace x3 := cellBelow hb lx x3
        replace lx := Nat.lt_of_lt_of_le lx hb.size
        have Bw5 := Lib.hid (Bw4.out.trans (hb.mono Bw4.out.size))
        have Kw5W0 := Lib.hid (ownsKeep OW0.out hb)
        clear OW0
        clear Bw4
        clear hb
        go_wp2_with fail
        refine (toRow_any r1 _).mono ?_
        rintro e w6 ⟨rfl, hb⟩
        replace x0 := cellBelow hb lx x0
        replace x1 := cellBelow hb lx x1
        replace x2 := cellBelow hb lx x2
        replace x3 := cellBelow hb lx x3
        replace lx := Nat.lt_of_lt_of_le lx hb.size
        have Bw6 := Lib.hid (Bw5.out.trans (hb.mono Bw5.out.size))
        have Kw6W0 := Lib.hid (ownsKeep Kw5W0.out hb)
        clear Kw5W0
        have Kw6x0 := Lib.hid (ownsKeep Ox0.out hb)
        clear Ox0
        clear Bw5
        clear hb
        go_wp2_with fail
        refine (RelUpdate_any _ _ _ r1 _ (el_of_owns rowC_len Kw6x0.out) (owns_addr Kw6x0.out) hl0 HS0.out HRr1.out).mono ?_
        rw [HZ.out]
        rintro e w7 ⟨AG0, cG0, rfl, ho, hb⟩
        have OG0 := Lib.hid (show w7.ownsRow _ 35 4 (.slice AG0 zs.length cG0) zs.length (flatOf rowC zs) from ho)
        clear ho
        have zzG0 := Bw6.out.size
        have zxG0 := lx
        have aW0G0 := Lib.hid (ownsApart Kw6W0.out (Nat.le_refl _) (Nat.le_refl _) OG0.out)
        have ax0G0 := Lib.hid (ownsApart Kw6x0.out (Nat.le_refl _) (Nat.le_refl _) OG0.out)
        replace x0 := cellBelow hb lx x0
        replace x1 := cellBelow hb lx x1
        replace x2 := cellBelow hb lx x2
        replace x3 := cellBelow hb lx x3
        replace lx := Nat.lt_of_lt_of_le lx hb.size
        have Bw7 := Lib.hid (Bw6.out.trans (hb.mono Bw6.out.size))
        have Kw7W0 := Lib.hid (ownsKeep Kw6W0.out hb)
        clear Kw6W0
        have Kw7x0 := Lib.hid (ownsKeep Kw6x0.out hb)
        clear Kw6x0
        clear Bw6
        clear hb
        go_wp2_with fail
        refine (eqRowS_same _ _ _ _ _ _ (el_of_owns rowC_len OG0.out) (el_of_owns rowC_len Kw7W0.out) (by unfold maxLen; omega)).mono ?_
        rintro e w8 ⟨rfl, hb⟩
        replace x0 := cellBelow hb lx x0
        replace x1 := cellBelow hb lx x1
        replace x2 := cellBelow hb lx x2
        replace x3 := cellBelow hb lx x3
        replace lx := Nat.lt_of_lt_of_le lx hb.size
        have Bw8 := Lib.hid (Bw7.out.trans (hb.mono Bw7.out.size))
        have Kw8W0 := Lib.hid (ownsKeep Kw7W0.out hb)
        clear Kw7W0
        have Kw8x0 := Lib.hid (ownsKeep Kw7x0.out hb)
        clear Kw7x0
        have Kw8G0 := Lib.hid (ownsKeep OG0.out hb)
        clear OG0
        clear Bw7
        clear hb
        go_wp2_with fail
        refine (toRowS_any _ _ _ _ (HZ0.out.below Bw8.out) hl0).mono ?_
        rintro e w9 ⟨Ay0, cy0, rfl, ho, hb⟩
        have Oy0 := Lib.hid ho
        clear ho
        have zzy0 := Bw8.out.size
        have zxy0 := lx
        have aW0y0 := Lib.hid (ownsApart Kw8W0.out (Nat.le_refl _) (Nat.le_refl _) Oy0.out)
        have ax0y0 := Lib.hid (ownsApart Kw8x0.out (Nat.le_refl _) (Nat.le_refl _) Oy0.out)
        have aG0y0 := Lib.hid (ownsApart Kw8G0.out (Nat.le_refl _) (Nat.le_refl _) Oy0.out)
        replace x0 := cellBelow hb lx x0
        replace x1 := cellBelow hb lx x1
        replace x2 := cellBelow hb lx x2
        replace x3 := cellBelow hb lx x3
        replace lx := Nat.lt_of_lt_of_le lx hb.size
        have Bw9 := Lib.hid (Bw8.out.trans (hb.mono Bw8.out.size))
        have Kw9W0 := Lib.hid (ownsKeep Kw8W0.out hb)
        clear Kw8W0
        have Kw9x0 := Lib.hid (ownsKeep Kw8x0.out hb)
        clear Kw8x0
        have Kw9G0 := Lib.hid (ownsKeep Kw8G0.out hb)
        clear Kw8G0
        clear Bw8
        clear hb
        go_wp2_with fail
        refine (eqRowS_same _ _ _ _ _ _ (el_of_owns rowC_len Kw9x0.out) (el_of_owns rowC_len Oy0.out) hm0).mono ?_
        rintro e w10 ⟨rfl, hb⟩
        replace x0 := cellBelow hb lx x0
        replace x1 := cellBelow hb lx x1
        replace x2 := cellBelow hb lx x2
        replace x3 := cellBelow hb lx x3
        replace lx := Nat.lt_of_lt_of_le lx hb.size
        have Bw10 := Lib.hid (Bw9.out.trans (hb.mono Bw9.out.size))
        have Kw10W0 := Lib.hid (ownsKeep Kw9W0.out hb)
        clear Kw9W0
        have Kw10x0 := Lib.hid (ownsKeep Kw9x0.out hb)
        clear Kw9x0
        have Kw10G0 := Lib.hid (ownsKeep Kw9G0.out hb)
        clear Kw9G0
        have Kw10y0 := Lib.hid (ownsKeep Oy0.out hb)
        clear Oy0
        clear Bw9
        clear hb
        clear Kw10y0
        go_wp2_with fail
        refine (markRowS_any _ _ zs0 1 _ Kw10x0.out (by omega) (by omega) (by omega)).mono ?_
        rintro e w11 ⟨rfl, hmk, hg⟩
        have Bw11 := Lib.hid (Bw10.out.grown hg Bw10.out.size (fun k e => by have := (Kw10x0.out.lt k e).1; have := zzx0; omega))
        have hbx : ∀ k, (Value.slice Ax0 zs0.length cx0).ownBlock = some k → w.heap.size < k := fun k e => by have := (Kw10x0.out.lt k e).1; have := zzx0; have := zxx0; omega
        replace x0 : w11.cell? ⟨w.heap.size, 0, none⟩ = some (.string r1.k) := (World.cell?_of_block (a := ⟨w.heap.size, 0, none⟩) (hg.block w.heap.size lx (fun e => by have := hbx _ e.symm; omega))).trans x0
        replace x1 : w11.cell? ⟨w.heap.size, 1, none⟩ = some (.string r1.t) := (World.cell?_of_block (a := ⟨w.heap.size, 1, none⟩) (hg.block w.heap.size lx (fun e => by have := hbx _ e.symm; omega))).trans x1
        replace x2 : w11.cell? ⟨w.heap.size, 2, none⟩ = some (.int .i64 r1.f) := (World.cell?_of_block (a := ⟨w.heap.size, 2, none⟩) (hg.block w.heap.size lx (fun e => by have := hbx _ e.symm; omega))).trans x2
        replace x3 : w11.cell? ⟨w.heap.size, 3, none⟩ = some (.int .i64 r1.e) := (World.cell?_of_block (a := ⟨w.heap.size, 3, none⟩) (hg.block w.heap.size lx (fun e => by have := hbx _ e.symm; omega))).trans x3
        replace lx := Nat.lt_of_lt_of_le lx hg.size
        clear hbx
        have Kw11W0 := Lib.hid (Kw10W0.out.kept hg aW0x0.out)
        clear Kw10W0
        have Kw11G0 := Lib.hid (Kw10G0.out.kept hg (apSym ax0G0.out))
        clear Kw10G0
        clear Kw10x0
        clear hmk hg Bw10
        have hk : decide (1 + 4 * (zs0.length : Int) < 0) = false := decide_eq_false (by omega)
        go_wp2_with fail
        refine (eqRowS_same _ _ _ _ _ _ (el_of_owns rowC_len Kw11G0.out) (el_of_owns rowC_len Kw11W0.out) (by unfold maxLen; omega)).mono ?_
        rintro e w12 ⟨rfl, hb⟩
        replace x0 := cellBelow hb lx x0
        replace x1 := cellBelow hb lx x1
        replace x2 := cellBelow hb lx x2
        replace x3 := cellBelow hb lx x3
        replace lx := Nat.lt_of_lt_of_le lx hb.size
        have Bw12 := Lib.hid (Bw11.out.trans (hb.mono Bw11.out.size))
        have Kw12W0 := Lib.hid (ownsKeep Kw11W0.out hb)
        clear Kw11W0
        have Kw12G0 := Lib.hid (ownsKeep Kw11G0.out hb)
        clear Kw11G0
        clear Bw11
        clear hb
        go_wp2_with fail
        refine (markRowS_any _ _ zs 1 _ Kw12G0.out (by omega) (by omega) (by omega)).mono ?_
        rintro e w13 ⟨rfl, hmk, hg⟩
        have Bw13 := Lib.hid (Bw12.out.grown hg Bw12.out.size (fun k e => by have := (Kw12G0.out.lt k e).1; have := zzG0; omega))
        have hbx : ∀ k, (Value.slice AG0 zs.length cG0).ownBlock = some k → w.heap.size < k := fun k e => by have := (Kw12G0.out.lt k e).1; have := zzG0; have := zxG0; omega
        replace x0 : w13.cell? ⟨w.heap.size, 0, none⟩ = some (.string r1.k) := (World.cell?_of_block (a := ⟨w.heap.size, 0, none⟩) (hg.block w.heap.size lx (fun e => by have := hbx _ e.symm; omega))).trans x0
        replace x1 : w13.cell? ⟨w.heap.size, 1, none⟩ = some (.string r1.t) := (World.cell?_of_block (a := ⟨w.heap.size, 1, none⟩) (hg.block w.heap.size lx (fun e => by have := hbx _ e.symm; omega))).trans x1
        replace x2 : w13.cell? ⟨w.heap.size, 2, none⟩ = some (.int .i64 r1.f) := (World.cell?_of_block (a := ⟨w.heap.size, 2, none⟩) (hg.block w.heap.size lx (fun e => by have := hbx _ e.symm; omega))).trans x2
        replace x3 : w13.cell? ⟨w.heap.size, 3, none⟩ = some (.int .i64 r1.e) := (World.cell?_of_block (a := ⟨w.heap.size, 3, none⟩) (hg.block w.heap.size lx (fun e => by have := hbx _ e.symm; omega))).trans x3
        replace lx := Nat.lt_of_lt_of_le lx hg.size
        clear hbx
        have Kw13W0 := Lib.hid (Kw12W0.out.kept hg aW0G0.out)
        clear Kw12W0
        have MG0 := Lib.hid (show w13.ownsRow _ 35 4 (.slice AG0 (markE rowMk 4 1 zs.length).length cG0) (markE rowMk 4 1 zs.length).length (flatOf rowC (markE rowMk 4 1 zs.length)) from by rw [markE_length]; exact hmk)
        clear Kw12G0
        clear hmk hg Bw12
        go_wp2_with fail
        refine (heldRowS_any _ zs.length _ 1 _ (el_of_owns rowC_len MG0.out) (by omega) (by omega) (by omega)).mono ?_
        rintro e w14 ⟨rfl, hb⟩
        replace x0 := cellBelow hb lx x0
        replace x1 := cellBelow hb lx x1
        replace x2 := cellBelow hb lx x2
        replace x3 := cellBelow hb lx x3
        replace lx := Nat.lt_of_lt_of_le lx hb.size
        have Bw14 := Lib.hid (Bw13.out.trans (hb.mono Bw13.out.size))
        have Kw14W0 := Lib.hid (ownsKeep Kw13W0.out hb)
        clear Kw13W0
        have Kw14G0 := Lib.hid (ownsKeep MG0.out hb)
        clear MG0
        clear Bw13
        clear hb
        have hq : decide (1 + 4 * (zs.length : Int) < 0) = false := decide_eq_false (by omega)
        go_upto_region 27 with fail
        have hq0 : Below w14.heap.size w14 w14 := Below.refl _ _
        have hzW := Bw14.out.size
        go_cut [14, 15] (fun s1 s2 wx => AtRB w14 zs zb s1 s2 wx)
        case first =>
          go_region_held3 (fun w' => w'.cell? ⟨w.heap.size, 0, none⟩ = some (.string r1.k) ∧ w'.cell? ⟨w.heap.size, 1, none⟩ = some (.string r1.t) ∧ w'.cell? ⟨w.heap.size, 2, none⟩ = some (.int .i64 r1.f) ∧ w'.cell? ⟨w.heap.size, 3, none⟩ = some (.int .i64 r1.e) ∧ w14.heap.size ≤ w'.heap.size ∧ Below w14.heap.size w14 w')
            (((try go_split_ands); refine ⟨?c0, ?c1, ?c2, ?c3, ?s, ?b⟩; (case c0 => (repeat (first | with_reducible assumption | with_reducible refine cell_below hb (by first | omega | (simp; done) | (simp; omega)) ?_ | with_reducible refine cell_set_far (by first | omega | (simp; done) | (simp; omega)) ?_ | with_reducible exact cell_alloc_swap (by with_reducible assumption) (by first | omega | (simp; done) | (simp; omega)) | with_reducible refine cell_alloc_far ?_ | with_reducible refine cell_drew ?_))); (case c1 => (repeat (first | with_reducible assumption | with_reducible refine cell_below hb (by first | omega | (simp; done) | (simp; omega)) ?_ | with_reducible refine cell_set_far (by first | omega | (simp; done) | (simp; omega)) ?_ | with_reducible exact cell_alloc_swap (by with_reducible assumption) (by first | omega | (simp; done) | (simp; omega)) | with_reducible refine cell_alloc_far ?_ | with_reducible refine cell_drew ?_))); (case c2 => (repeat (first | with_reducible assumption | with_reducible refine cell_below hb (by first | omega | (simp; done) | (simp; omega)) ?_ | with_reducible refine cell_set_far (by first | omega | (simp; done) | (simp; omega)) ?_ | with_reducible exact cell_alloc_swap (by with_reducible assumption) (by first | omega | (simp; done) | (simp; omega)) | with_reducible refine cell_alloc_far ?_ | with_reducible refine cell_drew ?_))); (case c3 => (repeat (first | with_reducible assumption | with_reducible refine cell_below hb (by first | omega | (simp; done) | (simp; omega)) ?_ | with_reducible refine cell_set_far (by first | omega | (simp; done) | (simp; omega)) ?_ | with_reducible exact cell_alloc_swap (by with_reducible assumption) (by first | omega | (simp; done) | (simp; omega)) | with_reducible refine cell_alloc_far ?_ | with_reducible refine cell_drew ?_))); (case s => (first | with_reducible assumption | (have := hb.size; omega) | omega | (simp; done) | (simp; omega) | (have := hb.size; simp at this ⊢; omega))); (case b => (repeat (first | with_reducible assumption | with_reducible exact hq0 | with_reducible refine Below.drew ?_ | with_reducible refine Below.trans ?_ (hb.mono (by first | omega | (simp; done) | (simp; omega))) | with_reducible refine Below.setCell ?_ (by first | omega | (simp; done) | (simp; omega)) _ | with_reducible exact below_alloc_swap (by with_reducible assumption) (by first | omega | (simp; done) | (simp; omega)) | with_reducible refine Below.alloc ?_ (by first | omega | (simp; done) | (simp; omega)) _)))))
            (first
              | (go_at_call 18; refine (toRowS_any _ _ _ _ (HZ0.out.below (by first | exact Bw14.out | exact Bw14.out.drew)) hl0).mono ?_; rintro e wA ⟨AA, cA, rfl, ho, hb⟩; have OA := Lib.hid ho; clear ho; have hsA : w14.heap.size ≤ wA.heap.size := (by have := hb.size; first | omega | (simp at this; omega)); obtain ⟨hc, hf, hlb⟩ := bcell3 hb)
              | (go_at_call 19; refine (toRow_any r1 _).mono ?_; rintro e wB ⟨rfl, hb⟩; have OB := Lib.hid (ownsKeep OA.out hb); have hsB : w14.heap.size ≤ wB.heap.size := (by have := hb.size; first | omega | (simp at this; omega)); obtain ⟨hc2, hf2, hlb2⟩ := bcell3 hb)
              | (go_at_call 28; refine (RelUpdate_any _ _ _ r1 _ (el_of_owns rowC_len OB.out) (owns_addr OB.out) hl0 HS0.out HRr1.out).mono ?_; rw [HZ.out]; rintro e wC ⟨AC, cC, rfl, ho, hb⟩; have OC := Lib.hid (ownsBase (base' := w14.heap.size) (show wC.ownsRow wB.heap.size 35 4 (.slice AC zs.length cC) zs.length (flatOf rowC zs) from ho) hsB); clear ho))
          all_goals (go_wp2_with fail; go_meet; unfold AtRB; rename_i hH; exact ⟨AC, cC, rfl, rfl, OC.out, hH.2.2.2.2.2⟩)
        case rest =>
          obtain ⟨AH0, cH0, rfl, rfl, ho, hb⟩ := hcut
          have OH0 := Lib.hid ho
          clear ho hq0 hzW
          have zzH0 := Bw14.out.size
          have zxH0 := lx
          have aW0H0 := Lib.hid (ownsApart Kw14W0.out (Nat.le_refl _) (Nat.le_refl _) OH0.out)
          have aG0H0 := Lib.hid (ownsApart Kw14G0.out (Nat.le_refl _) (Nat.le_refl _) OH0.out)
          replace x0 := cellBelow hb lx x0
          replace x1 := cellBelow hb lx x1
          replace x2 := cellBelow hb lx x2
          replace x3 := cellBelow hb lx x3
          replace lx := Nat.lt_of_lt_of_le lx hb.size
          have Bw16 := Lib.hid (Bw14.out.trans (hb.mono Bw14.out.size))
          have Kw16W0 := Lib.hid (ownsKeep Kw14W0.out hb)
          clear Kw14W0
          have Kw16G0 := Lib.hid (ownsKeep Kw14G0.out hb)
          clear Kw14G0
          clear Bw14
          clear hb
          go_wp2_with fail
          refine (eqRowS_same _ _ _ _ _ _ (el_of_owns rowC_len OH0.out) (el_of_owns rowC_len Kw16W0.out) (by unfold maxLen; omega)).mono ?_
          rintro e w17 ⟨rfl, hb⟩
          replace x0 := cellBelow hb lx x0
          replace x1 := cellBelow hb lx x1
          replace x2 := cellBelow hb lx x2
          replace x3 := cellBelow hb lx x3
          replace lx := Nat.lt_of_lt_of_le lx hb.size
          have Bw17 := Lib.hid (Bw16.out.trans (hb.mono Bw16.out.size))
          have Kw17W0 := Lib.hid (ownsKeep Kw16W0.out hb)
          clear Kw16W0
          have Kw17G0 := Lib.hid (ownsKeep Kw16G0.out hb)
          clear Kw16G0
          have Kw17H0 := Lib.hid (ownsKeep OH0.out hb)
          clear OH0
          clear Bw16
          clear hb
          go_wp2_with fail
          refine (heldRowS_any _ zs.length _ 1 _ (el_of_owns rowC_len Kw17G0.out) (by omega) (by omega) (by omega)).mono ?_
          rintro e w18 ⟨rfl, hb⟩
          replace x0 := cellBelow hb lx x0
          replace x1 := cellBelow hb lx x1
          replace x2 := cellBelow hb lx x2
          replace x3 := cellBelow hb lx x3
          replace lx := Nat.lt_of_lt_of_le lx hb.size
          have Bw18 := Lib.hid (Bw17.out.trans (hb.mono Bw17.out.size))
          have Kw18W0 := Lib.hid (ownsKeep Kw17W0.out hb)
          clear Kw17W0
          have Kw18G0 := Lib.hid (ownsKeep Kw17G0.out hb)
          clear Kw17G0
          have Kw18H0 := Lib.hid (ownsKeep Kw17H0.out hb)
          clear Kw17H0
          clear Bw17
          clear hb
          go_wp2
          go_ret
          exact ⟨rfl, Bw18.out⟩
end Go.Proofs.Ytkdhdppngfadiab
