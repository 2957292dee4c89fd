/-
  The walk of the exact law of SetAdd.
-/
import Derived.Test.YtkdhdppngfadiaaMark
import Derived.Test.YtkdhdppngfadiaaSetA
import Derived.Test.YtkdhdppngfadiaaEl
namespace Go.Proofs.Ytkdhdppngfadiaa
open Go.RowKit Go.Lib

def AtR (W : World) (zs : List (Int × Int)) (s1 : Value) (wx : World) : Prop :=
  ∃ A cap, s1 = .slice A zs.length cap ∧ wx.ownsRow W.heap.size 42 2 (.slice A zs.length cap) zs.length (flat zs) ∧ Below W.heap.size W wx

set_option maxRecDepth 100000 in
set_option maxHeartbeats 8000000 in
theorem FnExactSetAdd_any (A0 : Option Addr) (n0 cap0 : Nat) (zs0 : List (Int × Int)) (a1 b1 : Int) (w : World) (h0 : Spans w A0 zs0 ∧ zs0.length = n0 ∧ n0 ≤ maxLen) :
    Calls Try.prog 5 #[.slice A0 n0 cap0, .agg #[.int .i64 a1, .int .i64 b1]] w fun e w' => e = .returned (.bool true) ∧ Below w.heap.size w w' := by
  obtain ⟨hz0, rfl, hm0⟩ := h0
  have HZ0 := Lib.hid hz0
  clear hz0
  go_enter Try.func5, Try.ntmps5
  have Bw := Lib.hid (Below.refl w.heap.size w)
  go_wp2_with fail
  generalize hW : w.alloc _ = W0
  have x0 : W0.cell? ⟨w.heap.size, 0, none⟩ = some (.int .i64 a1) := by rw [← hW]; simp [go_sem]
  have x1 : W0.cell? ⟨w.heap.size, 1, none⟩ = some (.int .i64 b1) := by rw [← hW]; simp [go_sem]
  have lx : w.heap.size < W0.heap.size := by rw [← hW]; simp
  have BW0 := Lib.hid (show Below w.heap.size w W0 from by rw [← hW]; exact (Below.refl _ _).alloc (Nat.le_refl _) _)
  clear hW Bw
  refine (szSpanS_any _ _ _ _ _ (by omega) (by omega) hm0).mono ?_
  rintro e w' ⟨rfl, rfl⟩
  by_cases hneg0 : (1048576 : Int) - zs0.length < 0
  · rw [if_pos hneg0]
    go_wp2
    go_ret
    exact ⟨rfl, BW0.out⟩
  · skip
    rw [if_neg hneg0]
    have hl0 : zs0.length ≤ 1048577 := by omega
    have hzl : (setAddL zs0 a1 b1).length ≤ 4194304 := by have := setAddL_len zs0 a1 b1; omega
    obtain ⟨zs, hzs⟩ : ∃ zs, setAddL zs0 a1 b1 = zs := ⟨_, rfl⟩
    rw [hzs] at hzl
    have HZ := Lib.hid hzs
    clear hzs
    go_upto_region 5 with fail
    have hq0 : Below W0.heap.size W0 W0 := Below.refl _ _
    have hzW := BW0.out.size
    go_cut [6] (fun s1 wx => AtR W0 zs s1 wx)
    case first =>
      go_region_held3 (fun w' => w'.cell? ⟨w.heap.size, 0, none⟩ = some (.int .i64 a1) ∧ w'.cell? ⟨w.heap.size, 1, none⟩ = some (.int .i64 b1) ∧ W0.heap.size ≤ w'.heap.size ∧ Below W0.heap.size W0 w')
        (((try go_split_ands); refine ⟨?c0, ?c1, ?s, ?b⟩; (case c0 => (repeat (first | with_reducible assumption | with_reducible refine cell_below hb (by first | omega | (simp; done) | (simp; omega)) ?_ | with_reducible refine cell_set_far (by first | omega | (simp; done) | (simp; omega)) ?_ | with_reducible exact cell_alloc_swap (by with_reducible assumption) (by first | omega | (simp; done) | (simp; omega)) | with_reducible refine cell_alloc_far ?_ | with_reducible refine cell_drew ?_))); (case c1 => (repeat (first | with_reducible assumption | with_reducible refine cell_below hb (by first | omega | (simp; done) | (simp; omega)) ?_ | with_reducible refine cell_set_far (by first | omega | (simp; done) | (simp; omega)) ?_ | with_reducible exact cell_alloc_swap (by with_reducible assumption) (by first | omega | (simp; done) | (simp; omega)) | with_reducible refine cell_alloc_far ?_ | with_reducible refine cell_drew ?_))); (case s => (first | with_reducible assumption | (have := hb.size; omega) | omega | (simp; done) | (simp; omega) | (have := hb.size; simp at this ⊢; omega))); (case b => (repeat (first | with_reducible assumption | with_reducible exact hq0 | with_reducible refine Below.drew ?_ | with_reducible refine Below.trans ?_ (hb.mono (by first | omega | (simp; done) | (simp; omega))) | with_reducible refine Below.setCell ?_ (by first | omega | (simp; done) | (simp; omega)) _ | with_reducible exact below_alloc_swap (by with_reducible assumption) (by first | omega | (simp; done) | (simp; omega)) | with_reducible refine Below.alloc ?_ (by first | omega | (simp; done) | (simp; omega)) _)))))
        (first
          | (go_at_call 28; refine (toSpanS_any _ _ _ _ (HZ0.out.below (by first | exact BW0.out | exact BW0.out.drew)) hl0).mono ?_; rintro e wA ⟨AA, cA, rfl, ho, hb⟩; have OA := Lib.hid ho; clear ho; have hsA : W0.heap.size ≤ wA.heap.size := (by have := hb.size; first | omega | (simp at this; omega)); obtain ⟨hc, hf, hlb⟩ := bcell3 hb)
          | (go_at_call 29; refine (toSpan_any _ _ _).mono ?_; rintro e wB ⟨rfl, hb⟩; have OB := Lib.hid (ownsKeep OA.out hb); have hsB : W0.heap.size ≤ wB.heap.size := (by have := hb.size; first | omega | (simp at this; omega)); obtain ⟨hc2, hf2, hlb2⟩ := bcell3 hb)
          | (go_at_call 27; refine (sSetAdd_any _ _ _ a1 b1 _ (owns_spans OB.out) hl0).mono ?_; rw [HZ.out]; rintro e wC ⟨AC, cC, rfl, ho, hb⟩; have OC := Lib.hid (ownsBase (base' := W0.heap.size) (show wC.ownsRow wB.heap.size 42 2 (.slice AC zs.length cC) zs.length (flat zs) from ho) hsB); clear ho))
      all_goals (go_wp2_with fail; go_meet; unfold AtR; rename_i hH; exact ⟨AC, cC, rfl, OC.out, hH.2.2.2⟩)
    case rest =>
      obtain ⟨AW0, cW0, rfl, ho, hb⟩ := hcut
      have OW0 := Lib.hid ho
      clear ho hq0 hzW
      have zzW0 := BW0.out.size
      have zxW0 := lx
      replace x0 := cellBelow hb lx x0
      replace x1 := cellBelow hb lx x1
      replace lx := Nat.lt_of_lt_of_le lx hb.size
      have Bw2 := Lib.hid (BW0.out.trans (hb.mono BW0.out.size))
      clear BW0
      clear hb
      go_wp2_with fail
      refine (toSpanS_any _ _ _ _ (HZ0.out.below Bw2.out) hl0).mono ?_
      rintro e w3 ⟨Ax0, cx0, rfl, ho, hb⟩
      have Ox0 := Lib.hid ho
      clear ho
      have zzx0 := Bw2.out.size
      have zxx0 := lx
      have aW0x0 := Lib.hid (ownsApart OW0.out (Nat.le_refl _) (Nat.le_refl _) Ox0.out)
      replace x0 := cellBelow hb lx x0
      replace x1 := cellBelow hb lx x1
      replace lx := Nat.lt_of_lt_of_le lx hb.size
      have Bw3 := Lib.hid (Bw2.out.trans (hb.mono Bw2.out.size))
      have Kw3W0 := Lib.hid (ownsKeep OW0.out hb)
      clear OW0
      clear Bw2
      clear hb
      go_wp2_with fail
      refine (toSpan_any _ _ _).mono ?_
      rintro e w4 ⟨rfl, hb⟩
      replace x0 := cellBelow hb lx x0
      replace x1 := cellBelow hb lx x1
      replace lx := Nat.lt_of_lt_of_le lx hb.size
      have Bw4 := Lib.hid (Bw3.out.trans (hb.mono Bw3.out.size))
      have Kw4W0 := Lib.hid (ownsKeep Kw3W0.out hb)
      clear Kw3W0
      have Kw4x0 := Lib.hid (ownsKeep Ox0.out hb)
      clear Ox0
      clear Bw3
      clear hb
      go_wp2_with fail
      refine (SetAdd_any _ _ _ a1 b1 _ (owns_spans Kw4x0.out) (owns_nilcap Kw4x0.out) hl0).mono ?_
      rw [HZ.out]
      rintro e w5 ⟨AG0, cG0, rfl, ho, hb⟩
      have OG0 := Lib.hid ho
      clear ho
      have zzG0 := Bw4.out.size
      have zxG0 := lx
      have aW0G0 := Lib.hid (ownsApart Kw4W0.out (Nat.le_refl _) (Nat.le_refl _) OG0.out)
      have ax0G0 := Lib.hid (ownsApart Kw4x0.out (Nat.le_refl _) (Nat.le_refl _) OG0.out)
      replace x0 := cellBelow hb lx x0
      replace x1 := cellBelow hb lx x1
      replace lx := Nat.lt_of_lt_of_le lx hb.size
      have Bw5 := Lib.hid (Bw4.out.trans (hb.mono Bw4.out.size))
      have Kw5W0 := Lib.hid (ownsKeep Kw4W0.out hb)
      clear Kw4W0
      have Kw5x0 := Lib.hid (ownsKeep Kw4x0.out hb)
      clear Kw4x0
      clear Bw4
      clear hb
      go_wp2_with fail
      refine (eqSpanS_same _ _ _ _ _ _ (owns_spans OG0.out) (owns_spans Kw5W0.out) (by unfold maxLen; omega)).mono ?_
      rintro e w6 ⟨rfl, hb⟩
      replace x0 := cellBelow hb lx x0
      replace x1 := cellBelow hb lx x1
      replace lx := Nat.lt_of_lt_of_le lx hb.size
      have Bw6 := Lib.hid (Bw5.out.trans (hb.mono Bw5.out.size))
      have Kw6W0 := Lib.hid (ownsKeep Kw5W0.out hb)
      clear Kw5W0
      have Kw6x0 := Lib.hid (ownsKeep Kw5x0.out hb)
      clear Kw5x0
      have Kw6G0 := Lib.hid (ownsKeep OG0.out hb)
      clear OG0
      clear Bw5
      clear hb
      go_wp2_with fail
      refine (toSpanS_any _ _ _ _ (HZ0.out.below Bw6.out) hl0).mono ?_
      rintro e w7 ⟨Ay0, cy0, rfl, ho, hb⟩
      have Oy0 := Lib.hid ho
      clear ho
      have zzy0 := Bw6.out.size
      have zxy0 := lx
      have aW0y0 := Lib.hid (ownsApart Kw6W0.out (Nat.le_refl _) (Nat.le_refl _) Oy0.out)
      have ax0y0 := Lib.hid (ownsApart Kw6x0.out (Nat.le_refl _) (Nat.le_refl _) Oy0.out)
      have aG0y0 := Lib.hid (ownsApart Kw6G0.out (Nat.le_refl _) (Nat.le_refl _) Oy0.out)
      replace x0 := cellBelow hb lx x0
      replace x1 := cellBelow hb lx x1
      replace lx := Nat.lt_of_lt_of_le lx hb.size
      have Bw7 := Lib.hid (Bw6.out.trans (hb.mono Bw6.out.size))
      have Kw7W0 := Lib.hid (ownsKeep Kw6W0.out hb)
      clear Kw6W0
      have Kw7x0 := Lib.hid (ownsKeep Kw6x0.out hb)
      clear Kw6x0
      have Kw7G0 := Lib.hid (ownsKeep Kw6G0.out hb)
      clear Kw6G0
      clear Bw6
      clear hb
      go_wp2_with fail
      refine (eqSpanS_same _ _ _ _ _ _ (owns_spans Kw7x0.out) (owns_spans Oy0.out) hm0).mono ?_
      rintro e w8 ⟨rfl, hb⟩
      replace x0 := cellBelow hb lx x0
      replace x1 := cellBelow hb lx x1
      replace lx := Nat.lt_of_lt_of_le lx hb.size
      have Bw8 := Lib.hid (Bw7.out.trans (hb.mono Bw7.out.size))
      have Kw8W0 := Lib.hid (ownsKeep Kw7W0.out hb)
      clear Kw7W0
      have Kw8x0 := Lib.hid (ownsKeep Kw7x0.out hb)
      clear Kw7x0
      have Kw8G0 := Lib.hid (ownsKeep Kw7G0.out hb)
      clear Kw7G0
      have Kw8y0 := Lib.hid (ownsKeep Oy0.out hb)
      clear Oy0
      clear Bw7
      clear hb
      clear Kw8y0
      go_wp2_with fail
      refine (mark_any _ _ zs0 1 _ Kw8x0.out (by omega) (by omega) (by omega)).mono ?_
      rintro e w9 ⟨rfl, hmk, hg⟩
      have Bw9 := Lib.hid (Bw8.out.grown hg Bw8.out.size (fun k e => by have := (Kw8x0.out.lt k e).1; have := zzx0; omega))
      have hbx : ∀ k, (Value.slice (some ⟨Ax0, 0, none⟩) zs0.length cx0).ownBlock = some k → w.heap.size < k := fun k e => by have := (Kw8x0.out.lt k e).1; have := zzx0; have := zxx0; omega
      replace x0 : w9.cell? ⟨w.heap.size, 0, none⟩ = some (.int .i64 a1) := (World.cell?_of_block (a := ⟨w.heap.size, 0, none⟩) (hg.block w.heap.size lx (fun e => by have := hbx _ e.symm; omega))).trans x0
      replace x1 : w9.cell? ⟨w.heap.size, 1, none⟩ = some (.int .i64 b1) := (World.cell?_of_block (a := ⟨w.heap.size, 1, none⟩) (hg.block w.heap.size lx (fun e => by have := hbx _ e.symm; omega))).trans x1
      replace lx := Nat.lt_of_lt_of_le lx hg.size
      clear hbx
      have Kw9W0 := Lib.hid (Kw8W0.out.kept hg aW0x0.out)
      clear Kw8W0
      have Kw9G0 := Lib.hid (Kw8G0.out.kept hg (apSym ax0G0.out))
      clear Kw8G0
      clear Kw8x0
      clear hmk hg Bw8
      have hk : decide (1 + 2 * (zs0.length : Int) < 0) = false := decide_eq_false (by omega)
      go_wp2_with fail
      refine (eqSpanS_same _ _ _ _ _ _ (owns_spans Kw9G0.out) (owns_spans Kw9W0.out) (by unfold maxLen; omega)).mono ?_
      rintro e w10 ⟨rfl, hb⟩
      replace x0 := cellBelow hb lx x0
      replace x1 := cellBelow hb lx x1
      replace lx := Nat.lt_of_lt_of_le lx hb.size
      have Bw10 := Lib.hid (Bw9.out.trans (hb.mono Bw9.out.size))
      have Kw10W0 := Lib.hid (ownsKeep Kw9W0.out hb)
      clear Kw9W0
      have Kw10G0 := Lib.hid (ownsKeep Kw9G0.out hb)
      clear Kw9G0
      clear Bw9
      clear hb
      go_wp2_with fail
      refine (mark_any _ _ zs 1 _ Kw10G0.out (by omega) (by omega) (by omega)).mono ?_
      rintro e w11 ⟨rfl, hmk, hg⟩
      have Bw11 := Lib.hid (Bw10.out.grown hg Bw10.out.size (fun k e => by have := (Kw10G0.out.lt k e).1; have := zzG0; omega))
      have hbx : ∀ k, (Value.slice AG0 zs.length cG0).ownBlock = some k → w.heap.size < k := fun k e => by have := (Kw10G0.out.lt k e).1; have := zzG0; have := zxG0; omega
      replace x0 : w11.cell? ⟨w.heap.size, 0, none⟩ = some (.int .i64 a1) := (World.cell?_of_block (a := ⟨w.heap.size, 0, none⟩) (hg.block w.heap.size lx (fun e => by have := hbx _ e.symm; omega))).trans x0
      replace x1 : w11.cell? ⟨w.heap.size, 1, none⟩ = some (.int .i64 b1) := (World.cell?_of_block (a := ⟨w.heap.size, 1, none⟩) (hg.block w.heap.size lx (fun e => by have := hbx _ e.symm; omega))).trans x1
      replace lx := Nat.lt_of_lt_of_le lx hg.size
      clear hbx
      have Kw11W0 := Lib.hid (Kw10W0.out.kept hg aW0G0.out)
      clear Kw10W0
      have MG0 := Lib.hid (show w11.ownsRow _ 42 2 (.slice AG0 (markL 1 zs.length).length cG0) (markL 1 zs.length).length (flat (markL 1 zs.length)) from by rw [markL_length]; exact hmk)
      clear Kw10G0
      clear hmk hg Bw10
      go_wp2_with fail
      refine (held_any _ zs.length _ 1 _ (owns_spans MG0.out) (by omega) (by omega) (by omega)).mono ?_
      rintro e w12 ⟨rfl, rfl⟩
      have hq : decide (1 + 2 * (zs.length : Int) < 0) = false := decide_eq_false (by omega)
      go_upto_region 24 with fail
      have hq0 : Below w12.heap.size w12 w12 := Below.refl _ _
      have hzW := Bw11.out.size
      go_cut [12] (fun s1 wx => AtR w12 zs s1 wx)
      case first =>
        go_region_held3 (fun w' => w'.cell? ⟨w.heap.size, 0, none⟩ = some (.int .i64 a1) ∧ w'.cell? ⟨w.heap.size, 1, none⟩ = some (.int .i64 b1) ∧ w12.heap.size ≤ w'.heap.size ∧ Below w12.heap.size w12 w')
          (((try go_split_ands); refine ⟨?c0, ?c1, ?s, ?b⟩; (case c0 => (repeat (first | with_reducible assumption | with_reducible refine cell_below hb (by first | omega | (simp; done) | (simp; omega)) ?_ | with_reducible refine cell_set_far (by first | omega | (simp; done) | (simp; omega)) ?_ | with_reducible exact cell_alloc_swap (by with_reducible assumption) (by first | omega | (simp; done) | (simp; omega)) | with_reducible refine cell_alloc_far ?_ | with_reducible refine cell_drew ?_))); (case c1 => (repeat (first | with_reducible assumption | with_reducible refine cell_below hb (by first | omega | (simp; done) | (simp; omega)) ?_ | with_reducible refine cell_set_far (by first | omega | (simp; done) | (simp; omega)) ?_ | with_reducible exact cell_alloc_swap (by with_reducible assumption) (by first | omega | (simp; done) | (simp; omega)) | with_reducible refine cell_alloc_far ?_ | with_reducible refine cell_drew ?_))); (case s => (first | with_reducible assumption | (have := hb.size; omega) | omega | (simp; done) | (simp; omega) | (have := hb.size; simp at this ⊢; omega))); (case b => (repeat (first | with_reducible assumption | with_reducible exact hq0 | with_reducible refine Below.drew ?_ | with_reducible refine Below.trans ?_ (hb.mono (by first | omega | (simp; done) | (simp; omega))) | with_reducible refine Below.setCell ?_ (by first | omega | (simp; done) | (simp; omega)) _ | with_reducible exact below_alloc_swap (by with_reducible assumption) (by first | omega | (simp; done) | (simp; omega)) | with_reducible refine Below.alloc ?_ (by first | omega | (simp; done) | (simp; omega)) _)))))
          (first
            | (go_at_call 28; refine (toSpanS_any _ _ _ _ (HZ0.out.below (by first | exact Bw11.out | exact Bw11.out.drew)) hl0).mono ?_; rintro e wA ⟨AA, cA, rfl, ho, hb⟩; have OA := Lib.hid ho; clear ho; have hsA : w12.heap.size ≤ wA.heap.size := (by have := hb.size; first | omega | (simp at this; omega)); obtain ⟨hc, hf, hlb⟩ := bcell3 hb)
            | (go_at_call 29; refine (toSpan_any _ _ _).mono ?_; rintro e wB ⟨rfl, hb⟩; have OB := Lib.hid (ownsKeep OA.out hb); have hsB : w12.heap.size ≤ wB.heap.size := (by have := hb.size; first | omega | (simp at this; omega)); obtain ⟨hc2, hf2, hlb2⟩ := bcell3 hb)
            | (go_at_call 30; refine (SetAdd_any _ _ _ a1 b1 _ (owns_spans OB.out) (owns_nilcap OB.out) hl0).mono ?_; rw [HZ.out]; rintro e wC ⟨AC, cC, rfl, ho, hb⟩; have OC := Lib.hid (ownsBase (base' := w12.heap.size) (show wC.ownsRow wB.heap.size 42 2 (.slice AC zs.length cC) zs.length (flat zs) from ho) hsB); clear ho))
        all_goals (go_wp2_with fail; go_meet; unfold AtR; rename_i hH; exact ⟨AC, cC, rfl, OC.out, hH.2.2.2⟩)
      case rest =>
        obtain ⟨AH0, cH0, rfl, ho, hb⟩ := hcut
        have OH0 := Lib.hid ho
        clear ho hq0 hzW
        have zzH0 := Bw11.out.size
        have zxH0 := lx
        have aW0H0 := Lib.hid (ownsApart Kw11W0.out (Nat.le_refl _) (Nat.le_refl _) OH0.out)
        have aG0H0 := Lib.hid (ownsApart MG0.out (Nat.le_refl _) (Nat.le_refl _) OH0.out)
        replace x0 := cellBelow hb lx x0
        replace x1 := cellBelow hb lx x1
        replace lx := Nat.lt_of_lt_of_le lx hb.size
        have Bw14 := Lib.hid (Bw11.out.trans (hb.mono Bw11.out.size))
        have Kw14W0 := Lib.hid (ownsKeep Kw11W0.out hb)
        clear Kw11W0
        have Kw14G0 := Lib.hid (ownsKeep MG0.out hb)
        clear MG0
        clear Bw11
        clear hb
        go_wp2_with fail
        refine (eqSpanS_same _ _ _ _ _ _ (owns_spans OH0.out) (owns_spans Kw14W0.out) (by unfold maxLen; omega)).mono ?_
        rintro e w15 ⟨rfl, hb⟩
        replace x0 := cellBelow hb lx x0
        replace x1 := cellBelow hb lx x1
        replace lx := Nat.lt_of_lt_of_le lx hb.size
        have Bw15 := Lib.hid (Bw14.out.trans (hb.mono Bw14.out.size))
        have Kw15W0 := Lib.hid (ownsKeep Kw14W0.out hb)
        clear Kw14W0
        have Kw15G0 := Lib.hid (ownsKeep Kw14G0.out hb)
        clear Kw14G0
        have Kw15H0 := Lib.hid (ownsKeep OH0.out hb)
        clear OH0
        clear Bw14
        clear hb
        go_wp2_with fail
        refine (held_any _ zs.length _ 1 _ (owns_spans Kw15G0.out) (by omega) (by omega) (by omega)).mono ?_
        rintro e w16 ⟨rfl, rfl⟩
        go_wp2
        go_ret
        exact ⟨rfl, Bw15.out⟩
end Go.Proofs.Ytkdhdppngfadiaa
