/-
  The walk of the exact law of TraceOf.
-/
import Derived.Test.YtacddgipcafdlaaTrcF
import Derived.Test.YtacddgipcafdlaaVerM
import Derived.Test.YtacddgipcafdlaaTraM
namespace Go.Proofs.Ytacddgipcafdlaa
open Go.RowKit Go.Lib

def AtTTraceOf (W : World) (s1 : Value) (wx : World) : Prop := s1 = .bool false ∧ Below W.heap.size W wx

set_option maxRecDepth 100000 in
set_option maxHeartbeats 8000000 in
theorem FnExactTraceOf_any (now : Int) (A : Option Addr) (n cap : Nat) (zs : List VerV) (key : ByteArray) (a0 : Int) (w : World) (h : VersA w A zs ∧ zs.length = n ∧ n ≤ maxLen ∧ ShortV zs) (_hk : key.size ≤ maxLen) :
    Calls Try.prog 7 #[.agg #[.int .i64 now, .slice A n cap], .string key, .int .i64 a0] w fun e w' => e = .returned (.bool true) ∧ Below w.heap.size w w' := by
  obtain ⟨hz, rfl, hm, hs⟩ := h
  have HS := Lib.hid hs
  clear hs
  by_cases hlt : (1048576 : Int) < key.size
  · go_enter Try.func7, Try.ntmps7
    go_wp2
    go_ret
    exact ⟨rfl, (Below.refl _ _).alloc (Nat.le_refl _) _⟩
  · skip
    go_enter Try.func7, Try.ntmps7
    go_wp2_with fail
    generalize hW : w.alloc _ = W0
    have x0 : W0.cell? ⟨w.heap.size, 0, none⟩ = some (.int .i64 now) := by rw [← hW]; simp [go_sem]
    have x1 : W0.cell? ⟨w.heap.size, 1, none⟩ = some (.slice A zs.length cap) := by rw [← hW]; simp [go_sem]
    have lx : w.heap.size < W0.heap.size := by rw [← hW]; simp
    have B0 := Lib.hid (show Below w.heap.size w W0 from by rw [← hW]; exact (Below.refl _ _).alloc (Nat.le_refl _) _)
    have Z0 := Lib.hid (hz.below B0.out)
    obtain ⟨G, hG⟩ : ∃ G, w.heap.size = G := ⟨_, rfl⟩
    have HG := Lib.hid hG
    rw [hG] at x0 x1 lx ⊢
    have HZW := Lib.hid hz
    clear hW hG hz
    refine (szStore_any A cap zs now _ _ (by omega) (by omega) Z0.out hm HS.out).mono ?_
    rintro e w1 ⟨v, rfl, hv, hb⟩
    replace x0 := cellBelow hb lx x0
    replace x1 := cellBelow hb lx x1
    replace lx := Nat.lt_of_lt_of_le lx hb.size
    have Zw1 := Lib.hid (Z0.out.below hb)
    have Bw1 := Lib.hid (B0.out.trans (hb.mono B0.out.size))
    clear hb Z0 B0
    rcases hv with rfl | ⟨hv0, hv1, hv2⟩
    · go_wp2
      go_ret
      exact ⟨rfl, Bw1.out⟩
    · skip
      have hl : zs.length ≤ 1048576 := by omega
      have hd : decide (v < 0) = false := decide_eq_false (by omega)
      have hzl0 : (traceL zs now key a0).length ≤ 1048576 := (Nat.le_trans (trace_len key a0) (by omega))
      obtain ⟨z0l, hzs0⟩ : ∃ z, traceL zs now key a0 = z := ⟨_, rfl⟩
      rw [hzs0] at hzl0
      have HR0 := Lib.hid hzs0
      clear hzs0
      go_wp2_with fail
      refine (toStore_any A cap zs now _ Zw1.out (by omega)).mono ?_
      rintro e w2 ⟨AS, cS, rfl, ho, hb⟩
      have OS := Lib.hid ho
      have zzS := Bw1.out.size
      have zxS := lx
      clear ho
      replace x0 := cellBelow hb lx x0
      replace x1 := cellBelow hb lx x1
      replace lx := Nat.lt_of_lt_of_le lx hb.size
      have Zw2 := Lib.hid (Zw1.out.below hb)
      have Bw2 := Lib.hid (Bw1.out.trans (hb.mono Bw1.out.size))
      clear hb Zw1 Bw1
      go_wp2_with fail
      refine (sTraceOf_any AS cS zs now key a0 _ (el_of_owns verC_len OS.out) (by omega) HS.out).mono ?_
      rw [HR0.out]
      rintro e w3 ⟨AW0, cW0, rfl, ho0, hb⟩
      have zzW := Bw2.out.size
      have zxW := lx
      have OW0 := Lib.hid ho0
      clear ho0
      have aSW0 := Lib.hid (ownsApart OS.out (Nat.le_refl _) (Nat.le_refl _) OW0.out)
      replace x0 := cellBelow hb lx x0
      replace x1 := cellBelow hb lx x1
      replace lx := Nat.lt_of_lt_of_le lx hb.size
      have Zw3 := Lib.hid (Zw2.out.below hb)
      have Bw3 := Lib.hid (Bw2.out.trans (hb.mono Bw2.out.size))
      have Kw3S := Lib.hid (ownsKeep OS.out hb)
      clear OS
      clear hb Zw2 Bw2
      clear Kw3S
      go_wp2_with fail
      refine (toStore_any A cap zs now _ Zw3.out (by omega)).mono ?_
      rintro e w4 ⟨AX, cX, rfl, ho, hb⟩
      have OX := Lib.hid ho
      have zzX := Bw3.out.size
      have zxX := lx
      clear ho
      have aW0X := Lib.hid (ownsApart OW0.out (Nat.le_refl _) (Nat.le_refl _) OX.out)
      replace x0 := cellBelow hb lx x0
      replace x1 := cellBelow hb lx x1
      replace lx := Nat.lt_of_lt_of_le lx hb.size
      have Zw4 := Lib.hid (Zw3.out.below hb)
      have Bw4 := Lib.hid (Bw3.out.trans (hb.mono Bw3.out.size))
      have Kw4W0 := Lib.hid (ownsKeep OW0.out hb)
      clear OW0
      clear hb Zw3 Bw3
      go_wp2_with fail
      generalize hW : w4.alloc _ = WX
      have y0 : WX.cell? ⟨w4.heap.size, 0, none⟩ = some (.int .i64 now) := by rw [← hW]; simp [go_sem]
      have y1 : WX.cell? ⟨w4.heap.size, 1, none⟩ = some (.slice AX zs.length cX) := by rw [← hW]; simp [go_sem]
      have ly : w4.heap.size < WX.heap.size := by rw [← hW]; simp
      have hb : Below w4.heap.size w4 WX := by rw [← hW]; exact (Below.refl _ _).alloc (Nat.le_refl _) _
      have hXY : ∀ k, (Value.slice AX zs.length cX).ownBlock = some k → k < w4.heap.size := fun k e => (OX.out.lt k e).2
      obtain ⟨Y, hY⟩ : ∃ Y, w4.heap.size = Y := ⟨_, rfl⟩
      rw [hY] at y0 y1 ly hXY
      have lGY : G < Y := by rw [← hY]; exact lx
      clear hW
      replace x0 := cellBelow hb lx x0
      replace x1 := cellBelow hb lx x1
      replace lx := Nat.lt_of_lt_of_le lx hb.size
      have ZWX := Lib.hid (Zw4.out.below hb)
      have BWX := Lib.hid (Bw4.out.trans (hb.mono Bw4.out.size))
      have KWXW0 := Lib.hid (ownsKeep Kw4W0.out hb)
      clear Kw4W0
      have KWXX := Lib.hid (ownsKeep OX.out hb)
      clear OX
      clear hb Zw4 Bw4
      rw [hY]
      clear hY
      refine (TraceOf_any AX cX zs now key a0 _ (el_of_owns verC_len KWXX.out) (by omega) HS.out).mono ?_
      rw [HR0.out]
      rintro e w5 ⟨AG0, cG0, rfl, ho0, hb⟩
      have zzG := BWX.out.size
      have zxG := lx
      have OG0 := Lib.hid ho0
      clear ho0
      have aW0G0 := Lib.hid (ownsApart KWXW0.out (Nat.le_refl _) (Nat.le_refl _) OG0.out)
      have aXG0 := Lib.hid (ownsApart KWXX.out (Nat.le_refl _) (Nat.le_refl _) OG0.out)
      replace x0 := cellBelow hb lx x0
      replace x1 := cellBelow hb lx x1
      replace lx := Nat.lt_of_lt_of_le lx hb.size
      replace y0 := cellBelow hb ly y0
      replace y1 := cellBelow hb ly y1
      replace ly := Nat.lt_of_lt_of_le ly hb.size
      have Zw5 := Lib.hid (ZWX.out.below hb)
      have Bw5 := Lib.hid (BWX.out.trans (hb.mono BWX.out.size))
      have Kw5W0 := Lib.hid (ownsKeep KWXW0.out hb)
      clear KWXW0
      have Kw5X := Lib.hid (ownsKeep KWXX.out hb)
      clear KWXX
      clear hb ZWX BWX
      go_wp2_with fail
      refine (eqTraceS_same _ _ _ _ _ _ (el_of_owns traC_len OG0.out) (el_of_owns traC_len Kw5W0.out) (by unfold maxLen; omega)).mono ?_
      rintro e w6 ⟨rfl, hb⟩
      replace x0 := cellBelow hb lx x0
      replace x1 := cellBelow hb lx x1
      replace lx := Nat.lt_of_lt_of_le lx hb.size
      replace y0 := cellBelow hb ly y0
      replace y1 := cellBelow hb ly y1
      replace ly := Nat.lt_of_lt_of_le ly hb.size
      have Zw6 := Lib.hid (Zw5.out.below hb)
      have Bw6 := Lib.hid (Bw5.out.trans (hb.mono Bw5.out.size))
      have Kw6W0 := Lib.hid (ownsKeep Kw5W0.out hb)
      clear Kw5W0
      have Kw6X := Lib.hid (ownsKeep Kw5X.out hb)
      clear Kw5X
      have Kw6G0 := Lib.hid (ownsKeep OG0.out hb)
      clear OG0
      clear hb Zw5 Bw5
      have hq0 : Below w6.heap.size w6 w6 := Below.refl _ _
      have VX := Lib.hid (show VersA w6 AX zs from el_of_owns verC_len Kw6X.out)
      go_upto_region 12 with fail
      go_cut [42] (fun s1 wx => AtTTraceOf w6 s1 wx)
      case first =>
        go_region_held3 (fun w' => w'.cell? ⟨G, 0, none⟩ = some (.int .i64 now) ∧ w'.cell? ⟨G, 1, none⟩ = some (.slice A zs.length cap) ∧ w'.cell? ⟨Y, 0, none⟩ = some (.int .i64 now) ∧ w'.cell? ⟨Y, 1, none⟩ = some (.slice AX zs.length cX) ∧ w6.heap.size ≤ w'.heap.size ∧ Below w6.heap.size w6 w')
          (((try go_split_ands); refine ⟨?cc90, ?cc91, ?cc92, ?cc93, ?sz9, ?bl9⟩; (case cc90 => (repeat (first | with_reducible assumption | with_reducible refine cell_below hb (by first | omega | (simp; done) | (simp; omega)) ?_ | with_reducible refine cell_set_far (by first | omega | (simp; done) | (simp; omega)) ?_ | with_reducible exact cell_alloc_swap (by with_reducible assumption) (by first | omega | (simp; done) | (simp; omega)) | with_reducible refine cell_alloc_far ?_ | with_reducible refine cell_drew ?_))); (case cc91 => (repeat (first | with_reducible assumption | with_reducible refine cell_below hb (by first | omega | (simp; done) | (simp; omega)) ?_ | with_reducible refine cell_set_far (by first | omega | (simp; done) | (simp; omega)) ?_ | with_reducible exact cell_alloc_swap (by with_reducible assumption) (by first | omega | (simp; done) | (simp; omega)) | with_reducible refine cell_alloc_far ?_ | with_reducible refine cell_drew ?_))); (case cc92 => (repeat (first | with_reducible assumption | with_reducible refine cell_below hb (by first | omega | (simp; done) | (simp; omega)) ?_ | with_reducible refine cell_set_far (by first | omega | (simp; done) | (simp; omega)) ?_ | with_reducible exact cell_alloc_swap (by with_reducible assumption) (by first | omega | (simp; done) | (simp; omega)) | with_reducible refine cell_alloc_far ?_ | with_reducible refine cell_drew ?_))); (case cc93 => (repeat (first | with_reducible assumption | with_reducible refine cell_below hb (by first | omega | (simp; done) | (simp; omega)) ?_ | with_reducible refine cell_set_far (by first | omega | (simp; done) | (simp; omega)) ?_ | with_reducible exact cell_alloc_swap (by with_reducible assumption) (by first | omega | (simp; done) | (simp; omega)) | with_reducible refine cell_alloc_far ?_ | with_reducible refine cell_drew ?_))); (case sz9 => (first | with_reducible assumption | (have := hb.size; omega) | omega | (simp; done) | (simp; omega) | (have := hb.size; simp at this ⊢; omega))); (case bl9 => (repeat (first | with_reducible assumption | with_reducible exact hq0 | with_reducible refine Below.drew ?_ | with_reducible refine Below.trans ?_ (hb.mono (by first | omega | (simp; done) | (simp; omega))) | with_reducible refine Below.setCell ?_ (by first | omega | (simp; done) | (simp; omega)) _ | with_reducible exact below_alloc_swap (by with_reducible assumption) (by first | omega | (simp; done) | (simp; omega)) | with_reducible refine Below.alloc ?_ (by first | omega | (simp; done) | (simp; omega)) _)))))
          (first
            | (go_at_call 26; (try go_split_ands); refine (toStore_any A cap zs now _ (Zw6.out.below (by (repeat (first | with_reducible assumption | with_reducible exact hq0 | with_reducible refine Below.drew ?_ | with_reducible refine Below.trans ?_ (hb.mono (by first | omega | (simp; done) | (simp; omega))) | with_reducible refine Below.setCell ?_ (by first | omega | (simp; done) | (simp; omega)) _ | with_reducible exact below_alloc_swap (by with_reducible assumption) (by first | omega | (simp; done) | (simp; omega)) | with_reducible refine Below.alloc ?_ (by first | omega | (simp; done) | (simp; omega)) _)))) (by omega)).mono ?_; rintro e wA ⟨AA, cA, rfl, ho, hb⟩; have VA := Lib.hid (show VersA wA AA zs from el_of_owns verC_len ho); clear ho; have hsz : w6.heap.size ≤ wA.heap.size := (by have := hb.size; first | omega | (simp at this; omega)); obtain ⟨hc, hf, hlb⟩ := bcell3 hb)
            | (go_at_call 19; (try go_split_ands); refine (eqStore_same AX AA cX cA zs now _ (VX.out.below (by (repeat (first | with_reducible assumption | with_reducible exact hq0 | with_reducible refine Below.drew ?_ | with_reducible refine Below.trans ?_ (hb.mono (by first | omega | (simp; done) | (simp; omega))) | with_reducible refine Below.setCell ?_ (by first | omega | (simp; done) | (simp; omega)) _ | with_reducible exact below_alloc_swap (by with_reducible assumption) (by first | omega | (simp; done) | (simp; omega)) | with_reducible refine Below.alloc ?_ (by first | omega | (simp; done) | (simp; omega)) _)))) VA.out hm).mono ?_; rintro e wB ⟨rfl, hb⟩; have hsz : w6.heap.size ≤ wB.heap.size := (by have := hb.size; first | omega | (simp at this; omega)); obtain ⟨hc, hf, hlb⟩ := bcell3 hb))
        all_goals (go_wp2_with fail; go_meet; unfold AtTTraceOf; rename_i hH; exact ⟨rfl, hH.2.2.2.2.2⟩)
      case rest =>
        obtain ⟨rfl, hb⟩ := hcut
        clear VX hq0
        replace x0 := cellBelow hb lx x0
        replace x1 := cellBelow hb lx x1
        replace lx := Nat.lt_of_lt_of_le lx hb.size
        replace y0 := cellBelow hb ly y0
        replace y1 := cellBelow hb ly y1
        replace ly := Nat.lt_of_lt_of_le ly hb.size
        have Zwc := Lib.hid (Zw6.out.below hb)
        have Bwc := Lib.hid (Bw6.out.trans (hb.mono Bw6.out.size))
        have KwcW0 := Lib.hid (ownsKeep Kw6W0.out hb)
        clear Kw6W0
        have KwcX := Lib.hid (ownsKeep Kw6X.out hb)
        clear Kw6X
        have KwcG0 := Lib.hid (ownsKeep Kw6G0.out hb)
        clear Kw6G0
        clear hb Zw6 Bw6
        go_wp2_with fail
        refine (markStore_any _ AX cX now zs 1 _ KwcX.out (by omega) (by omega) (by omega)).mono ?_
        rintro e w7 ⟨rfl, hmk, hg⟩
        have hbx : ∀ k, (Value.slice AX zs.length cX).ownBlock = some k → G < k := fun k e => by have := (KwcX.out.lt k e).1; have := zzX; have := zxX; omega
        have Bw7 := Lib.hid (Bwc.out.grown hg Bwc.out.size (fun k e => by have := hbx k e; have := HG.out; omega))
        replace x0 : w7.cell? ⟨G, 0, none⟩ = some (.int .i64 now) := (World.cell?_of_block (a := ⟨G, 0, none⟩) (hg.block G lx (fun e => by have := hbx _ e.symm; omega))).trans x0
        replace x1 : w7.cell? ⟨G, 1, none⟩ = some (.slice A zs.length cap) := (World.cell?_of_block (a := ⟨G, 1, none⟩) (hg.block G lx (fun e => by have := hbx _ e.symm; omega))).trans x1
        replace lx := Nat.lt_of_lt_of_le lx hg.size
        have Zw7 := Lib.hid (HZW.out.below (Bw7.out))
        have Kw7W0 := Lib.hid (KwcW0.out.kept hg aW0X.out)
        clear KwcW0
        have Kw7G0 := Lib.hid (KwcG0.out.kept hg (apSym aXG0.out))
        clear KwcG0
        clear KwcX
        clear hmk hg Bwc Zwc hbx
        clear y0 y1 ly hXY lGY
        have hk : decide ((1 : Int) + 6 * (zs.length : Int) < 0) = false := decide_eq_false (by omega)
        go_wp2_with fail
        refine (eqTraceS_same _ _ _ _ _ _ (el_of_owns traC_len Kw7G0.out) (el_of_owns traC_len Kw7W0.out) (by unfold maxLen; omega)).mono ?_
        rintro e w8 ⟨rfl, hb⟩
        replace x0 := cellBelow hb lx x0
        replace x1 := cellBelow hb lx x1
        replace lx := Nat.lt_of_lt_of_le lx hb.size
        have Zw8 := Lib.hid (Zw7.out.below hb)
        have Bw8 := Lib.hid (Bw7.out.trans (hb.mono Bw7.out.size))
        have Kw8W0 := Lib.hid (ownsKeep Kw7W0.out hb)
        clear Kw7W0
        have Kw8G0 := Lib.hid (ownsKeep Kw7G0.out hb)
        clear Kw7G0
        clear hb Zw7 Bw7
        go_wp2_with fail
        refine (markTraceS_any _ _ z0l (1) _ Kw8G0.out (by omega) (by omega) (by omega)).mono ?_
        rintro e w9 ⟨rfl, hmk, hg⟩
        have hbx : ∀ k, (Value.slice AG0 z0l.length cG0).ownBlock = some k → G < k := fun k e => by have := (Kw8G0.out.lt k e).1; have := zzG; have := zxG; omega
        have Bw9 := Lib.hid (Bw8.out.grown hg Bw8.out.size (fun k e => by have := hbx k e; have := HG.out; omega))
        replace x0 : w9.cell? ⟨G, 0, none⟩ = some (.int .i64 now) := (World.cell?_of_block (a := ⟨G, 0, none⟩) (hg.block G lx (fun e => by have := hbx _ e.symm; omega))).trans x0
        replace x1 : w9.cell? ⟨G, 1, none⟩ = some (.slice A zs.length cap) := (World.cell?_of_block (a := ⟨G, 1, none⟩) (hg.block G lx (fun e => by have := hbx _ e.symm; omega))).trans x1
        replace lx := Nat.lt_of_lt_of_le lx hg.size
        have Zw9 := Lib.hid (HZW.out.below (Bw9.out))
        have Kw9W0 := Lib.hid (Kw8W0.out.kept hg aW0G0.out)
        clear Kw8W0
        have MG0 := Lib.hid (show w9.ownsRow _ 98 2 (.slice AG0 (markE traMk 2 (1) z0l.length).length cG0) (markE traMk 2 (1) z0l.length).length (flatOf traC (markE traMk 2 (1) z0l.length)) from by rw [markE_length]; exact hmk)
        clear Kw8G0
        clear hmk hg Bw8 Zw8 hbx
        have hq0w10 : decide (1 + 2 * (z0l.length : Int) < 0) = false := decide_eq_false (by omega)
        go_wp2_with fail
        refine (heldTraceS_any _ z0l.length _ (1) _ (el_of_owns traC_len MG0.out) (by omega) (by omega) (by omega)).mono ?_
        rintro e w10 ⟨rfl, hb⟩
        replace x0 := cellBelow hb lx x0
        replace x1 := cellBelow hb lx x1
        replace lx := Nat.lt_of_lt_of_le lx hb.size
        have Zw10 := Lib.hid (Zw9.out.below hb)
        have Bw10 := Lib.hid (Bw9.out.trans (hb.mono Bw9.out.size))
        have Kw10W0 := Lib.hid (ownsKeep Kw9W0.out hb)
        clear Kw9W0
        have Kw10G0 := Lib.hid (ownsKeep MG0.out hb)
        clear MG0
        clear hb Zw9 Bw9
        go_wp2_with fail
        refine (toStore_any A cap zs now _ Zw10.out (by omega)).mono ?_
        rintro e w11 ⟨AT, cT, rfl, ho, hb⟩
        have OT := Lib.hid ho
        have zzT := Bw10.out.size
        have zxT := lx
        clear ho
        have aW0T := Lib.hid (ownsApart Kw10W0.out (Nat.le_refl _) (Nat.le_refl _) OT.out)
        have aG0T := Lib.hid (ownsApart Kw10G0.out (Nat.le_refl _) (Nat.le_refl _) OT.out)
        replace x0 := cellBelow hb lx x0
        replace x1 := cellBelow hb lx x1
        replace lx := Nat.lt_of_lt_of_le lx hb.size
        have Zw11 := Lib.hid (Zw10.out.below hb)
        have Bw11 := Lib.hid (Bw10.out.trans (hb.mono Bw10.out.size))
        have Kw11W0 := Lib.hid (ownsKeep Kw10W0.out hb)
        clear Kw10W0
        have Kw11G0 := Lib.hid (ownsKeep Kw10G0.out hb)
        clear Kw10G0
        clear hb Zw10 Bw10
        go_wp2_with fail
        refine (TraceOf_any AT cT zs now key a0 _ (el_of_owns verC_len OT.out) (by omega) HS.out).mono ?_
        rw [HR0.out]
        rintro e w12 ⟨AH0, cH0, rfl, ho0, hb⟩
        have zzH := Bw11.out.size
        have zxH := lx
        have OH0 := Lib.hid ho0
        clear ho0
        have aW0H0 := Lib.hid (ownsApart Kw11W0.out (Nat.le_refl _) (Nat.le_refl _) OH0.out)
        have aG0H0 := Lib.hid (ownsApart Kw11G0.out (Nat.le_refl _) (Nat.le_refl _) OH0.out)
        have aTH0 := Lib.hid (ownsApart OT.out (Nat.le_refl _) (Nat.le_refl _) OH0.out)
        replace x0 := cellBelow hb lx x0
        replace x1 := cellBelow hb lx x1
        replace lx := Nat.lt_of_lt_of_le lx hb.size
        have Zw12 := Lib.hid (Zw11.out.below hb)
        have Bw12 := Lib.hid (Bw11.out.trans (hb.mono Bw11.out.size))
        have Kw12W0 := Lib.hid (ownsKeep Kw11W0.out hb)
        clear Kw11W0
        have Kw12G0 := Lib.hid (ownsKeep Kw11G0.out hb)
        clear Kw11G0
        have Kw12T := Lib.hid (ownsKeep OT.out hb)
        clear OT
        clear hb Zw11 Bw11
        clear Kw12T
        go_wp2_with fail
        refine (eqTraceS_same _ _ _ _ _ _ (el_of_owns traC_len OH0.out) (el_of_owns traC_len Kw12W0.out) (by unfold maxLen; omega)).mono ?_
        rintro e w13 ⟨rfl, hb⟩
        replace x0 := cellBelow hb lx x0
        replace x1 := cellBelow hb lx x1
        replace lx := Nat.lt_of_lt_of_le lx hb.size
        have Zw13 := Lib.hid (Zw12.out.below hb)
        have Bw13 := Lib.hid (Bw12.out.trans (hb.mono Bw12.out.size))
        have Kw13W0 := Lib.hid (ownsKeep Kw12W0.out hb)
        clear Kw12W0
        have Kw13G0 := Lib.hid (ownsKeep Kw12G0.out hb)
        clear Kw12G0
        have Kw13H0 := Lib.hid (ownsKeep OH0.out hb)
        clear OH0
        clear hb Zw12 Bw12
        have hq0w14 : decide (1 + 2 * (z0l.length : Int) < 0) = false := decide_eq_false (by omega)
        go_wp2_with fail
        refine (heldTraceS_any _ z0l.length _ (1) _ (el_of_owns traC_len Kw13G0.out) (by omega) (by omega) (by omega)).mono ?_
        rintro e w14 ⟨rfl, hb⟩
        replace x0 := cellBelow hb lx x0
        replace x1 := cellBelow hb lx x1
        replace lx := Nat.lt_of_lt_of_le lx hb.size
        have Zw14 := Lib.hid (Zw13.out.below hb)
        have Bw14 := Lib.hid (Bw13.out.trans (hb.mono Bw13.out.size))
        have Kw14W0 := Lib.hid (ownsKeep Kw13W0.out hb)
        clear Kw13W0
        have Kw14G0 := Lib.hid (ownsKeep Kw13G0.out hb)
        clear Kw13G0
        have Kw14H0 := Lib.hid (ownsKeep Kw13H0.out hb)
        clear Kw13H0
        clear hb Zw13 Bw13
        go_wp2
        go_ret
        exact ⟨rfl, Bw14.out⟩
end Go.Proofs.Ytacddgipcafdlaa
