/-
  The walks of FnSetMeet.
-/
import Derived.Test.YtlbehkdhngeipaaCanon
import Derived.Test.YtlbehkdhngeipaaLawHas
namespace Go.Proofs.Ytlbehkdhngeipaa
open Go.RowKit

/-- Two drawn lists of spans. -/
def DrawnSets (w : World) (e : Ending) (w' : World) : Prop :=
  ∃ xs ys g g' c c', e = .returned (.tuple #[.slice (some ⟨g, 0, none⟩) xs.length c, .slice (some ⟨g', 0, none⟩) ys.length c']) ∧ xs.length ≤ 64 ∧ ys.length ≤ 64 ∧
    w'.ownsRow w.heap.size 24 2 (.slice (some ⟨g, 0, none⟩) xs.length c) xs.length (flat xs) ∧ w'.ownsRow w.heap.size 24 2 (.slice (some ⟨g', 0, none⟩) ys.length c') ys.length (flat ys) ∧ Below w.heap.size w w'

set_option maxHeartbeats 1000000 in
theorem DrawSetMeet_any (A : Option Addr) (cap : Nat) (bs : List Int) (w : World) (h : Bytes w w.heap.size A bs) (hc : bs.length ≤ cap) (hm : cap ≤ maxLen) :
    Calls Try.prog 42 #[.slice A bs.length cap] w (DrawnSets w) := by
  go_enter Try.func42, Try.ntmps42
  go_wp2_with fail
  refine (l20Open_any A cap bs _ h hc hm).mono ?_
  rintro e w1 ⟨zs0, rfl, hrd1, hb1⟩
  go_wp2_with fail
  refine (l20AnySet_any _ zs0 0 _ hrd1 (by omega) (by omega)).mono ?_
  rintro e w2 ⟨xs, g, c, rfl, hlx, hox, p', hpa, hpb, hrd2, hgr2⟩
  have hg := hox.lt g rfl
  have hl1 := hrd1.lt
  have Hox := Lib.hid hox
  clear hox
  go_wp2_with fail
  refine (l20AnySet_any _ zs0 p' _ hrd2 (by omega) (by omega)).mono ?_
  rintro e w3 ⟨ys, g', c', rfl, hly, hoy, p'', hpa', hpb', hrd3, hgr3⟩
  have Hox3 := Lib.hid (Hox.out.kept hgr3 (.inr (by simp [Value.ownBlock]; omega)))
  have Hoy := Lib.hid hoy
  have HB := Lib.hid (grown_below hb1 (grown_trans hgr2 hgr3) (Nat.le_refl _))
  have hs2 := hgr2.size
  clear hgr2 hgr3 hrd1 hrd2 hrd3 Hox hoy
  go_wp2
  go_ret2
  exact ⟨xs, ys, g, g', c, c', rfl, hlx, hly, owns_base Hox3.out (by have := hb1.size; omega), owns_base Hoy.out (by have := hb1.size; omega), HB.out⟩

set_option maxHeartbeats 1000000 in
theorem vaSpans_same (A B : Option Addr) (cap cap' : Nat) (zs : List (Int × Int)) (w : World) (hz : Spans w A zs) (hz' : Spans w B zs) (hl : zs.length ≤ maxLen) :
    Calls Try.prog 29 #[.slice A zs.length cap, .slice B zs.length cap'] w fun e w' => e = .returned (.bool true) ∧ Below w.heap.size w w' := by
  unfold maxLen at hl
  go_enter Try.func29, Try.ntmps29
  go_wp2
  go_loopw [5] (fun i wr => ∃ k : Nat, k ≤ zs.length ∧ i = .int .i64 k ∧ Below w.heap.size w wr) (fun i _ => zs.length - (intOf i).toNat)
  case atStart => exact ⟨0, Nat.zero_le _, rfl, Below.refl _ _⟩
  case round =>
    obtain ⟨k, hk, rfl, hbr⟩ := hrel
    by_cases hlt : k < zs.length
    · obtain ⟨b, off, rfl, hcells⟩ := hz (by omega)
      obtain ⟨b', off', rfl, hcells'⟩ := hz' (by omega)
      obtain ⟨c0, c1⟩ := hcells k hlt
      obtain ⟨d0, d1⟩ := hcells' k hlt
      obtain ⟨x, hx⟩ : ∃ x, (zs.getD k (0, 0)).1 = x := ⟨_, rfl⟩
      obtain ⟨y, hy⟩ : ∃ x, (zs.getD k (0, 0)).2 = x := ⟨_, rfl⟩
      rw [hx] at c0 d0
      rw [hy] at c1 d1
      have c0r : wr.cell? ⟨b, off + k * 2, none⟩ = some (.int .i64 x) := cell_below hbr (World.block_lt_of_cell? _ _ c0) c0
      have c1r : wr.cell? ⟨b, off + k * 2 + 1, none⟩ = some (.int .i64 y) := cell_below hbr (World.block_lt_of_cell? _ _ c1) c1
      have d0r : wr.cell? ⟨b', off' + k * 2, none⟩ = some (.int .i64 x) := cell_below hbr (World.block_lt_of_cell? _ _ d0) d0
      have d1r : wr.cell? ⟨b', off' + k * 2 + 1, none⟩ = some (.int .i64 y) := cell_below hbr (World.block_lt_of_cell? _ _ d1) d1
      clear hcells hcells' c0 c1 d0 d1 hx hy
      go_wp2_with fail
      go_quiet (fail)
      go_wp2
      go_roundw
      case rel => exact ⟨k + 1, by omega, by go_num, below_drewN hbr _⟩
      case measure => simp [intOf]; omega
    · go_wp2
      go_ret
      exact ⟨rfl, hbr⟩

set_option maxRecDepth 100000 in
set_option maxHeartbeats 4000000 in
theorem FnSetMeet_any (A : Option Addr) (n cap : Nat) (bs : List Int) (w : World) (hz : Bytes w w.heap.size A bs ∧ bs.length = n ∧ n ≤ cap ∧ cap ≤ maxLen) :
    Calls Try.prog 8 #[.slice A n cap] w fun e w' => e = .returned (.bool true) ∧ Below w.heap.size w w' := by
  obtain ⟨hz, rfl, hc, hm⟩ := hz
  have hm' := hm
  unfold maxLen at hm'
  by_cases hl : (1048576 : Int) < bs.length
  · go_enter Try.func8, Try.ntmps8
    go_wp2
    go_ret
    exact ⟨rfl, Below.refl _ _⟩
  · go_enter Try.func8, Try.ntmps8
    go_wp2_with fail
    refine (DrawSetMeet_any A cap bs w hz hc hm).mono ?_
    rintro e w1 ⟨xs, ys, g, g', c, c', rfl, hlx, hly, hox, hoy, hb1⟩
    have Ox := Lib.hid hox
    have Oy := Lib.hid hoy
    clear hox hoy hz hc hm hm'
    have hlx' : xs.length ≤ 1048577 := by omega
    have hly' : ys.length ≤ 1048577 := by omega
    have hzl := setMeetL_len xs ys
    obtain ⟨zs, hzs⟩ : ∃ zs, setMeetL xs ys = zs := ⟨_, rfl⟩
    have HZ := Lib.hid hzs
    rw [hzs] at hzl
    clear hzs
    go_wp2_with fail
    refine (SetMeet_any _ _ _ _ _ _ _ (owns_spans Ox.out) (owns_spans Oy.out) (owns_block Ox.out) (owns_block Oy.out) hlx' hly').mono ?_
    rw [HZ.out]
    rintro e w2 h2
    obtain ⟨A2, c2, rfl, ho2, hb2'⟩ := gets_of_coll h2
    have Oz := Lib.hid ho2
    have Px := Lib.hid (owns_keep Ox.out hb2')
    have Py := Lib.hid (owns_keep Oy.out hb2')
    have hb2 : Below w.heap.size w w2 := hb1.trans (hb2'.mono hb1.size)
    clear h2 ho2 Ox Oy hb2' hb1
    go_wp2_with fail
    refine (sSetMeet_any _ _ _ _ _ _ _ (owns_spans Px.out) (owns_spans Py.out) hlx' hly').mono ?_
    rw [HZ.out]
    rintro e w3 ⟨A3, c3, rfl, ho3, hb3'⟩
    have O3 := Lib.hid ho3
    have Pz := Lib.hid (owns_keep Oz.out hb3')
    have Qx := Lib.hid (owns_keep Px.out hb3')
    have Qy := Lib.hid (owns_keep Py.out hb3')
    have hb3 : Below w.heap.size w w3 := hb2.trans (hb3'.mono hb2.size)
    clear ho3 Oz Px Py hb3' hb2
    go_wp2_with fail
    refine (vaSpans_same _ _ _ _ zs _ (owns_spans Pz.out) (owns_spans O3.out) (by unfold maxLen; omega)).mono ?_
    rintro e w4 ⟨rfl, hb4'⟩
    have Qz := Lib.hid (owns_keep Pz.out hb4')
    have Rx := Lib.hid (owns_keep Qx.out hb4')
    have Ry := Lib.hid (owns_keep Qy.out hb4')
    have hb4 : Below w.heap.size w w4 := hb3.trans (hb4'.mono hb3.size)
    clear O3 Pz Qx Qy hb4' hb3
    obtain ⟨o, ho⟩ : ∃ o, setOk xs = o := ⟨_, rfl⟩
    obtain ⟨o', ho'⟩ : ∃ o, setOk ys = o := ⟨_, rfl⟩
    have Ho := Lib.hid ho
    have Ho' := Lib.hid ho'
    clear ho ho'
    go_wp2_with fail
    refine (SetOk_any _ _ xs _ (owns_spans Rx.out) hlx').mono ?_
    rintro e w5 ⟨rfl, hb5'⟩
    have Rz := Lib.hid (owns_keep Qz.out hb5')
    have Sx := Lib.hid (owns_keep Rx.out hb5')
    have Sy := Lib.hid (owns_keep Ry.out hb5')
    have hb5 : Below w.heap.size w w5 := hb4.trans (hb5'.mono hb4.size)
    clear Qz Rx Ry hb5' hb4
    rw [Ho.out]
    cases o
    · go_wp2_with fail
      refine (sSetMeet_any _ _ _ _ _ _ _ (owns_spans Sx.out) (owns_spans Sy.out) hlx' hly').mono ?_
      rw [HZ.out]
      rintro e w6 ⟨A6, c6, rfl, ho6, hb6'⟩
      have O6 := Lib.hid ho6
      have Sz := Lib.hid (owns_keep Rz.out hb6')
      have hb6 : Below w.heap.size w w6 := hb5.trans (hb6'.mono hb5.size)
      clear ho6 Rz Sx Sy hb6' hb5
      go_wp2_with fail
      refine (vaSpans_same _ _ _ _ zs _ (owns_spans Sz.out) (owns_spans O6.out) (by unfold maxLen; omega)).mono ?_
      rintro e w7 ⟨rfl, hb7'⟩
      have HB := Lib.hid (hb6.trans (hb7'.mono hb6.size))
      clear hb6 hb7'
      go_wp2
      go_ret
      exact ⟨rfl, HB.out⟩
    · go_wp2_with fail
      refine (SetOk_any _ _ ys _ (owns_spans Sy.out) hly').mono ?_
      rintro e w6 ⟨rfl, hb6'⟩
      have Sz := Lib.hid (owns_keep Rz.out hb6')
      have Tx := Lib.hid (owns_keep Sx.out hb6')
      have Ty := Lib.hid (owns_keep Sy.out hb6')
      have hb6 : Below w.heap.size w w6 := hb5.trans (hb6'.mono hb5.size)
      clear Rz Sx Sy hb6' hb5
      rw [Ho'.out]
      cases o'
      · go_wp2_with fail
        refine (sSetMeet_any _ _ _ _ _ _ _ (owns_spans Tx.out) (owns_spans Ty.out) hlx' hly').mono ?_
        rw [HZ.out]
        rintro e w7 ⟨A7, c7, rfl, ho7, hb7'⟩
        have O7 := Lib.hid ho7
        have Tz := Lib.hid (owns_keep Sz.out hb7')
        have hb7 : Below w.heap.size w w7 := hb6.trans (hb7'.mono hb6.size)
        clear ho7 Sz Tx Ty hb7' hb6
        go_wp2_with fail
        refine (vaSpans_same _ _ _ _ zs _ (owns_spans Tz.out) (owns_spans O7.out) (by unfold maxLen; omega)).mono ?_
        rintro e w8 ⟨rfl, hb8'⟩
        have HB := Lib.hid (hb7.trans (hb8'.mono hb7.size))
        clear hb7 hb8'
        go_wp2
        go_ret
        exact ⟨rfl, HB.out⟩
      · have hM : meetL xs ys = zs := by have := HZ.out; simpa [setMeetL, Ho.out, Ho'.out] using this
        have HM := Lib.hid hM
        have Hzok := Lib.hid (show setOk zs = true from by rw [← hM]; exact meetL_ok Ho.out Ho'.out)
        have Hhas := Lib.hid (show ∀ p, setHas zs p = (setHas xs p && setHas ys p) from fun p => by rw [← hM]; exact setHas_meetL Ho.out Ho'.out p)
        clear hM
        have hzl' : zs.length ≤ 1048577 := by omega
        go_wp2
        go_loopw [6] (fun i wr => ∃ k : Nat, k ≤ 100 ∧ i = .int .i64 k ∧ Below w6.heap.size w6 wr) (fun i _ => 100 - (intOf i).toNat)
        case atStart => exact ⟨0, Nat.zero_le _, rfl, Below.refl _ _⟩
        case round =>
          obtain ⟨k, hk, rfl, hbr⟩ := hrel
          by_cases hlt : k < 100
          · have Uz := Lib.hid (owns_keep Sz.out hbr)
            have Ux := Lib.hid (owns_keep Tx.out hbr)
            have Uy := Lib.hid (owns_keep Ty.out hbr)
            have hh := Hhas.out k
            obtain ⟨px, hpx⟩ : ∃ p, setHas xs k = p := ⟨_, rfl⟩
            obtain ⟨py, hpy⟩ : ∃ p, setHas ys k = p := ⟨_, rfl⟩
            rw [hpx, hpy] at hh
            have Hh := Lib.hid hh
            have Hx := Lib.hid hpx
            have Hy := Lib.hid hpy
            clear hh hpx hpy
            go_wp2_with fail
            refine (SetHas_any _ _ zs k _ (owns_spans Uz.out) hzl').mono ?_
            rintro e w7 ⟨rfl, hb7⟩
            have Vx := Lib.hid (owns_keep Ux.out hb7)
            have Vy := Lib.hid (owns_keep Uy.out hb7)
            have hB7 : Below w6.heap.size w6 w7 := hbr.trans (hb7.mono hbr.size)
            rw [Hh.out]
            clear Uz Ux Uy hb7 hbr
            go_wp2_with fail
            refine (SetHas_any _ _ xs k _ (owns_spans Vx.out) hlx').mono ?_
            rintro e w8 ⟨rfl, hb8⟩
            have Wy := Lib.hid (owns_keep Vy.out hb8)
            have hB8 : Below w6.heap.size w6 w8 := hB7.trans (hb8.mono hB7.size)
            rw [Hx.out]
            clear Vx Vy hb8 hB7
            cases px
            · go_wp2
              go_roundw
              case rel => exact ⟨k + 1, by omega, by go_num, hB8⟩
              case measure => simp [intOf]; omega
            · go_wp2_with fail
              refine (SetHas_any _ _ ys k _ (owns_spans Wy.out) hly').mono ?_
              rintro e w9 ⟨rfl, hb9⟩
              have hB9 : Below w6.heap.size w6 w9 := hB8.trans (hb9.mono hB8.size)
              rw [Hy.out]
              clear Wy hb9 hB8
              cases py
              · go_wp2
                go_roundw
                case rel => exact ⟨k + 1, by omega, by go_num, hB9⟩
                case measure => simp [intOf]; omega
              · go_wp2
                go_roundw
                case rel => exact ⟨k + 1, by omega, by go_num, hB9⟩
                case measure => simp [intOf]; omega
          · obtain rfl : k = 100 := by omega
            have Uz := Lib.hid (owns_keep Sz.out hbr)
            have Ux := Lib.hid (owns_keep Tx.out hbr)
            have Uy := Lib.hid (owns_keep Ty.out hbr)
            have hB0 : Below w.heap.size w wr := hb6.trans (hbr.mono hb6.size)
            clear Sz Tx Ty hbr hb6
            go_wp2_with fail
            refine (SetOk_any _ _ zs _ (owns_spans Uz.out) hzl').mono ?_
            rintro e w7 ⟨rfl, hb7⟩
            have Vz := Lib.hid (owns_keep Uz.out hb7)
            have Vx := Lib.hid (owns_keep Ux.out hb7)
            have Vy := Lib.hid (owns_keep Uy.out hb7)
            have hB7 : Below w.heap.size w w7 := hB0.trans (hb7.mono hB0.size)
            rw [Hzok.out]
            clear Uz Ux Uy hb7 hB0
            have hS := Lib.hid (show setMeetL ys xs = zs from by rw [← HM.out, ← meetL_comm Ho.out Ho'.out]; simp [setMeetL, Ho.out, Ho'.out])
            have hI := Lib.hid (show setMeetL xs xs = xs from by rw [show setMeetL xs xs = meetL xs xs from by simp [setMeetL, Ho.out]]; exact meetL_self Ho.out)
            go_wp2_with fail
            refine (SetMeet_any _ _ _ _ _ _ _ (owns_spans Vy.out) (owns_spans Vx.out) (owns_block Vy.out) (owns_block Vx.out) hly' hlx').mono ?_
            rw [hS.out]
            rintro e w8 h8
            obtain ⟨A8, c8, rfl, ho8, hb8'⟩ := gets_of_coll h8
            have O8 := Lib.hid ho8
            have Wz := Lib.hid (owns_keep Vz.out hb8')
            have Wx := Lib.hid (owns_keep Vx.out hb8')
            have hB8 : Below w.heap.size w w8 := hB7.trans (hb8'.mono hB7.size)
            clear h8 ho8 Vz Vx Vy hb8' hB7
            go_wp2_with fail
            refine (vaSpans_same _ _ _ _ zs _ (owns_spans O8.out) (owns_spans Wz.out) (by unfold maxLen; omega)).mono ?_
            rintro e w9 ⟨rfl, hb9'⟩
            have Xx := Lib.hid (owns_keep Wx.out hb9')
            have hB9 : Below w.heap.size w w9 := hB8.trans (hb9'.mono hB8.size)
            clear O8 Wz Wx hb9' hB8
            go_wp2_with fail
            refine (SetMeet_any _ _ _ _ _ _ _ (owns_spans Xx.out) (owns_spans Xx.out) (owns_block Xx.out) (owns_block Xx.out) hlx' hlx').mono ?_
            rw [hI.out]
            rintro e w10 h10
            obtain ⟨A10, c10, rfl, ho10, hb10'⟩ := gets_of_coll h10
            have O10 := Lib.hid ho10
            have Yx := Lib.hid (owns_keep Xx.out hb10')
            have hB10 : Below w.heap.size w w10 := hB9.trans (hb10'.mono hB9.size)
            clear h10 ho10 Xx hb10' hB9
            go_wp2_with fail
            refine (vaSpans_same _ _ _ _ xs _ (owns_spans O10.out) (owns_spans Yx.out) (by unfold maxLen; omega)).mono ?_
            rintro e w11 ⟨rfl, hb11'⟩
            have HB := Lib.hid (hB10.trans (hb11'.mono hB10.size))
            clear hb11' hB10
            go_wp2
            go_ret
            exact ⟨rfl, HB.out⟩
end Go.Proofs.Ytlbehkdhngeipaa
