/-
  The walk of FnSetLess.
-/
import Derived.Test.YtgclmldhdjmabaaLawSO
import Derived.Test.YtgclmldhdjmabaaSetLS
import Derived.Laws.AppendOwnNone
namespace Go.Proofs.Ytgclmldhdjmabaa
open Go.RowKit

theorem subL_ok {xs ys : List (Int × Int)} (hx : setOk xs = true) (hy : setOk ys = true) : setOk (subL xs ys) = true :=
  (setOk_iff _).2 (has_subL 0 ys xs (-1) (-1) ((setOk_iff _).1 hx) ((setOk_iff _).1 hy)).2
theorem has_subL' {xs ys : List (Int × Int)} (hx : setOk xs = true) (hy : setOk ys = true) (p : Int) : has (subL xs ys) p ↔ has xs p ∧ ¬ has ys p :=
  (has_subL p ys xs (-1) (-1) ((setOk_iff _).1 hx) ((setOk_iff _).1 hy)).1
theorem setHas_subL {xs ys : List (Int × Int)} (hx : setOk xs = true) (hy : setOk ys = true) (p : Int) : setHas (subL xs ys) p = (setHas xs p && !setHas ys p) := by
  refine bool_iff ?_
  rw [setHas_iff (subL_ok hx hy), has_subL' hx hy, Bool.and_eq_true, setHas_iff hx, Bool.not_eq_true', ← Bool.not_eq_true, setHas_iff hy]
theorem allB_append {l m : List (Int × Int)} (h : allB l = true) (h' : allB m = true) : allB (l ++ m) = true := by
  unfold allB at *
  rw [List.all_append, h, h']
  rfl
theorem both_set {xs ys : List (Int × Int)} (hx : setOk xs = true) (hy : setOk ys = true) : setOfL (subL xs ys ++ meetL xs ys) = xs := by
  have ha := allB_append (allB_of_ok (subL_ok hx hy)) (allB_of_ok (meetL_ok hx hy))
  rw [setOfL, if_pos ha]
  refine canon_same ((setOk_iff _).1 (addAll_setOk ha)) ((setOk_iff _).1 hx) fun q => ?_
  rw [has_addAll ha, has_append, has_subL' hx hy, has_meetL]
  constructor
  · rintro (h | h)
    · exact h.1
    · exact h.1
  · intro h
    by_cases h2 : has ys q
    · exact .inr ⟨h, h2⟩
    · exact .inl ⟨h, h2⟩
theorem self_less {xs : List (Int × Int)} (hx : setOk xs = true) : setLessL xs xs = [] := by
  have e : setLessL xs xs = subL xs xs := by rw [← less_eq hx hx]; simp [setLessL, hx]
  rw [e]
  refine canon_same ((setOk_iff _).1 (subL_ok hx hx)) (show canon (-1) [] from trivial) fun q => ?_
  rw [has_subL' hx hx]
  constructor
  · rintro ⟨h1, h2⟩; exact absurd h1 h2
  · intro h; exact absurd h (has_nil q)

/-- append of a row that a call owns, nil or not. -/
theorem wpList_append_row {P : Program} (w : World) {ops : Array Oper} {rest : List Oper} {o : Oper} {a : Act} {Q : Exit → Act → World → Prop} (hgd : o.guard = none) (s x : Operand) (t : TypeId)
    (ho : o.op = .call { callee := .builtin .append, args := #[s, x], argTypes := #[t, t] }) (base : Nat) (e : TypeId) (i : TypeInfo) (z : Value) (size bytes : Nat)
    (ht : P.underlying t = some (.slice e)) (hi : P.info? e = some i) (hz : i.zero = some z) (hsize : i.size = size) (hby : i.bytes = bytes) (hzs : z.cells.size = size) (hsz : 0 < size)
    (v : Value) (n : Nat) (xs : List Value) (hs : a.eval s = v) (hown : w.ownsRow base e size v n xs) (base' m : Nat) (news : List Value) (u : Value) (hx : a.eval x = u) (hu : w.ownsRow base' e size u m news)
    (h1 : ∀ u ∈ news, u.oneCell' = true) (h63 : n + m ≤ maxLen) (hbytes : (n + m) * bytes ≤ 140737488355328) (hbase : base ≤ w.heap.size)
    (h : ∀ v' w', w'.ownsRow base e size v' (n + m) (xs ++ news) → w.grownBy w' v.ownBlock → (v' = .slice none 0 0 ↔ v = .slice none 0 0 ∧ m = 0) → wpList P ops Q rest (a.put o.dst v') w') : wpList P ops Q (o :: rest) a w := by
  rcases hu.2 with ⟨e1, e2⟩ | ⟨g, c, cur, e1, _⟩
  · subst e2
    have hn : news = [] := List.eq_nil_of_length_eq_zero (by simpa using hu.1)
    subst hn
    refine wpList_append_own_none hgd s x t ho base e i size ht hi v n xs hs hown (hx.trans e1) (h v w (by simpa using hown) (grown_refl w _) ⟨fun hv => ⟨hv, rfl⟩, fun hv => hv.1⟩)
  · subst e1
    exact wpList_append_own _ hgd s x t ho base e i z size bytes ht hi hz hsize hby hzs hsz v n xs hs hown ⟨g, 0, none⟩ m c news hx hu.1 (hu.cells (g := g) rfl) h1 h63 hbytes hbase h

set_option maxHeartbeats 1000000 in
theorem DrawSetLess_any (A : Option Addr) (cap : Nat) (bs : List Int) (w : World) (h : Bytes w w.heap.size A bs) (hc : bs.length ≤ cap) (hm : cap ≤ maxLen) :
    Calls Try.prog 62 #[.slice A bs.length cap] w (DrawnSets w) := by
  go_enter Try.func62, Try.ntmps62
  go_wp2_with fail
  refine (DrawSetMeet_any A cap bs w h hc hm).mono ?_
  rintro e w1 ⟨xs, ys, g, g', c, c', rfl, h1⟩
  have H1 := Lib.hid h1
  clear h1 h
  go_wp2
  first | go_ret2 | go_ret
  exact ⟨xs, ys, g, g', c, c', rfl, H1.out⟩

set_option maxRecDepth 100000 in
set_option maxHeartbeats 4000000 in
theorem FnSetLess_any (A : Option Addr) (n cap : Nat) (bs : List Int) (w : World) (hz : Bytes w w.heap.size A bs ∧ bs.length = n ∧ n ≤ cap ∧ cap ≤ maxLen) :
    Calls Try.prog 13 #[.slice A n cap] w fun e w' => e = .returned (.bool true) ∧ Below w.heap.size w w' := by
  obtain ⟨hz, rfl, hc, hm⟩ := hz
  obtain ⟨i0, hi, hz0, hz1, hz2⟩ := info_parts Try.info32
  have Hi := Lib.hid hi
  have Hz0 := Lib.hid hz0
  have Hz1 := Lib.hid hz1
  have Hz2 := Lib.hid hz2
  clear hi hz0 hz1 hz2
  have hm' := hm
  unfold maxLen at hm'
  by_cases hl : (1048576 : Int) < bs.length
  · go_enter Try.func13, Try.ntmps13
    go_wp2
    go_ret
    exact ⟨rfl, Below.refl _ _⟩
  · go_enter Try.func13, Try.ntmps13
    go_wp2_with fail
    refine (DrawSetLess_any A cap bs w hz hc hm).mono ?_
    rintro e w1 ⟨xs, ys, g, g', c, c', rfl, hlx, hly, hox, hoy, hb1⟩
    have Ox := Lib.hid hox
    have Oy := Lib.hid hoy
    clear hox hoy hz hc hm hm'
    have hlx' : xs.length ≤ 1048577 := by omega
    have hly' : ys.length ≤ 1048577 := by omega
    have hzl := setLessL_len xs ys
    obtain ⟨zs, hzs⟩ : ∃ zs, setLessL xs ys = zs := ⟨_, rfl⟩
    have HZ := Lib.hid hzs
    rw [hzs] at hzl
    clear hzs
    go_wp2_with fail
    refine (SetLess_any _ _ _ _ _ _ _ (owns_spans Ox.out) (owns_spans Oy.out) (owns_block Ox.out) (owns_block Oy.out) hlx' hly').mono ?_
    rw [HZ.out]
    rintro e w2 h2
    obtain ⟨A2, c2, rfl, ho2, hb2'⟩ := gets_of_coll h2
    have Oz := Lib.hid ho2
    have Px := Lib.hid (owns_keep Ox.out hb2')
    have Py := Lib.hid (owns_keep Oy.out hb2')
    have hb2 : Below w.heap.size w w2 := hb1.trans (hb2'.mono hb1.size)
    clear h2 ho2 Ox Oy hb2' hb1
    go_wp2_with fail
    refine (sSetLess_any _ _ _ _ _ _ _ _ (owns_spans Px.out) (owns_spans Py.out) (owns_block Px.out _ _ rfl) hlx' hly').mono ?_
    rw [HZ.out]
    rintro e w3 ⟨A3, c3, rfl, ho3, hb3'⟩
    have O3 := Lib.hid ho3
    have Pz := Lib.hid (owns_keep Oz.out hb3')
    have Qx := Lib.hid (owns_keep Px.out hb3')
    have Qy := Lib.hid (owns_keep Py.out hb3')
    have hb3 : Below w.heap.size w w3 := hb2.trans (hb3'.mono hb2.size)
    clear ho3 Oz Px Py hb3' hb2
    go_wp2_with fail
    refine (vaSpans_same _ _ _ _ zs _ (owns_spans Pz.out) (owns_spans O3.out) (by unfold maxLen; omega)).mono ?_
    rintro e w4 ⟨rfl, hb4'⟩
    have Qz := Lib.hid (owns_keep Pz.out hb4')
    have Rx := Lib.hid (owns_keep Qx.out hb4')
    have Ry := Lib.hid (owns_keep Qy.out hb4')
    have hb4 : Below w.heap.size w w4 := hb3.trans (hb4'.mono hb3.size)
    clear O3 Pz Qx Qy hb4' hb3
    obtain ⟨o, ho⟩ : ∃ o, setOk xs = o := ⟨_, rfl⟩
    obtain ⟨o', ho'⟩ : ∃ o, setOk ys = o := ⟨_, rfl⟩
    have Ho := Lib.hid ho
    have Ho' := Lib.hid ho'
    clear ho ho'
    go_wp2_with fail
    refine (SetOk_any _ _ xs _ (owns_spans Rx.out) hlx').mono ?_
    rintro e w5 ⟨rfl, hb5'⟩
    have Rz := Lib.hid (owns_keep Qz.out hb5')
    have Sx := Lib.hid (owns_keep Rx.out hb5')
    have Sy := Lib.hid (owns_keep Ry.out hb5')
    have hb5 : Below w.heap.size w w5 := hb4.trans (hb5'.mono hb4.size)
    clear Qz Rx Ry hb5' hb4
    rw [Ho.out]
    cases o
    · go_wp2_with fail
      refine (sSetLess_any _ _ _ _ _ _ _ _ (owns_spans Sx.out) (owns_spans Sy.out) (owns_block Sx.out _ _ rfl) hlx' hly').mono ?_
      rw [HZ.out]
      rintro e w6 ⟨A6, c6, rfl, ho6, hb6'⟩
      have O6 := Lib.hid ho6
      have Sz := Lib.hid (owns_keep Rz.out hb6')
      have hb6 : Below w.heap.size w w6 := hb5.trans (hb6'.mono hb5.size)
      clear ho6 Rz Sx Sy hb6' hb5
      go_wp2_with fail
      refine (vaSpans_same _ _ _ _ zs _ (owns_spans Sz.out) (owns_spans O6.out) (by unfold maxLen; omega)).mono ?_
      rintro e w7 ⟨rfl, hb7'⟩
      have HB := Lib.hid (hb6.trans (hb7'.mono hb6.size))
      clear hb6 hb7'
      go_wp2
      go_ret
      exact ⟨rfl, HB.out⟩
    · go_wp2_with fail
      refine (SetOk_any _ _ ys _ (owns_spans Sy.out) hly').mono ?_
      rintro e w6 ⟨rfl, hb6'⟩
      have Sz := Lib.hid (owns_keep Rz.out hb6')
      have Tx := Lib.hid (owns_keep Sx.out hb6')
      have Ty := Lib.hid (owns_keep Sy.out hb6')
      have hb6 : Below w.heap.size w w6 := hb5.trans (hb6'.mono hb5.size)
      clear Rz Sx Sy hb6' hb5
      rw [Ho'.out]
      cases o'
      · go_wp2_with fail
        refine (sSetLess_any _ _ _ _ _ _ _ _ (owns_spans Tx.out) (owns_spans Ty.out) (owns_block Tx.out _ _ rfl) hlx' hly').mono ?_
        rw [HZ.out]
        rintro e w7 ⟨A7, c7, rfl, ho7, hb7'⟩
        have O7 := Lib.hid ho7
        have Tz := Lib.hid (owns_keep Sz.out hb7')
        have hb7 : Below w.heap.size w w7 := hb6.trans (hb7'.mono hb6.size)
        clear ho7 Sz Tx Ty hb7' hb6
        go_wp2_with fail
        refine (vaSpans_same _ _ _ _ zs _ (owns_spans Tz.out) (owns_spans O7.out) (by unfold maxLen; omega)).mono ?_
        rintro e w8 ⟨rfl, hb8'⟩
        have HB := Lib.hid (hb7.trans (hb8'.mono hb7.size))
        clear hb7 hb8'
        go_wp2
        go_ret
        exact ⟨rfl, HB.out⟩
      · have hM : subL xs ys = zs := by have := HZ.out; rw [← less_eq Ho.out Ho'.out]; simpa [setLessL, Ho.out, Ho'.out] using this
        have Hzok := Lib.hid (show setOk zs = true from by rw [← hM]; exact subL_ok Ho.out Ho'.out)
        have Hhas := Lib.hid (show ∀ p, setHas zs p = (setHas xs p && !setHas ys p) from fun p => by rw [← hM]; exact setHas_subL Ho.out Ho'.out p)
        have HBoth := Lib.hid (show setOfL (zs ++ meetL xs ys) = xs from by rw [← hM]; exact both_set Ho.out Ho'.out)
        have HSelf := Lib.hid (self_less Ho.out)
        have HMM := Lib.hid (show setMeetL xs ys = meetL xs ys from by simp [setMeetL, Ho.out, Ho'.out])
        have hml : (meetL xs ys).length ≤ 10000 := by rw [← HMM.out]; exact setMeetL_len xs ys
        obtain ⟨ms, hms⟩ : ∃ ms, meetL xs ys = ms := ⟨_, rfl⟩
        rw [hms] at HBoth HMM hml
        clear hM hms
        have hzl' : zs.length ≤ 1048577 := by omega
        go_wp2
        go_loopw [6] (fun i wr => ∃ k : Nat, k ≤ 100 ∧ i = .int .i64 k ∧ Below w6.heap.size w6 wr) (fun i _ => 100 - (intOf i).toNat)
        case atStart => exact ⟨0, Nat.zero_le _, rfl, Below.refl _ _⟩
        case round =>
          obtain ⟨k, hk, rfl, hbr⟩ := hrel
          by_cases hlt : k < 100
          · have Uz := Lib.hid (owns_keep Sz.out hbr)
            have Ux := Lib.hid (owns_keep Tx.out hbr)
            have Uy := Lib.hid (owns_keep Ty.out hbr)
            have hh := Hhas.out k
            obtain ⟨px, hpx⟩ : ∃ p, setHas xs k = p := ⟨_, rfl⟩
            obtain ⟨py, hpy⟩ : ∃ p, setHas ys k = p := ⟨_, rfl⟩
            rw [hpx, hpy] at hh
            have Hh := Lib.hid hh
            have Hx := Lib.hid hpx
            have Hy := Lib.hid hpy
            clear hh hpx hpy
            go_wp2_with fail
            refine (SetHas_any _ _ zs k _ (owns_spans Uz.out) hzl').mono ?_
            rintro e w7 ⟨rfl, hb7⟩
            have Vx := Lib.hid (owns_keep Ux.out hb7)
            have Vy := Lib.hid (owns_keep Uy.out hb7)
            have hB7 : Below w6.heap.size w6 w7 := hbr.trans (hb7.mono hbr.size)
            rw [Hh.out]
            clear Uz Ux Uy hb7 hbr
            go_wp2_with fail
            refine (SetHas_any _ _ xs k _ (owns_spans Vx.out) hlx').mono ?_
            rintro e w8 ⟨rfl, hb8⟩
            have Wy := Lib.hid (owns_keep Vy.out hb8)
            have hB8 : Below w6.heap.size w6 w8 := hB7.trans (hb8.mono hB7.size)
            rw [Hx.out]
            clear Vx Vy hb8 hB7
            cases px
            · go_wp2
              go_roundw
              case rel => exact ⟨k + 1, by omega, by go_num, hB8⟩
              case measure => simp [intOf]; omega
            · go_wp2_with fail
              refine (SetHas_any _ _ ys k _ (owns_spans Wy.out) hly').mono ?_
              rintro e w9 ⟨rfl, hb9⟩
              have hB9 : Below w6.heap.size w6 w9 := hB8.trans (hb9.mono hB8.size)
              rw [Hy.out]
              clear Wy hb9 hB8
              cases py
              · go_wp2
                go_roundw
                case rel => exact ⟨k + 1, by omega, by go_num, hB9⟩
                case measure => simp [intOf]; omega
              · go_wp2
                go_roundw
                case rel => exact ⟨k + 1, by omega, by go_num, hB9⟩
                case measure => simp [intOf]; omega
          · obtain rfl : k = 100 := by omega
            have Uz := Lib.hid (owns_keep Sz.out hbr)
            have Ux := Lib.hid (owns_keep Tx.out hbr)
            have Uy := Lib.hid (owns_keep Ty.out hbr)
            have B0 := Lib.hid (hb6.trans (hbr.mono hb6.size))
            clear Sz Tx Ty hbr hb6
            have hs0 := B0.out.size
            have OL := Lib.hid (World.ownsRow_lit (base := wr.heap.size) (e := 32) (size := 2) wr #[] 0 (by simp) (by simp [maxLen]) (by simp))
            have OZ := Lib.hid (Uz.out.alloc (.cells #[] 32))
            go_wp2_with (at_builtin; refine wpList_append_row _ rfl _ _ 35 rfl wr.heap.size 32 i0 _ 2 16 Try.underlying35 Hi.out Hz0.out Hz1.out Hz2.out rfl (by decide) _ 0 [] rfl OL.out _ zs.length (flat zs) _ rfl OZ.out (flat_one _) (by unfold maxLen; omega) (by omega) (by simp) ?_; intro v7 w7 hown7 hgrow7 hnil7; have P7 := Lib.hid (show w7.ownsRow wr.heap.size 32 2 v7 zs.length (flat zs) from (by simpa using hown7)); have B7' := Lib.hid (show Below wr.heap.size wr w7 from ((Below.refl wr.heap.size wr).alloc (Nat.le_refl _) _).grown hgrow7 (by simp) (fun i e => by have := (OL.out.lt i e).1; omega)); clear hown7 hgrow7 hnil7 OL OZ)
            have Vx := Lib.hid (owns_keep Ux.out B7'.out)
            have Vy := Lib.hid (owns_keep Uy.out B7'.out)
            have B7 := Lib.hid (B0.out.trans (B7'.out.mono B0.out.size))
            have hs7 := B7'.out.size
            clear Uy
            refine (SetMeet_any _ _ _ _ _ _ _ (owns_spans Vx.out) (owns_spans Vy.out) (owns_block Vx.out) (owns_block Vy.out) hlx' hly').mono ?_
            rw [HMM.out]
            rintro e w8 h8
            obtain ⟨A8, c8, rfl, ho8, hb8⟩ := gets_of_coll h8
            have O8 := Lib.hid ho8
            have P8 := Lib.hid (owns_keep P7.out hb8)
            have B8' := Lib.hid (B7'.out.trans (hb8.mono B7'.out.size))
            have hs8 := hb8.size
            clear h8 ho8 hb8 P7 Vx Vy
            go_wp2_with (at_builtin; refine wpList_append_row _ rfl _ _ 35 rfl wr.heap.size 32 i0 _ 2 16 Try.underlying35 Hi.out Hz0.out Hz1.out Hz2.out rfl (by decide) _ zs.length (flat zs) rfl P8.out _ ms.length (flat ms) _ rfl O8.out (flat_one _) (by unfold maxLen; omega) (by omega) (by omega) ?_; intro v9 w9 hown9 hgrow9 hnil9; have P9 := Lib.hid (owns_more hown9 rfl); have B9' := Lib.hid (show Below wr.heap.size wr w9 from B8'.out.grown hgrow9 B8'.out.size (fun i e => by have := (P8.out.lt i e).1; omega)); clear hown9 hgrow9 hnil9)
            have Wz := Lib.hid (owns_keep Uz.out B9'.out)
            have Wx := Lib.hid (owns_keep Ux.out B9'.out)
            have B9 := Lib.hid (B0.out.trans (B9'.out.mono B0.out.size))
            clear Uz Ux B9' B8' B7' B7 P8 O8 B0
            have hal : (zs ++ ms).length ≤ 4194304 := by rw [List.length_append]; omega
            obtain ⟨both, hboth⟩ : ∃ both, zs ++ ms = both := ⟨_, rfl⟩
            rw [hboth] at P9 HBoth hal
            clear hboth
            obtain ⟨A9, c9, hv9⟩ := owns_slice P9.out
            subst hv9
            refine (SetOk_any _ _ zs _ (owns_spans Wz.out) hzl').mono ?_
            rintro e w10 ⟨rfl, hb10⟩
            have Xx := Lib.hid (owns_keep Wx.out hb10)
            have P10 := Lib.hid (owns_keep P9.out hb10)
            have B10 := Lib.hid (B9.out.trans (hb10.mono B9.out.size))
            rw [Hzok.out]
            clear hb10 Wz Wx P9 B9
            go_wp2_with fail
            refine (SetOf_any _ _ _ _ (owns_spans P10.out) (owns_block P10.out) hal).mono ?_
            rw [HBoth.out]
            rintro e w11 ⟨A11, c11, rfl, ho11, hb11⟩
            have O11 := Lib.hid ho11
            have Yx := Lib.hid (owns_keep Xx.out hb11)
            have B11 := Lib.hid (B10.out.trans (hb11.mono B10.out.size))
            clear ho11 hb11 Xx P10 B10
            go_wp2_with fail
            refine (vaSpans_same _ _ _ _ xs _ (owns_spans O11.out) (owns_spans Yx.out) (by unfold maxLen; omega)).mono ?_
            rintro e w12 ⟨rfl, hb12⟩
            have Zx := Lib.hid (owns_keep Yx.out hb12)
            have B12 := Lib.hid (B11.out.trans (hb12.mono B11.out.size))
            clear hb12 O11 Yx B11
            go_wp2_with fail
            refine (SetLess_any _ _ _ _ _ _ _ (owns_spans Zx.out) (owns_spans Zx.out) (owns_block Zx.out) (owns_block Zx.out) hlx' hlx').mono ?_
            rw [HSelf.out]
            rintro e w13 h13
            obtain ⟨A13, c13, rfl, _, hb13⟩ := gets_of_coll h13
            have B13 := Lib.hid (B12.out.trans (hb13.mono B12.out.size))
            clear h13 hb13 Zx B12
            go_wp2
            go_ret
            exact ⟨rfl, B13.out⟩
end Go.Proofs.Ytgclmldhdjmabaa
