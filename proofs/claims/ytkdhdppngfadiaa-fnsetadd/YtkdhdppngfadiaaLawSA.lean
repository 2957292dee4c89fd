/-
  The walk of FnSetAdd.
-/
import Derived.Test.YtkdhdppngfadiaaSetA
import Derived.Test.YtkdhdppngfadiaaLawSM
namespace Go.Proofs.Ytkdhdppngfadiaa
open Go.RowKit

/-- A drawn set and a span. -/
def DrawnAdd (w : World) (e : Ending) (w' : World) : Prop :=
  ∃ zs g cap a b, e = .returned (.tuple #[.slice (some ⟨g, 0, none⟩) zs.length cap, .agg #[.int .i64 a, .int .i64 b]]) ∧ zs.length ≤ 64 ∧ w'.ownsRow w.heap.size 42 2 (.slice (some ⟨g, 0, none⟩) zs.length cap) zs.length (flat zs) ∧ Below w.heap.size w w'

set_option maxHeartbeats 2000000 in
theorem DrawSetAdd_any (A : Option Addr) (cap : Nat) (bs : List Int) (w : World) (h : Bytes w w.heap.size A bs) (hc : bs.length ≤ cap) (hm : cap ≤ maxLen) :
    Calls Try.prog 39 #[.slice A bs.length cap] w (DrawnAdd w) := by
  have hb0 : Below w.heap.size w (w.alloc (Obj.cells #[Value.int IntKind.i64 0, Value.int IntKind.i64 0] 42)) := (Below.refl _ _).alloc (Nat.le_refl _) _
  go_enter Try.func39, Try.ntmps39
  go_wp2_with fail
  refine (l20Open_any A cap bs _ (bytes_below h hb0 (by simp)) hc hm).mono ?_
  rintro e w1 ⟨zs0, rfl, hrd1, hb1⟩
  simp only [World.size_alloc] at hrd1 hb1
  have r0 : w1.cell? ⟨w.heap.size, 0, none⟩ = some (.int .i64 0) := cell_below hb1 (by omega) (by simp)
  have r1 : w1.cell? ⟨w.heap.size, 1, none⟩ = some (.int .i64 0) := cell_below hb1 (by omega) (by simp)
  have s0 : w1.frozen? ⟨w.heap.size, 0, none⟩ = false := (hb1.frozen (p := ⟨w.heap.size, 0, none⟩) (by show w.heap.size < _; omega)).trans (by simp)
  have s1 : w1.frozen? ⟨w.heap.size, 1, none⟩ = false := (hb1.frozen (p := ⟨w.heap.size, 1, none⟩) (by show w.heap.size < _; omega)).trans (by simp)
  have hB1 : Below w.heap.size w w1 := hb0.trans (hb1.mono (by omega))
  have hl1 := hrd1.lt
  have n0 : w.heap.size ≠ w.heap.size + 1 := by omega
  clear hb0 hb1 h
  go_wp2_with fail
  refine (l20AnySet_any _ zs0 0 _ hrd1 (by omega) (by omega)).mono ?_
  rintro e w2 ⟨zs, g, c, rfl, hll, hol, p', hpa, hpb, hrd2, hgr2⟩
  have hg := hol.lt g rfl
  have Hol := Lib.hid hol
  have q0 := grown_cell hgr2 n0 r0
  have q1 := grown_cell hgr2 n0 r1
  have t0 := ((gcell hgr2).2 _ 0 (by omega) n0).trans s0
  have t1 := ((gcell hgr2).2 _ 1 (by omega) n0).trans s1
  have hz2 := hgr2.size
  clear hol r0 r1 s0 s1
  go_wp2_with fail
  refine (l20AnySpan_any _ zs0 p' _ hrd2 (by omega) (by omega)).mono ?_
  rintro e w3 ⟨a, b, rfl, -, p3, hp3a, hp3b, hrd3, hgr3⟩
  have Hol3 := Lib.hid (Hol.out.kept hgr3 (.inr (by simp [Value.ownBlock]; omega)))
  have HB := Lib.hid (grown_below hB1 (grown_trans hgr2 hgr3) (by omega))
  have u0 := grown_cell hgr3 n0 q0
  have u1 := grown_cell hgr3 n0 q1
  have v0 := ((gcell hgr3).2 _ 0 (by omega) n0).trans t0
  have v1 := ((gcell hgr3).2 _ 1 (by omega) n0).trans t1
  clear hgr2 hgr3 hrd1 hrd2 hrd3 Hol q0 q1 t0 t1 hB1
  go_wp2
  refine bodyPost_ret (v := .tuple #[.slice (some ⟨g, 0, none⟩) zs.length c, .agg #[.int .i64 a, .int .i64 b]]) (by simp [results, Try.results39, go_sem, u0, u1]) rfl ?_
  refine ⟨zs, g, c, a, b, rfl, hll, owns_base (Hol3.out.kept (grown_trans (grown_set _) (grown_set _)) (.inr (by simp [Value.ownBlock]; omega))) (by omega), by repeat (first | exact HB.out | refine Below.setCell ?_ (by simp) _)⟩

theorem setHas_add {zs : List (Int × Int)} {a b : Int} (h : setOk zs = true) (h2 : okB a b = true) (k : Int) : setHas (setAddL zs a b) k = (setHas zs k || hasB a b k) := by
  have e : setAddL zs a b = addL zs (a, b) := by unfold setAddL; rw [if_pos h, if_pos h2]
  have hab : 0 ≤ a ∧ a < b ∧ b ≤ 100 := by simpa [okB] using h2
  have hok : setOk (addL zs (a, b)) = true := addL_ok h hab.1 hab.2.1 hab.2.2
  rw [e, Bool.eq_iff_iff, setHas_iff hok, has_addL h hab.2.1, Bool.or_eq_true, setHas_iff h]
  simp only [hasB, decide_eq_true_eq]
  constructor
  · rintro (h | h)
    · exact .inr h
    · exact .inl h
  · rintro (h | h)
    · exact .inr h
    · exact .inl h
theorem setAdd_again {zs : List (Int × Int)} {a b : Int} (h : setOk zs = true) (h2 : okB a b = true) : setAddL (setAddL zs a b) a b = setAddL zs a b := by
  have hab : 0 ≤ a ∧ a < b ∧ b ≤ 100 := by simpa [okB] using h2
  have hz := setAddL_ok zs a b
  have e : setAddL zs a b = addL zs (a, b) := by unfold setAddL; rw [if_pos h, if_pos h2]
  refine canon_same ((setOk_iff _).1 (setAddL_ok _ a b)) ((setOk_iff _).1 hz) fun q => ?_
  rw [show setAddL (setAddL zs a b) a b = addL (setAddL zs a b) (a, b) from by unfold setAddL; rw [if_pos (by have := hz; unfold setAddL at this; exact this), if_pos h2], has_addL hz hab.2.1]
  constructor
  · rintro (h3 | h3)
    · rw [e, has_addL h hab.2.1]; exact .inl h3
    · exact h3
  · exact .inr
theorem vaIn_hasA (g cap : Nat) (x y c : Int) (w : World) (v : Bool) (hv : hasB x y c = v) (h0 : w.cell? ⟨g, 0, none⟩ = some (.int .i64 x)) (h1 : w.cell? ⟨g, 1, none⟩ = some (.int .i64 y)) :
    Calls Try.prog 45 #[.slice (some ⟨g, 0, none⟩) 1 cap, .int .i64 c] w fun e w' => e = .returned (.bool v) ∧ w = w' := by
  have := vaIn_one g cap x y c w h0 h1
  rwa [hv] at this

set_option maxRecDepth 100000 in
set_option maxHeartbeats 4000000 in
theorem FnSetAdd_any (A : Option Addr) (n cap : Nat) (bs : List Int) (w : World) (hz : Bytes w w.heap.size A bs ∧ bs.length = n ∧ n ≤ cap ∧ cap ≤ maxLen) :
    Calls Try.prog 8 #[.slice A n cap] w fun e w' => e = .returned (.bool true) ∧ Below w.heap.size w w' := by
  obtain ⟨hz, rfl, hc, hm⟩ := hz
  have hm' := hm
  unfold maxLen at hm'
  by_cases hl : (1048576 : Int) < bs.length
  · go_enter Try.func8, Try.ntmps8
    go_wp2
    go_ret
    exact ⟨rfl, Below.refl _ _⟩
  · go_enter Try.func8, Try.ntmps8
    go_wp2_with fail
    refine (DrawSetAdd_any A cap bs w hz hc hm).mono ?_
    rintro e w0 ⟨ls, g, c1, a, b, rfl, hll0, hol, hb0⟩
    have L0 := Lib.hid (owns_spans hol)
    have hs0 := hb0.size
    have hll : ls.length ≤ 1048577 := by omega
    have hzl := setAddL_len ls a b
    have HZk := Lib.hid (setAddL_ok ls a b)
    obtain ⟨o, ho⟩ : ∃ o, setOk ls = o := ⟨_, rfl⟩
    have HO := Lib.hid ho
    obtain ⟨so, hso⟩ : ∃ so, okB a b = so := ⟨_, rfl⟩
    have HSO := Lib.hid hso
    obtain ⟨zz, hzz⟩ : ∃ zz, setAddL ls a b = zz := ⟨_, rfl⟩
    have HZ := Lib.hid hzz
    rw [hzz] at hzl HZk
    obtain ⟨A1, hA1⟩ : ∃ A1, (some ⟨g, 0, none⟩ : Option Addr) = A1 := ⟨_, rfl⟩
    have HA1 := Lib.hid (show A1 = none → c1 = 0 from fun e => by rw [← hA1] at e; cases e)
    rw [hA1] at L0 ⊢
    clear hol ho hso hzz hA1 hz hc hm hm'
    go_wp2_with fail
    generalize hW : w0.alloc _ = W1
    have x0 : W1.cell? ⟨w0.heap.size, 0, none⟩ = some (.int .i64 a) := by rw [← hW]; simp [go_sem]
    have x1 : W1.cell? ⟨w0.heap.size, 1, none⟩ = some (.int .i64 b) := by rw [← hW]; simp [go_sem]
    have lx : w0.heap.size < W1.heap.size := by rw [← hW]; simp
    have hbW : Below w0.heap.size w0 W1 := by rw [← hW]; exact (Below.refl _ _).alloc (Nat.le_refl _) _
    have LW := Lib.hid (L0.out.below hbW)
    have BW := Lib.hid (hb0.trans (hbW.mono hs0))
    clear hW hbW L0 hb0
    refine (SetAdd_any A1 c1 ls a b W1 LW.out HA1.out hll).mono ?_
    rw [HZ.out]
    rintro e w2 ⟨A2, c2, rfl, ho, hb⟩
    have Oz := Lib.hid ho
    clear ho
    replace x0 := cell_below hb lx x0
    replace x1 := cell_below hb lx x1
    replace lx := Nat.lt_of_lt_of_le lx hb.size
    have Lw2 := Lib.hid (LW.out.below hb)
    have Bw2 := Lib.hid (BW.out.trans (hb.mono BW.out.size))
    clear LW BW
    clear hb
    go_wp2_with fail
    refine (sSetAdd_any A1 c1 ls a b _ Lw2.out hll).mono ?_
    rintro e w3 ⟨As, cs, rfl, ho, hb⟩
    rw [HZ.out] at ho ⊢
    have Os := Lib.hid ho
    clear ho
    replace x0 := cell_below hb lx x0
    replace x1 := cell_below hb lx x1
    replace lx := Nat.lt_of_lt_of_le lx hb.size
    have Lw3 := Lib.hid (Lw2.out.below hb)
    have Bw3 := Lib.hid (Bw2.out.trans (hb.mono Bw2.out.size))
    clear Lw2 Bw2
    have Zw3 := Lib.hid (owns_keep Oz.out hb)
    clear Oz
    clear hb
    go_wp2_with fail
    refine (vaSpans_same _ _ _ _ zz _ (owns_spans Zw3.out) (owns_spans Os.out) (by unfold maxLen; omega)).mono ?_
    rintro e w4 ⟨rfl, hb⟩
    clear Os
    replace x0 := cell_below hb lx x0
    replace x1 := cell_below hb lx x1
    replace lx := Nat.lt_of_lt_of_le lx hb.size
    have Lw4 := Lib.hid (Lw3.out.below hb)
    have Bw4 := Lib.hid (Bw3.out.trans (hb.mono Bw3.out.size))
    clear Lw3 Bw3
    have Zw4 := Lib.hid (owns_keep Zw3.out hb)
    clear Zw3
    clear hb
    go_wp2_with fail
    refine (SetOk_any A1 c1 ls _ Lw4.out hll).mono ?_
    rintro e w5 ⟨rfl, hb⟩
    rw [HO.out]
    replace x0 := cell_below hb lx x0
    replace x1 := cell_below hb lx x1
    replace lx := Nat.lt_of_lt_of_le lx hb.size
    have Lw5 := Lib.hid (Lw4.out.below hb)
    have Bw5 := Lib.hid (Bw4.out.trans (hb.mono Bw4.out.size))
    clear Lw4 Bw4
    have Zw5 := Lib.hid (owns_keep Zw4.out hb)
    clear Zw4
    clear hb
    go_wp2_with fail
    refine (sSetOk_any A1 c1 ls _ Lw5.out hll).mono ?_
    rintro e w6 ⟨rfl, hb⟩
    rw [HO.out]
    replace x0 := cell_below hb lx x0
    replace x1 := cell_below hb lx x1
    replace lx := Nat.lt_of_lt_of_le lx hb.size
    have Lw6 := Lib.hid (Lw5.out.below hb)
    have Bw6 := Lib.hid (Bw5.out.trans (hb.mono Bw5.out.size))
    clear Lw5 Bw5
    have Zw6 := Lib.hid (owns_keep Zw5.out hb)
    clear Zw5
    clear hb
    go_wp2_with fail
    refine (SetOk_any A1 c1 ls _ Lw6.out hll).mono ?_
    rintro e w7 ⟨rfl, hb⟩
    rw [HO.out]
    replace x0 := cell_below hb lx x0
    replace x1 := cell_below hb lx x1
    replace lx := Nat.lt_of_lt_of_le lx hb.size
    have Lw7 := Lib.hid (Lw6.out.below hb)
    have Bw7 := Lib.hid (Bw6.out.trans (hb.mono Bw6.out.size))
    clear Lw6 Bw6
    have Zw7 := Lib.hid (owns_keep Zw6.out hb)
    clear Zw6
    clear hb
    cases o
    · skip
      go_wp2_with fail
      refine (sSetAdd_any A1 c1 ls a b _ Lw7.out hll).mono ?_
      rintro e v1 ⟨As, cs, rfl, ho, hb⟩
      rw [HZ.out] at ho ⊢
      have Os := Lib.hid ho
      clear ho
      replace x0 := cell_below hb lx x0
      replace x1 := cell_below hb lx x1
      replace lx := Nat.lt_of_lt_of_le lx hb.size
      have Lv1 := Lib.hid (Lw7.out.below hb)
      have Bv1 := Lib.hid (Bw7.out.trans (hb.mono Bw7.out.size))
      clear Lw7 Bw7
      have Zv1 := Lib.hid (owns_keep Zw7.out hb)
      clear Zw7
      clear hb
      go_wp2_with fail
      refine (vaSpans_same _ _ _ _ zz _ (owns_spans Zv1.out) (owns_spans Os.out) (by unfold maxLen; omega)).mono ?_
      rintro e v2 ⟨rfl, hb⟩
      clear Os
      replace x0 := cell_below hb lx x0
      replace x1 := cell_below hb lx x1
      replace lx := Nat.lt_of_lt_of_le lx hb.size
      have Lv2 := Lib.hid (Lv1.out.below hb)
      have Bv2 := Lib.hid (Bv1.out.trans (hb.mono Bv1.out.size))
      clear Lv1 Bv1
      have Zv2 := Lib.hid (owns_keep Zv1.out hb)
      clear Zv1
      clear hb
      go_wp2_with fail
      refine (SetOk_any A1 c1 ls _ Lv2.out hll).mono ?_
      rintro e v3 ⟨rfl, hb⟩
      rw [HO.out]
      replace x0 := cell_below hb lx x0
      replace x1 := cell_below hb lx x1
      replace lx := Nat.lt_of_lt_of_le lx hb.size
      have Lv3 := Lib.hid (Lv2.out.below hb)
      have Bv3 := Lib.hid (Bv2.out.trans (hb.mono Bv2.out.size))
      clear Lv2 Bv2
      have Zv3 := Lib.hid (owns_keep Zv2.out hb)
      clear Zv2
      clear hb
      go_wp2_with fail
      refine (sSetOk_any A1 c1 ls _ Lv3.out hll).mono ?_
      rintro e v4 ⟨rfl, hb⟩
      rw [HO.out]
      replace x0 := cell_below hb lx x0
      replace x1 := cell_below hb lx x1
      replace lx := Nat.lt_of_lt_of_le lx hb.size
      have Lv4 := Lib.hid (Lv3.out.below hb)
      have Bv4 := Lib.hid (Bv3.out.trans (hb.mono Bv3.out.size))
      clear Lv3 Bv3
      have Zv4 := Lib.hid (owns_keep Zv3.out hb)
      clear Zv3
      clear hb
      go_wp2
      go_ret
      exact ⟨rfl, Bv4.out⟩
    · skip
      go_wp2_with fail
      refine (SpanOk_val a b _ so HSO.out).mono ?_
      rintro e w8 ⟨rfl, hb⟩
      replace x0 := cell_below hb lx x0
      replace x1 := cell_below hb lx x1
      replace lx := Nat.lt_of_lt_of_le lx hb.size
      have Lw8 := Lib.hid (Lw7.out.below hb)
      have Bw8 := Lib.hid (Bw7.out.trans (hb.mono Bw7.out.size))
      clear Lw7 Bw7
      have Zw8 := Lib.hid (owns_keep Zw7.out hb)
      clear Zw7
      clear hb
      cases so
      · skip
        go_wp2_with fail
        refine (sSetAdd_any A1 c1 ls a b _ Lw8.out hll).mono ?_
        rintro e v1 ⟨As, cs, rfl, ho, hb⟩
        rw [HZ.out] at ho ⊢
        have Os := Lib.hid ho
        clear ho
        replace x0 := cell_below hb lx x0
        replace x1 := cell_below hb lx x1
        replace lx := Nat.lt_of_lt_of_le lx hb.size
        have Lv1 := Lib.hid (Lw8.out.below hb)
        have Bv1 := Lib.hid (Bw8.out.trans (hb.mono Bw8.out.size))
        clear Lw8 Bw8
        have Zv1 := Lib.hid (owns_keep Zw8.out hb)
        clear Zw8
        clear hb
        go_wp2_with fail
        refine (vaSpans_same _ _ _ _ zz _ (owns_spans Zv1.out) (owns_spans Os.out) (by unfold maxLen; omega)).mono ?_
        rintro e v2 ⟨rfl, hb⟩
        clear Os
        replace x0 := cell_below hb lx x0
        replace x1 := cell_below hb lx x1
        replace lx := Nat.lt_of_lt_of_le lx hb.size
        have Lv2 := Lib.hid (Lv1.out.below hb)
        have Bv2 := Lib.hid (Bv1.out.trans (hb.mono Bv1.out.size))
        clear Lv1 Bv1
        have Zv2 := Lib.hid (owns_keep Zv1.out hb)
        clear Zv1
        clear hb
        go_wp2_with fail
        refine (SetOk_any A1 c1 ls _ Lv2.out hll).mono ?_
        rintro e v3 ⟨rfl, hb⟩
        rw [HO.out]
        replace x0 := cell_below hb lx x0
        replace x1 := cell_below hb lx x1
        replace lx := Nat.lt_of_lt_of_le lx hb.size
        have Lv3 := Lib.hid (Lv2.out.below hb)
        have Bv3 := Lib.hid (Bv2.out.trans (hb.mono Bv2.out.size))
        clear Lv2 Bv2
        have Zv3 := Lib.hid (owns_keep Zv2.out hb)
        clear Zv2
        clear hb
        go_wp2_with fail
        refine (sSetOk_any A1 c1 ls _ Lv3.out hll).mono ?_
        rintro e v4 ⟨rfl, hb⟩
        rw [HO.out]
        replace x0 := cell_below hb lx x0
        replace x1 := cell_below hb lx x1
        replace lx := Nat.lt_of_lt_of_le lx hb.size
        have Lv4 := Lib.hid (Lv3.out.below hb)
        have Bv4 := Lib.hid (Bv3.out.trans (hb.mono Bv3.out.size))
        clear Lv3 Bv3
        have Zv4 := Lib.hid (owns_keep Zv3.out hb)
        clear Zv3
        clear hb
        go_wp2
        go_ret
        exact ⟨rfl, Bv4.out⟩
      · have HH := Lib.hid (show ∀ k, setHas zz k = (setHas ls k || hasB a b k) from fun k => by rw [← HZ.out]; exact setHas_add HO.out HSO.out k)
        have HAg := Lib.hid (show setAddL zz a b = zz from by rw [← HZ.out]; exact setAdd_again HO.out HSO.out)
        go_wp2
        go_loopw [6] (fun i wr => ∃ k : Nat, k ≤ 100 ∧ i = .int .i64 k ∧ Below w8.heap.size w8 wr) (fun i _ => 100 - (intOf i).toNat)
        case atStart => exact ⟨0, by omega, rfl, Below.refl _ _⟩
        case round =>
          obtain ⟨k, hk, rfl, hbr⟩ := hrel
          have x0r := cell_below hbr lx x0
          have x1r := cell_below hbr lx x1
          have lxr := Nat.lt_of_lt_of_le lx hbr.size
          have LR := Lib.hid (Lw8.out.below hbr)
          have ZR := Lib.hid (owns_keep Zw8.out hbr)
          by_cases hlt : k < 100
          · have hk99 : (k : Int) ≤ 99 := by omega
            obtain ⟨sl, hsl⟩ : ∃ sl, setHas ls k = sl := ⟨_, rfl⟩
            obtain ⟨sh, hsh⟩ : ∃ sh, hasB a b k = sh := ⟨_, rfl⟩
            have HSL := Lib.hid hsl
            have HSH := Lib.hid hsh
            have HX := Lib.hid (show setHas zz k = (sl || sh) from by rw [HH.out, hsl, hsh])
            clear hsl hsh
            go_wp2_with fail
            refine (SetHas_any A2 c2 zz k _ (owns_spans ZR.out) (by omega)).mono ?_
            rw [HX.out]
            rintro e w9 ⟨rfl, hb⟩
            have x0s := cell_below hb lxr x0r
            have x1s := cell_below hb lxr x1r
            have lxs := Nat.lt_of_lt_of_le lxr hb.size
            have LS := Lib.hid (LR.out.below hb)
            have BS := Lib.hid (hbr.trans (hb.mono hbr.size))
            clear hb hbr x0r x1r
            go_wp2_with fail
            refine (SetHas_any A1 c1 ls k _ LS.out hll).mono ?_
            rw [HSL.out]
            rintro e w10 ⟨rfl, hb⟩
            have x0t := cell_below hb lxs x0s
            have x1t := cell_below hb lxs x1s
            have lxt := Nat.lt_of_lt_of_le lxs hb.size
            have BT := Lib.hid (BS.out.trans (hb.mono BS.out.size))
            have hsT := BT.out.size
            clear hb x0s x1s
            cases sl
            · go_wp2_with fail
              refine (vaIn_hasA w10.heap.size 1 a b k _ sh HSH.out (by simp) (by simp)).mono ?_
              rintro e w11 ⟨rfl, hw11⟩
              have BU := Lib.hid (show Below w8.heap.size w8 w11 from by rw [← hw11]; exact BT.out.alloc hsT _)
              clear hw11 x0t x1t
              cases sh
              all_goals (
                go_wp2
                go_roundw
                (case rel => exact ⟨k + 1, by omega, by go_num, BU.out⟩)
                (case measure => (simp [intOf]; omega)))
            · go_wp2
              go_roundw
              case rel => exact ⟨k + 1, by omega, by go_num, BT.out⟩
              case measure => simp [intOf]; omega
          · obtain rfl : k = 100 := by omega
            have BR := Lib.hid (Bw8.out.trans (hbr.mono Bw8.out.size))
            clear hbr
            go_wp2_with fail
            refine (SetOk_any A2 c2 zz _ (owns_spans ZR.out) (by omega)).mono ?_
            rw [HZk.out]
            rintro e w9 ⟨rfl, hb⟩
            have x0s := cell_below hb lxr x0r
            have x1s := cell_below hb lxr x1r
            have ZS := Lib.hid (owns_keep ZR.out hb)
            have BS := Lib.hid (BR.out.trans (hb.mono BR.out.size))
            clear hb x0r x1r
            go_wp2_with fail
            refine (SetAdd_any A2 c2 zz a b _ (owns_spans ZS.out) (owns_nilcap ZS.out) (by omega)).mono ?_
            rw [HAg.out]
            rintro e w10 ⟨A5, c5, rfl, ho, hb⟩
            have O5 := Lib.hid ho
            have ZT := Lib.hid (owns_keep ZS.out hb)
            have BT := Lib.hid (BS.out.trans (hb.mono BS.out.size))
            clear ho hb
            go_wp2_with fail
            refine (vaSpans_same _ _ _ _ zz _ (owns_spans O5.out) (owns_spans ZT.out) (by unfold maxLen; omega)).mono ?_
            rintro e w11 ⟨rfl, hb⟩
            have BU := Lib.hid (BT.out.trans (hb.mono BT.out.size))
            clear hb
            go_wp2
            go_ret
            exact ⟨rfl, BU.out⟩
end Go.Proofs.Ytkdhdppngfadiaa
