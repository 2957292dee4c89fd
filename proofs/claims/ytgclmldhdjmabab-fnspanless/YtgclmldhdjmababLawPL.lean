/-
  The walk of FnSpanLess.
-/
import Derived.Test.YtgclmldhdjmababLawSM
import Derived.Test.YtgclmldhdjmababLawHas
import Derived.Test.YtgclmldhdjmababSpanLW
import Derived.Test.YtgclmldhdjmababSubL
namespace Go.Proofs.Ytgclmldhdjmabab
open Go.RowKit

theorem spanLessL_two (a b c d : Int) : (spanLessL a b c d).length ≤ 2 := by
  unfold spanLessL lessOne
  split
  · split
    · split <;> split <;> simp
    · simp
  · simp
theorem SpanLess_gets (a b c d : Int) (w : World) :
    Calls Try.prog 13 #[.agg #[.int .i64 a, .int .i64 b], .agg #[.int .i64 c, .int .i64 d]] w (Gets w (spanLessL a b c d)) := by
  have := SpanLess_any a b c d w
  rwa [spanLess_eq] at this
theorem anyIn_iffP (zs : List (Int × Int)) (c : Int) : anyIn zs c = true ↔ has zs c := by
  unfold anyIn
  rw [List.any_eq_true]
  constructor
  · rintro ⟨k, hk, h⟩
    have hk' : k < zs.length := by simpa using hk
    refine ⟨zs[k], List.getElem_mem hk', ?_⟩
    simpa [hasAt, hasB, List.getD, hk'] using h
  · rintro ⟨z, hz, h⟩
    obtain ⟨k, hk, rfl⟩ := List.mem_iff_getElem.1 hz
    exact ⟨k, by simpa using hk, by simpa [hasAt, hasB, List.getD, hk] using h⟩
theorem lessOne_in {a b c d : Int} (h1 : okB a b = true) (h2 : okB c d = true) (k : Int) : anyIn (lessOne (a, b) (c, d)) k = (hasB a b k && !hasB c d k) := by
  simp only [okB, decide_eq_true_eq] at h1 h2
  refine Bool.eq_iff_iff.2 ?_
  rw [anyIn_iffP, has_lessOne _ _ _ (by simp; omega) (by simp; omega)]
  simp [hasB]
  try omega
theorem lessOne_ok {a b c d : Int} (h1 : okB a b = true) (h2 : okB c d = true) : setOk (lessOne (a, b) (c, d)) = true := by
  simp only [okB, decide_eq_true_eq] at h1 h2
  exact (setOk_iff _).2 (canon_lessOne (a, b) (c, d) (-1) (by simp; omega) (by simp; omega) (by simp; omega) (by simp; omega))

def TwoAt (w : World) (g : Nat) (a b c d : Int) : Prop :=
  w.cell? ⟨g, 0, none⟩ = some (.int .i64 a) ∧ w.cell? ⟨g, 1, none⟩ = some (.int .i64 b) ∧ w.cell? ⟨g + 1, 0, none⟩ = some (.int .i64 c) ∧ w.cell? ⟨g + 1, 1, none⟩ = some (.int .i64 d) ∧ g + 1 < w.heap.size
theorem TwoAt.keep {w w' : World} {g : Nat} {a b c d : Int} (h : TwoAt w g a b c d) (hb : Below w.heap.size w w') : TwoAt w' g a b c d :=
  ⟨cell_below hb (by have := h.2.2.2.2; omega) h.1, cell_below hb (by have := h.2.2.2.2; omega) h.2.1, cell_below hb h.2.2.2.2 h.2.2.1, cell_below hb h.2.2.2.2 h.2.2.2.1, by have := hb.size; have := h.2.2.2.2; omega⟩

set_option maxHeartbeats 1000000 in
theorem DrawSpanLess_any (A : Option Addr) (cap : Nat) (bs : List Int) (w : World) (h : Bytes w w.heap.size A bs) (hc : bs.length ≤ cap) (hm : cap ≤ maxLen) :
    Calls Try.prog 12 #[.slice A bs.length cap] w (DrawnTwo w) := by
  have hb0 : Below w.heap.size w ((w.alloc (Obj.cells #[Value.int IntKind.i64 0, Value.int IntKind.i64 0] 24)).alloc (Obj.cells #[Value.int IntKind.i64 0, Value.int IntKind.i64 0] 24)) :=
    ((Below.refl _ _).alloc (Nat.le_refl _) _).alloc (by simp) _
  go_enter Try.func12, Try.ntmps12
  go_wp2_with fail
  refine (DrawSpanMeet_any A cap bs _ (bytes_below h hb0 (by simp; omega)) hc hm).mono ?_
  rintro e w1 ⟨a, b, c, d, rfl, h1, h2, h3⟩
  have r0 : w1.cell? ⟨w.heap.size, 0, none⟩ = some (.int .i64 0) := cell_below h3 (by simp; omega) (by simp)
  have r1 : w1.cell? ⟨w.heap.size, 1, none⟩ = some (.int .i64 0) := cell_below h3 (by simp; omega) (by simp)
  have r2 : w1.cell? ⟨w.heap.size + 1, 0, none⟩ = some (.int .i64 0) := cell_below h3 (by simp) (by simp)
  have r3 : w1.cell? ⟨w.heap.size + 1, 1, none⟩ = some (.int .i64 0) := cell_below h3 (by simp) (by simp)
  have s0 : w1.frozen? ⟨w.heap.size, 0, none⟩ = false := (h3.frozen (p := ⟨w.heap.size, 0, none⟩) (by simp; omega)).trans (by simp)
  have s1 : w1.frozen? ⟨w.heap.size, 1, none⟩ = false := (h3.frozen (p := ⟨w.heap.size, 1, none⟩) (by simp; omega)).trans (by simp)
  have s2 : w1.frozen? ⟨w.heap.size + 1, 0, none⟩ = false := (h3.frozen (p := ⟨w.heap.size + 1, 0, none⟩) (by simp)).trans (by simp)
  have s3 : w1.frozen? ⟨w.heap.size + 1, 1, none⟩ = false := (h3.frozen (p := ⟨w.heap.size + 1, 1, none⟩) (by simp)).trans (by simp)
  have HB := Lib.hid (hb0.trans (h3.mono hb0.size))
  clear h3 h hb0
  go_wp2
  refine bodyPost_ret (v := .tuple #[.agg #[.int .i64 a, .int .i64 b], .agg #[.int .i64 c, .int .i64 d]]) (by simp [results, Try.results12, go_sem, r0, r1, r2, r3]) rfl ?_
  exact ⟨a, b, c, d, rfl, h1, h2, by repeat (first | exact HB.out | refine Below.setCell ?_ (by simp) _)⟩

theorem vaIn_is (A : Option Addr) (cap : Nat) (zs : List (Int × Int)) (c : Int) (w : World) (v : Bool) (hz : Spans w A zs) (hl : zs.length ≤ 2) (hv : anyIn zs c = v) :
    Calls Try.prog 17 #[.slice A zs.length cap, .int .i64 c] w fun e w' => e = .returned (.bool v) ∧ w = w' := by
  subst hv
  exact vaIn_any A cap zs c w hz (by unfold maxLen; omega)
theorem vaIn_has (g cap : Nat) (x y c : Int) (w : World) (v : Bool) (hv : hasB x y c = v) (h0 : w.cell? ⟨g, 0, none⟩ = some (.int .i64 x)) (h1 : w.cell? ⟨g, 1, none⟩ = some (.int .i64 y)) :
    Calls Try.prog 17 #[.slice (some ⟨g, 0, none⟩) 1 cap, .int .i64 c] w fun e w' => e = .returned (.bool v) ∧ w = w' := by
  subst hv
  exact vaIn_one g cap x y c w h0 h1

set_option maxRecDepth 100000 in
set_option maxHeartbeats 2000000 in
theorem FnSpanLess_any (A : Option Addr) (n cap : Nat) (bs : List Int) (w : World) (hz : Bytes w w.heap.size A bs ∧ bs.length = n ∧ n ≤ cap ∧ cap ≤ maxLen) :
    Calls Try.prog 3 #[.slice A n cap] w fun e w' => e = .returned (.bool true) ∧ Below w.heap.size w w' := by
  obtain ⟨hz, rfl, hc, hm⟩ := hz
  have hm' := hm
  unfold maxLen at hm'
  by_cases hl : (1048576 : Int) < bs.length
  · go_enter Try.func3, Try.ntmps3
    go_wp2
    go_ret
    exact ⟨rfl, Below.refl _ _⟩
  · go_enter Try.func3, Try.ntmps3
    go_wp2_with fail
    refine (DrawSpanLess_any A cap bs w hz hc hm).mono ?_
    rintro e w1 ⟨a, b, c, d, rfl, hab, hcd, hb1⟩
    clear hab hcd hz hc hm hm' hl
    have hzl := spanLessL_two a b c d
    obtain ⟨ls, hls⟩ : ∃ ls, spanLessL a b c d = ls := ⟨_, rfl⟩
    have HZ := Lib.hid hls
    rw [hls] at hzl
    clear hls
    go_wp2_with fail
    refine (SpanLess_gets _ _ _ _ _).mono ?_
    rw [HZ.out]
    rintro e w2 ⟨A2, c2, rfl, ho2, hb2⟩
    have Oz := Lib.hid (owns_base (base' := w.heap.size) ho2 (by have := hb1.size; simp; omega))
    clear ho2
    simp only [World.size_alloc] at hb2
    have hz2 := hb2.size
    simp at hz2
    have T2 : TwoAt w2 w1.heap.size a b c d := ⟨cell_below hb2 (by omega) (by simp), cell_below hb2 (by omega) (by simp), cell_below hb2 (by omega) (by simp), cell_below hb2 (by omega) (by simp), by omega⟩
    have hB2 : Below w.heap.size w w2 := (((hb1.alloc hb1.size _).alloc (by have := hb1.size; simp; omega) _)).trans (hb2.mono (by have := hb1.size; omega))
    obtain ⟨G, hG⟩ : ∃ G, w1.heap.size = G := ⟨_, rfl⟩
    rw [hG] at T2 ⊢
    clear hb1 hb2 hz2 hG
    obtain ⟨x, hx⟩ : ∃ x, okB a b = x := ⟨_, rfl⟩
    obtain ⟨y, hy⟩ : ∃ y, okB c d = y := ⟨_, rfl⟩
    have Hx := Lib.hid hx
    have Hy := Lib.hid hy
    clear hx hy
    obtain ⟨k0, k1, k2, k3, ks⟩ := T2
    have T2 := Lib.hid (show TwoAt w2 G a b c d from ⟨k0, k1, k2, k3, ks⟩)
    go_wp2_with fail
    refine (sSpanLess_any _ _ _ _ _).mono ?_
    rw [HZ.out]
    rintro e w3 ⟨A3, c3, rfl, ho3, hb3⟩
    have O3 := Lib.hid ho3
    have Pz := Lib.hid (owns_keep Oz.out hb3)
    have T3 := Lib.hid (T2.out.keep hb3)
    have B3 := Lib.hid (hB2.trans (hb3.mono hB2.size))
    clear ho3 hb3 hB2 Oz T2 k0 k1 k2 k3 ks
    go_wp2_with fail
    refine (vaSpans_same _ _ _ _ ls _ (owns_spans Pz.out) (owns_spans O3.out) (by unfold maxLen; omega)).mono ?_
    rintro e w4 ⟨rfl, hb4⟩
    have Qz := Lib.hid (owns_keep Pz.out hb4)
    have T4 := Lib.hid (T3.out.keep hb4)
    have B4 := Lib.hid (B3.out.trans (hb4.mono B3.out.size))
    clear hb4 O3 Pz T3 B3
    obtain ⟨k0, k1, k2, k3, ks⟩ := T4.out
    go_wp2_with fail
    refine (SpanOk_val _ _ _ _ Hx.out).mono ?_
    rintro e w5 ⟨rfl, hb5⟩
    have Rz := Lib.hid (owns_keep Qz.out hb5)
    have T5 := Lib.hid (T4.out.keep hb5)
    have B5 := Lib.hid (B4.out.trans (hb5.mono B4.out.size))
    clear hb5 Qz T4 B4 k0 k1 k2 k3 ks
    cases x
    · obtain ⟨k0, k1, k2, k3, ks⟩ := T5.out
      go_wp2_with fail
      refine (sSpanLess_any _ _ _ _ _).mono ?_
      rw [HZ.out]
      rintro e w6 ⟨A6, c6, rfl, ho6, hb6⟩
      have O6 := Lib.hid ho6
      have Sz := Lib.hid (owns_keep Rz.out hb6)
      have B6 := Lib.hid (B5.out.trans (hb6.mono B5.out.size))
      clear ho6 hb6 Rz T5 B5 k0 k1 k2 k3 ks
      go_wp2_with fail
      refine (vaSpans_same _ _ _ _ ls _ (owns_spans Sz.out) (owns_spans O6.out) (by unfold maxLen; omega)).mono ?_
      rintro e w7 ⟨rfl, hb7⟩
      have B7 := Lib.hid (B6.out.trans (hb7.mono B6.out.size))
      clear hb7
      go_wp2
      go_ret
      exact ⟨rfl, B7.out⟩
    · obtain ⟨k0, k1, k2, k3, ks⟩ := T5.out
      go_wp2_with fail
      refine (SpanOk_val _ _ _ _ Hy.out).mono ?_
      rintro e w6 ⟨rfl, hb6⟩
      have Sz := Lib.hid (owns_keep Rz.out hb6)
      have T6 := Lib.hid (T5.out.keep hb6)
      have B6 := Lib.hid (B5.out.trans (hb6.mono B5.out.size))
      clear hb6 Rz T5 B5 k0 k1 k2 k3 ks
      cases y
      · obtain ⟨k0, k1, k2, k3, ks⟩ := T6.out
        go_wp2_with fail
        refine (sSpanLess_any _ _ _ _ _).mono ?_
        rw [HZ.out]
        rintro e w7 ⟨A7, c7, rfl, ho7, hb7⟩
        have O7 := Lib.hid ho7
        have Tz := Lib.hid (owns_keep Sz.out hb7)
        have B7 := Lib.hid (B6.out.trans (hb7.mono B6.out.size))
        clear ho7 hb7 Sz T6 B6 k0 k1 k2 k3 ks
        go_wp2_with fail
        refine (vaSpans_same _ _ _ _ ls _ (owns_spans Tz.out) (owns_spans O7.out) (by unfold maxLen; omega)).mono ?_
        rintro e w8 ⟨rfl, hb8⟩
        have B8 := Lib.hid (B7.out.trans (hb8.mono B7.out.size))
        clear hb8
        go_wp2
        go_ret
        exact ⟨rfl, B8.out⟩
      · have hL : lessOne (a, b) (c, d) = ls := by rw [← HZ.out, spanLessL, Hx.out, Hy.out]; rfl
        have Hin := Lib.hid (show ∀ k, anyIn ls k = (hasB a b k && !hasB c d k) from fun k => by rw [← hL]; exact lessOne_in Hx.out Hy.out k)
        have Hok := Lib.hid (show setOk ls = true from by rw [← hL]; exact lessOne_ok Hx.out Hy.out)
        clear hL
        go_wp2
        go_loopw [6] (fun i wr => ∃ k : Nat, k ≤ 100 ∧ i = .int .i64 k ∧ Below w6.heap.size w6 wr) (fun i _ => 100 - (intOf i).toNat)
        case atStart => exact ⟨0, Nat.zero_le _, rfl, Below.refl _ _⟩
        case round =>
          obtain ⟨k, hk, rfl, hbr⟩ := hrel
          have Uz := Lib.hid (owns_keep Sz.out hbr)
          have T7 := T6.out.keep hbr
          have hzr := hbr.size
          have Hbr := Lib.hid hbr
          clear hbr
          by_cases hlt : k < 100
          · obtain ⟨k0, k1, k2, k3, ks⟩ := T7
            obtain ⟨t1, ht1⟩ : ∃ t, hasB a b k = t := ⟨_, rfl⟩
            obtain ⟨t2, ht2⟩ : ∃ t, hasB c d k = t := ⟨_, rfl⟩
            have hP := Hin.out k
            rw [ht1, ht2] at hP
            have H1 := Lib.hid ht1
            have H2 := Lib.hid ht2
            have HP := Lib.hid hP
            clear ht1 ht2 hP
            have SL := Lib.hid (show Spans wr.drew A2 ls from owns_spans Uz.out)
            have SLa := Lib.hid (show ∀ o, Spans (wr.alloc o).drew A2 ls from fun o => owns_spans (Uz.out.alloc o))
            have ob : Below w6.heap.size w6 wr := Hbr.out
            go_upto_region 10 with fail
            cases t1
            · have HPk := Lib.hid (show anyIn ls k = false from by simpa using HP.out)
              first
                | (go_region_with
                (first
                  | (go_at_call 17; with_reducible refine (vaIn_is A2 c2 ls k _ _ SL.out hzl HPk.out).mono ?_; rintro e w7 ⟨rfl, rfl⟩)
                  | (go_at_call 17; with_reducible refine (vaIn_is A2 c2 ls k _ _ (SLa.out _) hzl HPk.out).mono ?_; rintro e w7 ⟨rfl, rfl⟩)
                  | (go_at_call 17; with_reducible refine (vaIn_has wr.heap.size _ a b k _ _ H1.out (by simp) (by simp)).mono ?_; rintro e w7 ⟨rfl, rfl⟩)
                  | (go_at_call 17; with_reducible refine (vaIn_has (wr.heap.size + 1) _ c d k _ _ H2.out (by first | (simp; done) | (simp [go_sem]; done)) (by first | (simp; done) | (simp [go_sem]; done))).mono ?_; rintro e w7 ⟨rfl, rfl⟩)))
                | (fail "region")
              all_goals (go_wp2; go_roundw; (case rel => exact ⟨k + 1, by omega, by go_num, by repeat (first | exact Hbr.out | refine Below.drew ?_ | refine Below.alloc ?_ (by first | omega | (simp; omega)) _)⟩); (case measure => (simp [intOf]; omega)))
            · cases t2
              · have HPk := Lib.hid (show anyIn ls k = true from by simpa using HP.out)
                first
                  | (go_region_held3 (fun w' => w'.cell? ⟨G, 0, none⟩ = some (.int .i64 a) ∧ w'.cell? ⟨G, 1, none⟩ = some (.int .i64 b) ∧ w'.cell? ⟨G + 1, 0, none⟩ = some (.int .i64 c) ∧ w'.cell? ⟨G + 1, 1, none⟩ = some (.int .i64 d))
                (first | (refine ⟨?_, ?_, ?_, ?_⟩ <;> (repeat (first | with_reducible assumption | with_reducible refine cell_alloc_far ?_ | with_reducible refine cell_drew ?_)); done) | ((try go_split_ands); refine ⟨?_, ?_, ?_, ?_⟩ <;> (repeat (first | with_reducible assumption | with_reducible refine cell_alloc_far ?_ | with_reducible refine cell_drew ?_))))
                (first
                  | (go_at_call 17; with_reducible refine (vaIn_is A2 c2 ls k _ _ SL.out hzl HPk.out).mono ?_; rintro e w7 ⟨rfl, rfl⟩)
                  | (go_at_call 17; with_reducible refine (vaIn_is A2 c2 ls k _ _ (SLa.out _) hzl HPk.out).mono ?_; rintro e w7 ⟨rfl, rfl⟩)
                  | (go_at_call 17; with_reducible refine (vaIn_has wr.heap.size _ a b k _ _ H1.out (by simp) (by simp)).mono ?_; rintro e w7 ⟨rfl, rfl⟩)
                  | (go_at_call 17; with_reducible refine (vaIn_has (wr.heap.size + 1) _ c d k _ _ H2.out (by first | (simp; done) | (simp [go_sem]; done)) (by first | (simp; done) | (simp [go_sem]; done))).mono ?_; rintro e w7 ⟨rfl, rfl⟩)))
                  | (fail "region")
                all_goals (go_wp2; go_roundw; (case rel => exact ⟨k + 1, by omega, by go_num, by repeat (first | exact Hbr.out | refine Below.drew ?_ | refine Below.alloc ?_ (by first | omega | (simp; omega)) _)⟩); (case measure => (simp [intOf]; omega)))
              · have HPk := Lib.hid (show anyIn ls k = false from by simpa using HP.out)
                first
                  | (go_region_held3 (fun w' => w'.cell? ⟨G, 0, none⟩ = some (.int .i64 a) ∧ w'.cell? ⟨G, 1, none⟩ = some (.int .i64 b) ∧ w'.cell? ⟨G + 1, 0, none⟩ = some (.int .i64 c) ∧ w'.cell? ⟨G + 1, 1, none⟩ = some (.int .i64 d))
                (first | (refine ⟨?_, ?_, ?_, ?_⟩ <;> (repeat (first | with_reducible assumption | with_reducible refine cell_alloc_far ?_ | with_reducible refine cell_drew ?_)); done) | ((try go_split_ands); refine ⟨?_, ?_, ?_, ?_⟩ <;> (repeat (first | with_reducible assumption | with_reducible refine cell_alloc_far ?_ | with_reducible refine cell_drew ?_))))
                (first
                  | (go_at_call 17; with_reducible refine (vaIn_is A2 c2 ls k _ _ SL.out hzl HPk.out).mono ?_; rintro e w7 ⟨rfl, rfl⟩)
                  | (go_at_call 17; with_reducible refine (vaIn_is A2 c2 ls k _ _ (SLa.out _) hzl HPk.out).mono ?_; rintro e w7 ⟨rfl, rfl⟩)
                  | (go_at_call 17; with_reducible refine (vaIn_has wr.heap.size _ a b k _ _ H1.out (by simp) (by simp)).mono ?_; rintro e w7 ⟨rfl, rfl⟩)
                  | (go_at_call 17; with_reducible refine (vaIn_has (wr.heap.size + 1) _ c d k _ _ H2.out (by first | (simp; done) | (simp [go_sem]; done)) (by first | (simp; done) | (simp [go_sem]; done))).mono ?_; rintro e w7 ⟨rfl, rfl⟩)))
                  | (fail "region")
                all_goals (go_wp2; go_roundw; (case rel => exact ⟨k + 1, by omega, by go_num, by repeat (first | exact Hbr.out | refine Below.drew ?_ | refine Below.alloc ?_ (by first | omega | (simp; omega)) _)⟩); (case measure => (simp [intOf]; omega)))
          · obtain rfl : k = 100 := by omega
            have B7 := Lib.hid (B6.out.trans (Hbr.out.mono B6.out.size))
            clear T7 Sz T6
            go_wp2_with fail
            refine (SetOk_any _ _ ls _ (owns_spans Uz.out) (by omega)).mono ?_
            rintro e w8 ⟨rfl, hb8⟩
            have B8 := Lib.hid (B7.out.trans (hb8.mono B7.out.size))
            rw [Hok.out]
            clear hb8
            have hq : decide ((ls.length : Int) ≤ 2) = true := decide_eq_true (by omega)
            go_wp2
            go_ret
            exact ⟨rfl, B8.out⟩
end Go.Proofs.Ytgclmldhdjmabab
