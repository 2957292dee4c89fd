/-
  Walks: what is left of a set, and of a span.
-/
import Derived.Test.YtgclmldhdjmabaaGreatCanon
import Derived.Test.YtgclmldhdjmabaaGreatCommonN
namespace Go.Proofs.YtgclmldhdjmabaaGreat
open Go.RowKit Go.Shelf

attribute [local go_sem] Oper.semAt_some

def outTo (zs : List (Int × Int)) : Nat → List (Int × Int) × Int
  | 0 => ([], 0)
  | k + 1 => ((outTo zs k).1 ++ (if (outTo zs k).2 < (zs.getD k (0, 0)).1 then [((outTo zs k).2, (zs.getD k (0, 0)).1)] else []), (zs.getD k (0, 0)).2)
def outL (zs : List (Int × Int)) : List (Int × Int) := (outTo zs zs.length).1 ++ (if (outTo zs zs.length).2 ≤ 99 then [((outTo zs zs.length).2, 100)] else [])
theorem outTo_pre (zs : List (Int × Int)) (k : Nat) : ∀ d, (outTo zs k).1 <+: (outTo zs (k + d)).1
  | 0 => List.prefix_refl _
  | d + 1 => (outTo_pre zs k d).trans ⟨_, rfl⟩
theorem outTo_all (zs : List (Int × Int)) (k : Nat) (hk : k ≤ zs.length) : (outTo zs k).1 <+: outL zs := by
  have := outTo_pre zs k (zs.length - k)
  rw [show k + (zs.length - k) = zs.length from by omega] at this
  exact this.trans ⟨_, rfl⟩
theorem outTo_len (zs : List (Int × Int)) : ∀ k, (outTo zs k).1.length ≤ k
  | 0 => by simp [outTo]
  | k + 1 => by
    have := outTo_len zs k
    simp only [outTo, List.length_append]
    split <;> simp <;> omega
theorem outL_len (zs : List (Int × Int)) : (outL zs).length ≤ zs.length + 1 := by
  have := outTo_len zs zs.length
  simp only [outL, List.length_append]
  split <;> simp <;> omega

theorem outTo_room (zs : List (Int × Int)) (k : Nat) (hk : k < zs.length) (h : (outTo zs k).2 < (zs.getD k (0, 0)).1) : (outTo zs k).1.length < (outL zs).length := by
  have h1 := (outTo_all zs (k + 1) hk).length_le
  simp only [outTo, if_pos h, List.length_append, List.length_cons, List.length_nil] at h1
  omega
theorem outL_room (zs : List (Int × Int)) (h : (outTo zs zs.length).2 ≤ 99) : (outTo zs zs.length).1.length < (outL zs).length := by
  simp [outL, if_pos h]

set_option maxRecDepth 100000 in
set_option maxHeartbeats 4000000 in
theorem out1_all (n : Nat) (hn : 1 ≤ n) (Bs n₀ cap : Nat) (A : Option Addr) (zs : List (Int × Int)) (hl : zs.length ≤ 4194304) (w : World) (hBs : Bs < w.heap.size) (hn₀ : n₀ ≤ w.heap.size)
    (hc : w.cell? ⟨Bs, 0, none⟩ = some (.slice A zs.length cap)) (hz : Spans w A zs) (hb : ∀ b off, A = some ⟨b, off, none⟩ → b < n₀) :
    SeqAll n Tryz.prog 92 #[.pointer (some ⟨Bs, 0, none⟩)] encS n₀ (outL zs) (outL zs).length w := by
  intro l J Φ0 W hW hJ hF hU hY h0
  have cS := (hW.cell (p := ⟨Bs, 0, none⟩) hBs).trans hc
  have hzW := hz.below hW
  have HZ := Lib.hid hzW
  have hnW : n₀ ≤ W.heap.size := Nat.le_trans hn₀ hW.size
  have HJ := Lib.hid hJ
  have HF := Lib.hid hF
  have HY := Lib.hid hY
  clear hJ hF hU hY hz hzW hc hW hBs hn₀
  refine callsIn_of_wp Tryz.func92 rfl trivial ?_ rfl
  simp only [Tryz.ntmps92, List.size_toArray, List.length_cons, List.length_nil, Nat.reduceAdd, Nat.reduceSub, Array.replicate_succ, Array.replicate_zero, List.push_toArray, List.append_toArray, List.nil_append, List.cons_append]
  gi_wp2
  gi_loopw [3, 8] (fun f i wr => ∃ k : Nat, k ≤ zs.length ∧ i = .int .i64 k ∧ f = .int .i64 (outTo zs k).2 ∧ (∃ Φ, J (outTo zs k).1 Φ wr) ∧ Below n₀ W wr)
    (fun _ i _ => zs.length - (intOf i).toNat)
  case atStart => exact ⟨0, Nat.zero_le _, rfl, by simp [outTo], ⟨Φ0, by simpa [outTo] using h0⟩, Below.refl _ _⟩
  case round =>
    obtain ⟨k, hk, rfl, rfl, ⟨Φ, hj⟩, hnx⟩ := hrel
    by_cases hlt : k < zs.length
    · obtain ⟨b, off, rfl, hcells⟩ := HZ.out (by omega)
      have hbn := hb b off rfl
      obtain ⟨c0, c1⟩ := hcells k hlt
      have hst := Lib.hid (show outTo zs (k + 1) = ((outTo zs k).1 ++ (if (outTo zs k).2 < (zs.getD k (0, 0)).1 then [((outTo zs k).2, (zs.getD k (0, 0)).1)] else []), (zs.getD k (0, 0)).2) from rfl)
      have hroom := Lib.hid (outTo_room zs k hlt)
      obtain ⟨x, hx⟩ : ∃ x, (zs.getD k (0, 0)).1 = x := ⟨_, rfl⟩
      obtain ⟨y, hy⟩ : ∃ x, (zs.getD k (0, 0)).2 = x := ⟨_, rfl⟩
      obtain ⟨o, ho⟩ : ∃ x, (outTo zs k).1 = x := ⟨_, rfl⟩
      obtain ⟨f, hf⟩ : ∃ x, (outTo zs k).2 = x := ⟨_, rfl⟩
      rw [hx] at c0 hst hroom
      rw [hy] at c1 hst
      rw [ho] at hj hst hroom
      rw [hf] at hst hroom ⊢
      have c0r : wr.cell? ⟨b, off + k * 2, none⟩ = some (.int .i64 x) := cell_below hnx hbn c0
      have c1r : wr.cell? ⟨b, off + k * 2 + 1, none⟩ = some (.int .i64 y) := cell_below hnx hbn c1
      have hsz := hnx.size
      have hfr : ¬ Φ wr.heap.size := fun h => by
        obtain ⟨_, o, ho, _⟩ := HF.out _ _ _ hj _ h
        rw [Array.getElem?_eq_none (Nat.le_refl _)] at ho
        cases ho
      have hj1 := (HJ.out Φ).alloc (.cells #[.int .i64 x, .int .i64 y] 25) hj
      have bx := Boxed2.new wr (x, y)
      have hF1 := HF.out _ _ _ hj1
      clear hcells c0 c1 hx hy ho hf
      by_cases hfx : f < x
      · have d1 : decide (f < x) = true := by simpa using hfx
        obtain ⟨fn, tmps, assign, body, hy, hR⟩ := HY.out _ Φ (f, x) _ hj1 (hroom.out hfx)
        have Hfx := Lib.hid hfx
        clear hfx
        simp only [encS] at hy
        gi_wp2
        refine hR.mono ?_
        rintro e W3 ⟨rfl, Φ3, hj3, hf3⟩
        have hB3 : Below n₀ W W3 := (hnx.alloc (by omega) _).trans (hf3.below (fun j hj => (hF1 j hj).1) (by simp; omega))
        have b3 : Boxed2 W3 wr.heap.size (x, y) := (hf3.same _ bx.lt hfr).trans bx
        have e1 := b3.cell1
        clear hR hy hf3 hF1 hj1 hj bx b3 hfr
        gi_wp2
        go_roundw
        case rel =>
          refine ⟨k + 1, by omega, by go_num, ?_, ⟨Φ3, ?_⟩, hB3⟩
          · rw [hst.out]
          · rw [hst.out, if_pos Hfx.out]; exact hj3
        case measure => simp [intOf]; omega
      · have d1 : decide (f < x) = false := decide_eq_false hfx
        have Hfx := Lib.hid hfx
        have e1 := bx.cell1
        have hB3 : Below n₀ W (wr.alloc (.cells #[.int .i64 x, .int .i64 y] 25)) := hnx.alloc (by omega) _
        clear hfx
        gi_wp2
        refine ⟨(fun f e => nomatch e), ?_⟩
        gi_wp2
        go_roundw
        case rel =>
          refine ⟨k + 1, by omega, by go_num, ?_, ⟨Φ, ?_⟩, hB3⟩
          · rw [hst.out]
          · rw [hst.out, if_neg (by have := Hfx.out; omega), List.append_nil]; exact hj1
        case measure => simp [intOf]; omega
    · obtain rfl : k = zs.length := by omega
      have hroom := Lib.hid (outL_room zs)
      have hst := Lib.hid (show outL zs = (outTo zs zs.length).1 ++ (if (outTo zs zs.length).2 ≤ 99 then [((outTo zs zs.length).2, 100)] else []) from rfl)
      obtain ⟨o, ho⟩ : ∃ x, (outTo zs zs.length).1 = x := ⟨_, rfl⟩
      obtain ⟨f, hf⟩ : ∃ x, (outTo zs zs.length).2 = x := ⟨_, rfl⟩
      rw [ho] at hj hst hroom
      rw [hf] at hst hroom ⊢
      clear ho hf
      by_cases hfx : f ≤ 99
      · have d1 : decide (f ≤ 99) = true := by simpa using hfx
        obtain ⟨fn, tmps, assign, body, hy, hR⟩ := HY.out _ Φ (f, 100) _ hj (hroom.out hfx)
        have Hfx := Lib.hid hfx
        clear hfx
        simp only [encS] at hy
        gi_wp2
        refine hR.mono ?_
        rintro e W3 ⟨rfl, Φ3, hj3, hf3⟩
        clear hR hy hf3
        gi_wp2
        go_end0
        refine ⟨⟨_, rfl⟩, Φ3, ?_⟩
        rw [hst.out, if_pos Hfx.out]
        exact hj3
      · have d1 : decide (f ≤ 99) = false := decide_eq_false hfx
        have Hfx := Lib.hid hfx
        clear hfx
        gi_wp2
        go_end0
        refine ⟨⟨_, rfl⟩, Φ, ?_⟩
        rw [hst.out, if_neg (by have := Hfx.out; omega), List.append_nil]
        exact hj
end Go.Proofs.YtgclmldhdjmabaaGreat
namespace Go.Proofs.YtgclmldhdjmabaaGreat
open Go.RowKit Go.Shelf

theorem enter94 : ∀ args w, (callFunc 92 args).run Tryz.prog w = .ok (.enter 92 args) w := enters_of Tryz.func92 (by kernel_rfl) rfl

set_option maxHeartbeats 1000000 in
theorem outside_any (A : Option Addr) (len cap : Nat) (w : World) :
    Calls Tryz.prog 85 #[.slice A len cap] w fun e w' => e = .returned (.func (.func 92) #[] #[.pointer (some ⟨w.heap.size, 0, none⟩)]) ∧ w' = w.alloc (.cells #[.slice A len cap] 36) := by
  go_enter Tryz.func85, Tryz.ntmps85
  go_wp2
  go_ret
  exact ⟨rfl, rfl⟩

theorem collect_less (A B : Option Addr) (ca cb : Nat) (xs ys : List (Int × Int)) (w w1 w2 w3 : World) (hx : Spans w A xs) (hy : Spans w B ys) (hA : ∀ b off, A = some ⟨b, off, none⟩ → b < w.heap.size) (hB : ∀ b off, B = some ⟨b, off, none⟩ → b < w.heap.size)
    (hlx : xs.length ≤ 100) (hly : ys.length ≤ 100) (e1 : w1 = w.alloc (.cells #[.slice A xs.length ca] 36)) (e2 : w2 = w1.alloc (.cells #[.slice B ys.length cb] 36))
    (e3 : w3 = (w2.alloc (.cells #[.func (.func 77) #[] #[.pointer (some ⟨w.heap.size, 0, none⟩)]] 91)).alloc (.cells #[.func (.func 92) #[] #[.pointer (some ⟨w1.heap.size, 0, none⟩)]] 91)) :
    Calls Tryz.prog 78 #[.func (.func 91) #[] #[.pointer (some ⟨w2.heap.size, 0, none⟩), .pointer (some ⟨w2.heap.size + 1, 0, none⟩)]] w3 (Coll w (meetL xs (outL ys))) := by
  have b1 := Boxed.new w 36 (.slice A xs.length ca)
  rw [← e1] at b1
  have b2 := Boxed.new w1 36 (.slice B ys.length cb)
  rw [← e2] at b2
  have b1' : Boxed w2 w.heap.size 36 (.slice A xs.length ca) := by rw [e2]; exact b1.alloc _
  have b3 := (Boxed.new w2 91 (.func (.func 77) #[] #[.pointer (some ⟨w.heap.size, 0, none⟩)])).alloc (.cells #[.func (.func 92) #[] #[.pointer (some ⟨w1.heap.size, 0, none⟩)]] 91)
  rw [← e3] at b3
  have b4 := Boxed.new (w2.alloc (.cells #[.func (.func 77) #[] #[.pointer (some ⟨w.heap.size, 0, none⟩)]] 91)) 91 (.func (.func 92) #[] #[.pointer (some ⟨w1.heap.size, 0, none⟩)])
  rw [← e3] at b4
  have b5 : Boxed w3 w.heap.size 36 (.slice A xs.length ca) := by rw [e3]; exact (b1'.alloc _).alloc _
  have b6 : Boxed w3 w1.heap.size 36 (.slice B ys.length cb) := by rw [e3]; exact (b2.alloc _).alloc _
  have s1 : w1.heap.size = w.heap.size + 1 := by rw [e1]; simp
  have s2 : w2.heap.size = w1.heap.size + 1 := by rw [e2]; simp
  have s3 : w3.heap.size = w2.heap.size + 2 := by rw [e3]; simp
  have k1 : Below w.heap.size w w1 := by rw [e1]; exact (Below.refl _ w).alloc (Nat.le_refl _) _
  have k2 : Below w.heap.size w w2 := by rw [e2]; exact k1.alloc (by omega) _
  have k3 : Below w.heap.size w w3 := by rw [e3]; exact (k2.alloc (by omega) _).alloc (by simp; omega) _
  have hx3 := hx.below k3
  have hy3 := hy.below k3
  rw [show w2.heap.size + 1 = (w2.alloc (.cells #[.func (.func 77) #[] #[.pointer (some ⟨w.heap.size, 0, none⟩)]] 91)).heap.size from by simp]
  have ho := outL_len ys
  have hm : xs.length * (outL ys).length ≤ 100 * 101 := Nat.mul_le_mul hlx (by omega)
  have hs := common1_allN 8 (Nat.le_refl _) 77 92 _ _ enter90 enter94 _ _ xs (outL ys) w3 b3 b4
    (fun m hm => values_stops m hm w.heap.size w3.heap.size ca A xs (by omega) w3 (by omega) (Nat.le_refl _) b5.cell hx3 (fun b off e => by have := hA b off e; omega))
    (fun m hm => out1_all m hm w1.heap.size w3.heap.size cb B ys (by omega) w3 (by omega) (Nat.le_refl _) b6.cell hy3 (fun b off e => by have := hB b off e; omega))
  exact (Collect_in 9 (by omega) 91 _ _ _ (by omega) _ w3 w3 hs (Below.refl _ _) (Nat.le_refl _) enter93).mono fun e w' h => coll_after h k3

def setLessL (xs ys : List (Int × Int)) : List (Int × Int) := if setOk xs && setOk ys then meetL xs (outL ys) else []
theorem setLessL_len (xs ys : List (Int × Int)) : (setLessL xs ys).length ≤ 10100 := by
  unfold setLessL
  by_cases h : (setOk xs && setOk ys) = true
  · rw [if_pos h]
    simp only [Bool.and_eq_true] at h
    have h1 := meetL_len (outL ys) xs
    have h3 := outL_len ys
    have h4 := setOk_len h.2
    have h2 : xs.length * (outL ys).length ≤ 100 * 101 := Nat.mul_le_mul (setOk_len h.1) (by omega)
    omega
  · rw [if_neg h]; simp

set_option maxHeartbeats 1000000 in
theorem SetLess_any (A B : Option Addr) (ca cb : Nat) (xs ys : List (Int × Int)) (w : World) (hx : Spans w A xs) (hy : Spans w B ys) (hA : ∀ b off, A = some ⟨b, off, none⟩ → b < w.heap.size) (hB : ∀ b off, B = some ⟨b, off, none⟩ → b < w.heap.size)
    (hlx : xs.length ≤ 1048577) (hly : ys.length ≤ 1048577) :
    Calls Tryz.prog 75 #[.slice A xs.length ca, .slice B ys.length cb] w (Coll w (setLessL xs ys)) := by
  have HX := Lib.hid hx
  have HY := Lib.hid hy
  have HA := Lib.hid hA
  have HB := Lib.hid hB
  obtain ⟨o, ho⟩ : ∃ o, setOk xs = o := ⟨_, rfl⟩
  obtain ⟨o', ho'⟩ : ∃ o, setOk ys = o := ⟨_, rfl⟩
  have Ho := Lib.hid ho
  have Ho' := Lib.hid ho'
  clear hx hy hA hB ho ho'
  go_enter Tryz.func75, Tryz.ntmps75
  go_wp2_with fail
  refine (SetOk_any _ _ _ _ HX.out hlx).mono ?_
  rintro e w1 ⟨rfl, hb1⟩
  rw [Ho.out]
  cases o
  · go_wp2
    go_ret
    have : setLessL xs ys = [] := by simp [setLessL, Ho.out]
    rw [this]
    exact coll_nil _ _ hb1
  · go_wp2_with fail
    refine (SetOk_any _ _ _ _ (HY.out.below hb1) hly).mono ?_
    rintro e w2 ⟨rfl, hb2'⟩
    have hb2 : Below w.heap.size w w2 := hb1.trans (hb2'.mono hb1.size)
    rw [Ho'.out]
    cases o'
    · go_wp2
      go_ret
      have : setLessL xs ys = [] := by simp [setLessL, Ho'.out]
      rw [this]
      exact coll_nil _ _ hb2
    · have hL := Lib.hid (show setLessL xs ys = meetL xs (outL ys) from by simp [setLessL, Ho.out, Ho'.out])
      go_wp2_with fail
      refine (Values_any _ _ _ _).mono ?_
      rintro e w3 ⟨rfl, e3⟩
      have E3 := Lib.hid e3
      clear e3
      go_wp2_with fail
      refine (outside_any _ _ _ _).mono ?_
      rintro e w4 ⟨rfl, e4⟩
      have E4 := Lib.hid e4
      clear e4
      go_wp2_with fail
      refine (common_any _ _ _ rfl rfl).mono ?_
      rintro e w5 ⟨rfl, e5⟩
      have E5 := Lib.hid e5
      clear e5
      go_wp2_with fail
      refine (collect_less A B ca cb xs ys w2 w3 w4 w5 (HX.out.below hb2) (HY.out.below hb2) (fun b off e => Nat.lt_of_lt_of_le (HA.out b off e) hb2.size) (fun b off e => Nat.lt_of_lt_of_le (HB.out b off e) hb2.size) (setOk_len Ho.out) (setOk_len Ho'.out) E3.out E4.out E5.out).mono ?_
      rintro e w6 h6
      obtain ⟨v, rfl, h6'⟩ := coll_after h6 hb2
      have H6 := Lib.hid h6'
      clear h6 h6'
      go_wp2
      go_ret
      rw [hL.out]
      exact ⟨v, rfl, H6.out⟩
end Go.Proofs.YtgclmldhdjmabaaGreat
