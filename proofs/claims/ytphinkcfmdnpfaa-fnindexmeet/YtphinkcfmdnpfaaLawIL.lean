/-
  The walk of FnIndexLooks.
-/
import Derived.Test.YtphinkcfmdnpfaaIdxV
import Derived.Test.YtphinkcfmdnpfaaDrawX
import Derived.Test.YtphinkcfmdnpfaaLawRM
import Derived.Test.YtphinkcfmdnpfaaLawMeet
namespace Go.Proofs.Ytphinkcfmdnpfaa
open Go.Shelf Go.RowKit Go.Lib

theorem looks_zero {x : List NodV} {z : NodV} {l : List NodV} (h : idxB x = true) (hx : x = z :: l) (h2 : z.o ≤ 99) : metR x z.o 100 = ([], 0) := by
  obtain ⟨t, ht, hxt, e0⟩ := idx_known h
  have hf := (index_first ht (x := z) (l := l) (by rw [← hxt]; exact hx)).1
  have h0 : 0 ≤ z.o := by rw [hf]; exact (lastR_facts _ 0).1
  have hok : okB z.o 100 = true := by unfold okB; rw [decide_eq_true_eq]; omega
  rw [metR_in h hok]
  have hl := (treeN_facts h).1
  cases hT : treeN x with
  | nil =>
    rw [hT] at hl
    have hl : ([] : List NodV) = x := hl
    rw [← hl] at hx
    cases hx
  | node y l1 r1 =>
    rw [hT] at hl
    have hy : y = z := by
      have : y :: (l1.list ++ r1.list) = z :: l := (show y :: (l1.list ++ r1.list) = x from hl).trans hx
      injection this
    rw [meetT_far (by rw [hy]; exact Int.le_refl _)]
    rfl
theorem metR_neg {x : List NodV} {a e : Int} (h : ¬ (metR x a e).2 < 0) : idxB x = true ∧ okB a e = true := by
  cases h1 : idxB x with
  | false => rw [metR_off h1] at h; exact absurd (by decide) h
  | true =>
    cases h2 : okB a e with
    | false => rw [metR_bad h1 h2] at h; exact absurd (by decide) h
    | true => exact ⟨rfl, rfl⟩

set_option maxRecDepth 100000 in
set_option maxHeartbeats 8000000 in
theorem FnIndexLooks_any (A : Option Addr) (n cap : Nat) (bs : List Int) (w : World) (hz : Bytes w w.heap.size A bs ∧ bs.length = n ∧ n ≤ cap ∧ cap ≤ maxLen) :
    Calls Try.prog 13 #[.slice A n cap] w fun e w' => e = .returned (.bool true) ∧ Below w.heap.size w w' := by
  obtain ⟨hz, rfl, hc, hm⟩ := hz
  have hm' := hm
  unfold maxLen at hm'
  by_cases hl0 : (1048576 : Int) < bs.length
  · go_enter Try.func13, Try.ntmps13
    go_wp2
    go_ret
    exact ⟨rfl, Below.refl _ _⟩
  · go_enter Try.func13, Try.ntmps13
    go_wp2_with fail
    refine (DrawIndexMeet_any A cap bs w hz hc hm).mono ?_
    rintro e w0 ⟨xs, A1, c1, a, b, rfl, hla, hsx, hox, hb0⟩
    have X0 := Lib.hid (show NodsA w0 A1 xs from el_of_owns nodC_len hox)
    have HCP := Lib.hid (owns_cap hox)
    have HSX := Lib.hid hsx
    have hla' : xs.length ≤ 1048577 := by omega
    have hML := metR_len xs a b
    have HNG := Lib.hid (metR_neg (x := xs) (a := a) (e := b))
    obtain ⟨M, hM⟩ : ∃ M, metR xs a b = M := ⟨_, rfl⟩
    have HM := Lib.hid hM
    rw [hM] at hML HNG
    obtain ⟨ms, mn⟩ := M
    dsimp only at hML HNG
    have hml : ms.length ≤ 1048577 := by omega
    have hs0 := hb0.size
    clear hox hsx hz hc hm hm' hM
    go_wp2_with fail
    generalize hW : World.alloc _ _ = W0
    have s0 : W0.cell? ⟨w0.heap.size, 0, none⟩ = some (.int .i64 a) := by rw [← hW]; simp [go_sem]
    have s1 : W0.cell? ⟨w0.heap.size, 1, none⟩ = some (.int .i64 b) := by rw [← hW]; simp [go_sem]
    have ls : w0.heap.size < W0.heap.size := by rw [← hW]; simp
    have hbW : Below w0.heap.size w0 W0 := by rw [← hW]; exact (Below.refl _ _).alloc (Nat.le_refl _) _
    have B0 := Lib.hid (hb0.trans (hbW.mono hs0))
    have X1 := Lib.hid (X0.out.below hbW)
    clear hW hbW hb0 X0 hs0
    refine (IndexMeet_any A1 c1 xs a b W0 X1.out hla' HSX.out).mono ?_
    rw [HM.out]
    rintro e w1 ⟨A3, c3, rfl, ho, hb⟩
    have L2 := Lib.hid (show RowsA w1 A3 ms from el_of_owns rowC_len ho)
    have X2 := Lib.hid (X1.out.below hb)
    have B2 := Lib.hid (B0.out.trans (hb.mono B0.out.size))
    replace s0 := cellBelow hb ls s0
    replace s1 := cellBelow hb ls s1
    replace ls : w0.heap.size < w1.heap.size := Nat.lt_of_lt_of_le ls hb.size
    clear ho hb B0 X1
    go_wp2_with fail
    refine (sIndexMeet_any A1 c1 xs a b w1 X2.out HCP.out hla' HSX.out).mono ?_
    rw [HM.out]
    rintro e w2 ⟨A4, c4, rfl, ho, hb⟩
    have W3 := Lib.hid (show RowsA w2 A4 ms from el_of_owns rowC_len ho)
    have L3 := Lib.hid (L2.out.below hb)
    have X3 := Lib.hid (X2.out.below hb)
    have B3 := Lib.hid (B2.out.trans (hb.mono B2.out.size))
    clear ho hb B2 X2 L2 s0 s1 ls
    go_wp2_with fail
    refine (vaRows_any _ _ _ _ ms ms _ L3.out W3.out hml).mono ?_
    rintro e w3 ⟨v3, hv3, rfl, hb⟩
    obtain rfl : v3 = true := hv3.2 rfl
    have W4 := Lib.hid (W3.out.below hb)
    have L4 := Lib.hid (L3.out.below hb)
    have X4 := Lib.hid (X3.out.below hb)
    have B4 := Lib.hid (B3.out.trans (hb.mono B3.out.size))
    clear hv3 hb B3 X3 L3 W3
    by_cases h1 : mn < 0
    · have n1 : decide (mn < 0) = true := decide_eq_true h1
      go_wp2_with fail
      refine (vaRows_any _ _ _ _ ms ms _ L4.out W4.out hml).mono ?_
      rintro e w5 ⟨v3, hv3, rfl, hb⟩
      obtain rfl : v3 = true := hv3.2 rfl
      have BZ := Lib.hid (B4.out.trans (hb.mono B4.out.size))
      clear hb hv3
      go_wp2
      go_ret
      exact ⟨rfl, BZ.out⟩
    · have HIX := Lib.hid (HNG.out (by omega))
      by_cases h2 : xs.length = 0
      · have z0 : ((xs.length : Int) == 0) = true := by rw [h2]; rfl
        go_wp2_with fail
        refine (vaRows_any _ _ _ _ ms ms _ L4.out W4.out hml).mono ?_
        rintro e w5 ⟨v3, hv3, rfl, hb⟩
        obtain rfl : v3 = true := hv3.2 rfl
        have BZ := Lib.hid (B4.out.trans (hb.mono B4.out.size))
        clear hb hv3
        go_wp2
        go_ret
        exact ⟨rfl, BZ.out⟩
      · obtain ⟨bk, off, x, rfl, hbk, hxk, d0, d1, d2, d3, d4, d5⟩ := X4.out.at_ (show 0 < xs.length by omega)
        obtain ⟨l, hl⟩ : ∃ l, xs = x :: l := by
          cases xs with
          | nil => simp at h2
          | cons z l => exact ⟨l, by simpa using hxk⟩
        have HLZ := Lib.hid (fun h => looks_zero HIX.out.1 hl (z := x) h)
        simp only [Nat.zero_mul, Nat.add_zero] at d5
        have z0 : ((xs.length : Int) == 0) = false := by rw [beq_eq_false_iff_ne]; omega
        have z1 : (0 : Int) < (xs.length : Int) := by omega
        clear hl hxk d0 d1 d2 d3 d4
        by_cases h3 : (99 : Int) < x.o
        · clear HLZ
          go_wp2_with fail
          refine (vaRows_any _ _ _ _ ms ms _ L4.out W4.out hml).mono ?_
          rintro e w5 ⟨v3, hv3, rfl, hb⟩
          obtain rfl : v3 = true := hv3.2 rfl
          have BZ := Lib.hid (B4.out.trans (hb.mono B4.out.size))
          clear hb hv3
          go_wp2
          go_ret
          exact ⟨rfl, BZ.out⟩
        · have HLZ2 := Lib.hid (HLZ.out (by omega))
          clear HLZ
          go_wp2_with fail
          refine (IndexMeet_any _ c1 xs x.o 100 w3 X4.out hla' HSX.out).mono ?_
          rw [HLZ2.out]
          rintro e w5 ⟨A5, c5, rfl, ho, hb⟩
          have BZ := Lib.hid (B4.out.trans (hb.mono B4.out.size))
          clear ho hb
          go_wp2
          go_ret
          exact ⟨rfl, BZ.out⟩
end Go.Proofs.Ytphinkcfmdnpfaa
