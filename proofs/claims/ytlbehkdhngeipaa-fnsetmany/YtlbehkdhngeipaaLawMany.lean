/-
  The walk of FnSetMany.
-/
import Derived.Test.YtlbehkdhngeipaaLawHas
import Derived.Test.YtlbehkdhngeipaaCountL
namespace Go.Proofs.Ytlbehkdhngeipaa
open Go.RowKit

set_option maxRecDepth 100000 in
set_option maxHeartbeats 2000000 in
theorem FnSetMany_any (A : Option Addr) (n cap : Nat) (bs : List Int) (w : World) (hz : Bytes w w.heap.size A bs ∧ bs.length = n ∧ n ≤ cap ∧ cap ≤ maxLen) :
    Calls Try.prog 10 #[.slice A n cap] w fun e w' => e = .returned (.bool true) ∧ Below w.heap.size w w' := by
  obtain ⟨hz, rfl, hc, hm⟩ := hz
  have hm' := hm
  unfold maxLen at hm'
  by_cases hl : (1048576 : Int) < bs.length
  · go_enter Try.func10, Try.ntmps10
    go_wp2
    go_ret
    exact ⟨rfl, Below.refl _ _⟩
  · go_enter Try.func10, Try.ntmps10
    go_wp2_with fail
    refine (DrawSetMany_any A cap bs w hz hc hm).mono ?_
    rintro e w1 ⟨zs, g, c, rfl, hzl, hol, hb1⟩
    have hs1 := spans_of_owns hol rfl
    clear hol
    have hzl' : zs.length ≤ 1048577 := by omega
    go_wp2_with fail
    refine (SetMany_any _ _ zs _ hs1 hzl').mono ?_
    rintro e w2 ⟨rfl, hb2⟩
    have hs2 := hs1.below hb2
    have hB2 := hb1.trans (hb2.mono hb1.size)
    clear hb1 hb2 hs1
    go_wp2_with fail
    refine (sSetMany_any _ _ zs _ hs2 hzl').mono ?_
    rintro e w3 ⟨rfl, hb3⟩
    have hs3 := hs2.below hb3
    have hB3 := hB2.trans (hb3.mono hB2.size)
    clear hB2 hb3 hs2
    obtain ⟨o, ho⟩ : ∃ o, setOk zs = o := ⟨_, rfl⟩
    have Ho := Lib.hid ho
    clear ho
    cases o
    · have he : setMany zs = -1 := (setMany_bad Ho.out).symm
      have He := Lib.hid he
      clear he
      rw [He.out]
      go_wp2_with fail
      refine (sSetMany_any _ _ zs _ hs3 hzl').mono ?_
      rintro e w5 ⟨rfl, hb5⟩
      rw [He.out]
      have HB := Lib.hid (hB3.trans (hb5.mono hB3.size))
      clear hB3 hb5
      go_wp2
      go_ret
      exact ⟨rfl, HB.out⟩
    · have he := cnt_many Ho.out
      have hbd := cnt_bd zs 100
      rw [← he]
      have Hn := Lib.hid hbd.1
      obtain ⟨M, hM⟩ : ∃ M, cntTo zs 100 = M := ⟨_, rfl⟩
      rw [hM]
      rw [hM] at hbd
      have HM := Lib.hid hM
      have hM0 := hbd.1
      have hd : decide (M < 0) = false := decide_eq_false (by omega)
      clear he hbd hM Hn
      go_wp2
      go_loopw [5, 6] (fun k i wr => ∃ m : Nat, m ≤ 100 ∧ i = .int .i64 m ∧ k = .int .i64 (cntTo zs m) ∧ Below w3.heap.size w3 wr) (fun _ i _ => 100 - (intOf i).toNat)
      case atStart => exact ⟨0, Nat.zero_le _, rfl, rfl, Below.refl _ _⟩
      case round =>
        obtain ⟨m, hm, rfl, rfl, hbr⟩ := hrel
        have hsr := hs3.below hbr
        have hcb := cnt_bd zs m
        by_cases hlt : m < 100
        · obtain ⟨t, ht⟩ : ∃ t, setHas zs m = t := ⟨_, rfl⟩
          have hcs : cntTo zs (m + 1) = cntTo zs m + (if setHas zs m then 1 else 0) := rfl
          rw [ht] at hcs
          generalize cntTo zs m = C at *
          have Ht := Lib.hid ht
          have Hcs := Lib.hid hcs
          clear ht hcs
          go_wp2_with fail
          refine (SetHas_any _ _ zs m _ hsr hzl').mono ?_
          rintro e w4 ⟨rfl, hb4⟩
          have HB := Lib.hid (hbr.trans (hb4.mono hbr.size))
          clear hb4 hsr hbr
          rw [Ht.out]
          cases t
          · go_wp2
            go_roundw
            case rel => exact ⟨m + 1, by omega, by go_num, by rw [Hcs.out]; simp, HB.out⟩
            case measure => simp [intOf]; omega
          · go_wp2
            go_roundw
            case rel => exact ⟨m + 1, by omega, by go_num, by rw [Hcs.out]; simp, HB.out⟩
            case measure => simp [intOf]; omega
        · obtain rfl : m = 100 := by omega
          rw [HM.out]
          have HB := Lib.hid (hB3.trans (hbr.mono hB3.size))
          clear hB3 hbr
          go_wp2
          go_ret
          exact ⟨rfl, HB.out⟩
end Go.Proofs.Ytlbehkdhngeipaa
