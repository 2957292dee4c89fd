/-
  The walks of FnSetHas.
-/
import Derived.Test.YtlbehkdhngeipaaDrawS
import Derived.Test.YtlbehkdhngeipaaLawMeet
namespace Go.Proofs.Ytlbehkdhngeipaa
open Go.RowKit

/-- A drawn list of spans and a number. -/
def DrawnHas (w : World) (e : Ending) (w' : World) : Prop :=
  ∃ zs g cap c, e = .returned (.tuple #[.slice (some ⟨g, 0, none⟩) zs.length cap, .int .i64 c]) ∧ zs.length ≤ 64 ∧ w'.ownsRow w.heap.size 24 2 (.slice (some ⟨g, 0, none⟩) zs.length cap) zs.length (flat zs) ∧ Below w.heap.size w w'
def DrawnOne (w : World) (e : Ending) (w' : World) : Prop :=
  ∃ zs g cap, e = .returned (.slice (some ⟨g, 0, none⟩) zs.length cap) ∧ zs.length ≤ 64 ∧ w'.ownsRow w.heap.size 24 2 (.slice (some ⟨g, 0, none⟩) zs.length cap) zs.length (flat zs) ∧ Below w.heap.size w w'

set_option maxHeartbeats 1000000 in
theorem DrawSetHas_any (A : Option Addr) (cap : Nat) (bs : List Int) (w : World) (h : Bytes w w.heap.size A bs) (hc : bs.length ≤ cap) (hm : cap ≤ maxLen) :
    Calls Try.prog 40 #[.slice A bs.length cap] w (DrawnHas w) := by
  go_enter Try.func40, Try.ntmps40
  go_wp2_with fail
  refine (l20Open_any A cap bs _ h hc hm).mono ?_
  rintro e w1 ⟨zs0, rfl, hrd1, hb1⟩
  go_wp2_with fail
  refine (l20AnySet_any _ zs0 0 _ hrd1 (by omega) (by omega)).mono ?_
  rintro e w2 ⟨zs, g, c, rfl, hll, hol, p', hpa, hpb, hrd2, hgr2⟩
  have hg := hol.lt g rfl
  have hl1 := hrd1.lt
  have Hol := Lib.hid hol
  clear hol
  go_wp2_with fail
  refine (pick_any _ zs0 p' _ _ hrd2 (by omega) (by omega) (by omega) (by omega)).mono ?_
  rintro e w3 ⟨v, rfl, v0, v1, hrd3, hgr3⟩
  have Hol3 := Lib.hid (Hol.out.kept hgr3 (.inr (by simp [Value.ownBlock]; omega)))
  have HB := Lib.hid (grown_below hb1 (grown_trans hgr2 hgr3) (Nat.le_refl _))
  clear hgr2 hgr3 hrd1 hrd2 hrd3 Hol
  go_wp2
  go_ret2
  exact ⟨zs, g, c, v - 1, rfl, hll, owns_base Hol3.out (by have := hb1.size; omega), HB.out⟩

set_option maxHeartbeats 1000000 in
theorem DrawSetMany_any (A : Option Addr) (cap : Nat) (bs : List Int) (w : World) (h : Bytes w w.heap.size A bs) (hc : bs.length ≤ cap) (hm : cap ≤ maxLen) :
    Calls Try.prog 48 #[.slice A bs.length cap] w (DrawnOne w) := by
  go_enter Try.func48, Try.ntmps48
  go_wp2_with fail
  refine (l20Open_any A cap bs _ h hc hm).mono ?_
  rintro e w1 ⟨zs0, rfl, hrd1, hb1⟩
  go_wp2_with fail
  refine (l20AnySet_any _ zs0 0 _ hrd1 (by omega) (by omega)).mono ?_
  rintro e w2 ⟨zs, g, c, rfl, hll, hol, p', hpa, hpb, hrd2, hgr2⟩
  have hg := hol.lt g rfl
  have hl1 := hrd1.lt
  have Hol := Lib.hid hol
  have HB := Lib.hid (grown_below hb1 hgr2 (Nat.le_refl _))
  clear hol hgr2 hrd1 hrd2
  go_wp2
  go_ret
  exact ⟨zs, g, c, rfl, hll, owns_base Hol.out (by have := hb1.size; omega), HB.out⟩

theorem has_any_ok {zs : List (Int × Int)} {c : Int} (h : setOk zs = true) : anyIn zs c = setHas zs c := by simp [setHas, h, anyIn]

set_option maxHeartbeats 2000000 in
theorem FnSetHas_any (A : Option Addr) (n cap : Nat) (bs : List Int) (w : World) (hz : Bytes w w.heap.size A bs ∧ bs.length = n ∧ n ≤ cap ∧ cap ≤ maxLen) :
    Calls Try.prog 7 #[.slice A n cap] w fun e w' => e = .returned (.bool true) ∧ Below w.heap.size w w' := by
  obtain ⟨hz, rfl, hc, hm⟩ := hz
  have hm' := hm
  unfold maxLen at hm'
  by_cases hl : (1048576 : Int) < bs.length
  · go_enter Try.func7, Try.ntmps7
    go_wp2
    go_ret
    exact ⟨rfl, Below.refl _ _⟩
  · go_enter Try.func7, Try.ntmps7
    go_wp2_with fail
    refine (DrawSetHas_any A cap bs w hz hc hm).mono ?_
    rintro e w1 ⟨zs, g, c, at_, rfl, hzl, hol, hb1⟩
    have hs1 := spans_of_owns hol rfl
    clear hol
    have hzl' : zs.length ≤ 1048577 := by omega
    go_wp2_with fail
    refine (SetHas_any _ _ zs at_ _ hs1 hzl').mono ?_
    rintro e w2 ⟨rfl, hb2⟩
    have hs2 := hs1.below hb2
    have hB2 := hb1.trans (hb2.mono hb1.size)
    clear hb1 hb2 hs1
    go_wp2_with fail
    refine (sSetHas_any _ _ zs at_ _ hs2 hzl').mono ?_
    rintro e w3 ⟨rfl, hb3⟩
    have hs3 := hs2.below hb3
    have hB3 := hB2.trans (hb3.mono hB2.size)
    clear hB2 hb3 hs2
    obtain ⟨o, ho⟩ : ∃ o, setOk zs = o := ⟨_, rfl⟩
    have Ho := Lib.hid ho
    clear ho
    go_wp2_with fail
    refine (SetOk_any _ _ zs _ hs3 hzl').mono ?_
    rintro e w4 ⟨rfl, hb4⟩
    have hs4 := hs3.below hb4
    have hB4 := hB3.trans (hb4.mono hB3.size)
    clear hB3 hb4 hs3
    rw [Ho.out]
    cases o
    · go_wp2_with fail
      refine (sSetHas_any _ _ zs at_ _ hs4 hzl').mono ?_
      rintro e w5 ⟨rfl, hb5⟩
      have HB := Lib.hid (hB4.trans (hb5.mono hB4.size))
      clear hB4 hb5
      go_wp2
      go_ret
      exact ⟨rfl, HB.out⟩
    · have he := has_any_ok (c := at_) Ho.out
      have He := Lib.hid he
      clear he
      go_wp2_with fail
      refine (vaIn_any _ _ zs at_ _ hs4 (by unfold maxLen; omega)).mono ?_
      rintro e w5 ⟨rfl, rfl⟩
      rw [He.out]
      go_wp2
      go_ret
      exact ⟨rfl, hB4⟩
end Go.Proofs.Ytlbehkdhngeipaa
