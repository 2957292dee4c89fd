/-
  Walk: nodes held against nodes, as the laws do it.
-/
import Derived.Test.YtphinkcfmdnpfaaIdxE
namespace Go.Proofs.Ytphinkcfmdnpfaa
open Go.Shelf Go.RowKit Go.Lib

set_option maxRecDepth 100000 in
set_option maxHeartbeats 4000000 in
theorem vaNodes_any (A B : Option Addr) (ca cb : Nat) (xs ys : List NodV) (w : World) (hx : NodsA w A xs) (hy : NodsA w B ys) (hl : xs.length ≤ maxLen) :
    Calls Try.prog 50 #[.slice A xs.length ca, .slice B ys.length cb] w fun e w' => e = .returned (.bool (eqNs xs ys)) ∧ Below w.heap.size w w' := by
  have HX := Lib.hid hx
  have HY := Lib.hid hy
  unfold maxLen at hl
  clear hx hy
  by_cases hn : xs.length = ys.length
  · have HN := Lib.hid hn
    have hz : ((xs.length : Int) == (ys.length : Int)) = true := by rw [hn]; simp
    obtain ⟨m, hm⟩ : ∃ m, ys.length = m := ⟨_, rfl⟩
    have HM := Lib.hid hm
    rw [hm] at hn hz
    rw [hn] at hl hz ⊢
    rw [hm]
    clear hn hm
    have HNX := Lib.hid (show xs.length = m from HN.out.trans HM.out)
    go_enter Try.func50, Try.ntmps50
    go_wp2
    go_loopw [5] (fun i wr => ∃ k : Nat, k ≤ m ∧ i = .int .i64 k ∧ eqNs xs ys = eqNs (xs.drop k) (ys.drop k) ∧ Below w.heap.size w wr) (fun i _ => m - (intOf i).toNat)
    case atStart => exact ⟨0, Nat.zero_le _, rfl, rfl, Below.refl _ _⟩
    case round =>
      obtain ⟨k, hk, rfl, heq, hbr⟩ := hrel
      have HE := Lib.hid heq
      clear heq
      by_cases hlt : k < m
      · obtain ⟨b, off, x, rfl, hb, hxk, c0, c1, c2, c3, c4, c5⟩ := (HX.out.below hbr).at_ (show k < xs.length by rw [HNX.out]; exact hlt)
        obtain ⟨b', off', y, rfl, hb', hyk, d0, d1, d2, d3, d4, d5⟩ := (HY.out.below hbr).at_ (show k < ys.length by rw [HM.out]; exact hlt)
        have HD := Lib.hid (show eqNs xs ys = (sameNod x y && eqNs (xs.drop (k + 1)) (ys.drop (k + 1))) from by
          rw [HE.out, drop_atN hxk, drop_atN hyk]; rfl)
        have hkz : (k : Int) < (m : Int) := by omega
        have hkz0 : (0 : Int) ≤ (k : Int) := by omega
        have BR := Lib.hid hbr
        obtain ⟨v, hv⟩ : ∃ v, sameNod x y = v := ⟨_, rfl⟩
        have hE : ∀ W, (Op.equalIn 10000 72 (.agg #[.string x.r.k, .string x.r.t, .int .i64 x.r.f, .int .i64 x.r.e, .int .i64 x.i, .int .i64 x.o]) (.agg #[.string y.r.k, .string y.r.t, .int .i64 y.r.f, .int .i64 y.r.e, .int .i64 y.i, .int .i64 y.o])).run Try.prog W = .ok v W := fun W => by rw [← hv]; exact eqNod_at x y W
        rw [hv] at HD
        clear hxk hyk hbr hv HE
        go_wp2_with fail
        go_quiet (fail)
        have BN := Lib.hid (show Below w.heap.size w (wr.drewN nq) from below_drewN BR.out _)
        cases v
        · go_wp2
          go_ret
          rw [HD.out]
          exact ⟨rfl, BN.out⟩
        · go_wp2
          go_roundw
          case rel => exact ⟨k + 1, by omega, by go_num, by rw [HD.out]; rfl, BN.out⟩
          case measure => simp [intOf]; omega
      · have e : k = m := by omega
        subst e
        have BR := Lib.hid hbr
        clear hbr
        go_wp2
        go_ret
        refine ⟨?_, BR.out⟩
        rw [HE.out, List.drop_of_length_le (by rw [HNX.out]; omega), List.drop_of_length_le (by rw [HM.out]; omega)]
        rfl
  · have HF := Lib.hid (eqNs_len hn)
    have hz : ((xs.length : Int) == (ys.length : Int)) = false := by rw [beq_eq_false_iff_ne]; omega
    clear hn
    go_enter Try.func50, Try.ntmps50
    go_wp2
    go_ret
    rw [HF.out]
    exact ⟨rfl, Below.refl _ _⟩

end Go.Proofs.Ytphinkcfmdnpfaa
