/-
  Walks: a table's keys, as the model has them.
-/
import Derived.Test.YtgclmldhdjmabaaRelKeys
namespace Go.Proofs.Ytgclmldhdjmabaa
open Go.RowKit

def OkOr (o : Bool) (k : Nat) : Prop := o = true ∨ k = 0
theorem ownsDrewN {w : World} {base n : Nat} {v : Value} {xs : List Value} {e : TypeId} {size : Nat} (h : w.ownsRow base e size v n xs) (k : Nat) : (w.drewN k).ownsRow base e size v n xs := h

set_option maxRecDepth 100000 in
set_option maxHeartbeats 4000000 in
theorem sRelKeys_any (A : Option Addr) (cap : Nat) (zs : List RowV) (w : World) (hz : RowsA w A zs) (hl : zs.length ≤ 1048577) (hs : ∀ r ∈ zs, r.k.size ≤ maxLen ∧ r.t.size ≤ maxLen) :
    Calls Try.prog 41 #[.slice A zs.length cap] w (GetsE textC 1 9 w (relKeysL zs)) := by
  obtain ⟨i0, hi, hz0, hz1, hz2⟩ := info_parts Try.infoT9
  have Hi := Lib.hid hi
  have Hz0 := Lib.hid hz0
  have Hz1 := Lib.hid hz1
  have Hz2 := Lib.hid hz2
  have HZ := Lib.hid hz
  have HS := Lib.hid hs
  obtain ⟨o, ho⟩ : ∃ o, relOk zs = o := ⟨_, rfl⟩
  have HO := Lib.hid ho
  clear hi hz0 hz1 hz2 hz hs ho
  go_enter Try.func41, Try.ntmps41
  go_wp2
  go_loopw [3, 4] (fun v i wr => ∃ k : Nat, k ≤ zs.length ∧ i = .int .i64 k ∧ wr.ownsRow w.heap.size 9 1 v (keysTo zs k).length (flatOf textC (keysTo zs k)) ∧ OkOr o k ∧ Below w.heap.size w wr) (fun _ i _ => zs.length - (intOf i).toNat)
  case atStart =>
    refine ⟨0, Nat.zero_le _, rfl, ?_, .inr rfl, (Below.refl _ _).alloc (Nat.le_refl _) _⟩
    have := World.ownsRow_lit (base := w.heap.size) (e := 9) (size := 1) w #[] 0 (by simp) (by simp [maxLen]) (by simp)
    simpa [flatOf, keysTo_zero] using this
  case round =>
    obtain ⟨k, hk, rfl, hown, hok, hbr⟩ := hrel
    have Hown := Lib.hid hown
    have Hok := Lib.hid hok
    clear hown hok
    by_cases hlt : k < zs.length
    · cases o
      · have hk0 : k = 0 := by rcases Hok.out with h | h; cases h; exact h
        have HK := Lib.hid hk0
        clear hk0
        go_wp2_with fail
        refine (l2Ok_any _ _ _ _ (HZ.out.below hbr) hl HS.out).mono ?_
        rintro e w2 ⟨rfl, hb2⟩
        rw [HO.out]
        have O2 := Lib.hid (ownsKeep Hown.out hb2)
        have B2 := Lib.hid (hbr.trans (hb2.mono hbr.size))
        have HR := Lib.hid (show relKeysL zs = keysTo zs k from by rw [HK.out, keysTo_zero]; simp [relKeysL, HO.out])
        clear hb2
        obtain ⟨A', c', hv⟩ := owns_sliceE O2.out
        subst hv
        go_wp2
        go_ret
        rw [HR.out]
        exact ⟨A', c', rfl, O2.out, B2.out⟩
      · have hlo := keysTo_len zs k
        go_wp2_with fail
        refine (l2Ok_any _ _ _ _ (HZ.out.below hbr) hl HS.out).mono ?_
        rintro e w2 ⟨rfl, hb2⟩
        rw [HO.out]
        have O2 := Lib.hid (ownsKeep Hown.out hb2)
        have hbw : Below w.heap.size w w2 := hbr.trans (hb2.mono hbr.size)
        clear hb2 Hown hbr
        obtain ⟨b, off, x, rfl, hb, hx, c0, c1, c2, c3⟩ := (HZ.out.below hbw).at_ hlt
        have B2 := Lib.hid hbw
        clear hbw c1 c2 c3
        by_cases hk0 : k = 0
        · have HT := Lib.hid (show keysTo zs (k + 1) = keysTo zs k ++ [x.k] from by subst hk0; rw [keysTo_first hx, keysTo_zero]; rfl)
          have hl0 : (keysTo zs k).length = 0 := by omega
          obtain ⟨oo, hoo⟩ : ∃ oo, keysTo zs k = oo := ⟨_, rfl⟩
          rw [hoo] at O2 HT hl0 hlo
          clear hoo hx hk0
          obtain rfl : oo = [] := List.length_eq_zero_iff.1 hl0
          clear hl0 hlo
          obtain ⟨A', c', hv⟩ := owns_sliceE O2.out
          subst hv
          go_wp2_with fail
          go_quiet (fail)
          have P2 := Lib.hid (ownsDrewN O2.out nq)
          have D2 := Lib.hid (below_drewN B2.out nq)
          have c0' : (w2.drewN nq).cell? ⟨b, off + k * 4, none⟩ = some (.string x.k) := c0
          have hs2 := D2.out.size
          clear O2 B2 c0
          generalize w2.drewN nq = w5 at *
          go_wp2_with (at_builtin; refine wpList_append_own _ rfl _ _ 55 rfl w.heap.size 9 i0 _ 1 16 Try.underlying55 Hi.out Hz0.out Hz1.out Hz2.out rfl (by decide) _ 0 (flatOf textC []) rfl (P2.out.alloc _) ⟨w5.heap.size, 0, none⟩ 1 1 [.string x.k] rfl rfl (newsOne (by simp)) (by simp [Value.oneCell']) (by unfold maxLen; omega) (by omega) (by simp; omega) ?_; intro v' w3 hown' hgrow hnil)
          have O3 := Lib.hid (ownTexts (o := []) (x := x.k) hown' rfl)
          have B3 := Lib.hid ((D2.out.alloc hs2 _).grown hgrow (by simp; omega) (fun i e => by have := (P2.out.lt i e).1; omega))
          clear hown' hgrow hnil
          refine ⟨⟨k + 1, by omega, by simp, ?_, .inl rfl, ?_⟩, ?_⟩
          · rw [HT.out]; exact O3.out
          · exact B3.out
          · simp [intOf]; omega
        · have hy : zs[k - 1]? = some zs[k - 1] := List.getElem?_eq_getElem (by omega)
          obtain ⟨y, hyy⟩ : ∃ y, zs[k - 1] = y := ⟨_, rfl⟩
          rw [hyy] at hy
          obtain ⟨l, hla⟩ := keysTo_last (k - 1) hy
          rw [show k - 1 + 1 = k from by omega] at hla
          have HTn := fun h => keysTo_new hx hy h
          have HTs := fun h => keysTo_same (by omega) hx hy h
          rw [hla] at HTn HTs O2 hlo
          clear hyy hla hx hy
          have hll : (l ++ [y.k]).length = l.length + 1 := by simp
          have hnz : decide ((l ++ [y.k]).length = 0) = false := by rw [hll]; simp
          obtain ⟨g, c', hv, hg, hgl⟩ := ownsForm O2.out (fun e => by
            rcases O2.out.2 with ⟨_, h0⟩ | ⟨g, c', cur, e', _⟩
            · rw [hll] at h0; omega
            · rw [e] at e'; cases e')
          subst hv
          have ce : w2.cell? ⟨g, l.length, none⟩ = some (.string y.k) := by
            rw [O2.out.cellAt l.length (by rw [hll]; omega), flatOf_append, flatOf_one, List.getElem?_append_right (by rw [flatOf_length textC_len]; omega), flatOf_length textC_len]
            simp [textC]
          rw [hll] at O2 hlo ⊢
          obtain ⟨n, hn⟩ : ∃ n, l.length + 1 = n := ⟨_, rfl⟩
          have Hn := Lib.hid hn
          have hnl : l.length = n - 1 := by omega
          have hnp : 0 < n := by omega
          rw [hn] at O2 hlo ⊢
          rw [hnl] at ce
          clear hnz hll hn hnl
          have q0 : ((n : Int) == 0) = false := by simp; omega
          have q1 : decide ((n : Int) = 0) = false := by simp; omega
          have q2 : (0 : Int) ≤ (n : Int) - 1 := by omega
          have q3 : (n : Int) - 1 < (n : Int) := by omega
          have q4 : ((n : Int) - 1).toNat = n - 1 := by omega
          have q5 : (n == 0) = false := by simp; omega
          have q6 : (1 : Int) ≤ (n : Int) := by omega
          cases hkey : (y.k.toList == x.k.toList)
          · have HT := Lib.hid (HTn hkey)
            clear HTn HTs
            go_wp2_with fail
            go_quiet (fail)
            have P2 := Lib.hid (ownsDrewN O2.out nq)
            have D2 := Lib.hid (below_drewN B2.out nq)
            have c0' : (w2.drewN nq).cell? ⟨b, off + k * 4, none⟩ = some (.string x.k) := c0
            have hs2 := D2.out.size
            clear O2 B2 c0 ce
            generalize w2.drewN nq = w5 at *
            go_wp2_with (at_builtin; refine wpList_append_own _ rfl _ _ 55 rfl w.heap.size 9 i0 _ 1 16 Try.underlying55 Hi.out Hz0.out Hz1.out Hz2.out rfl (by decide) _ n (flatOf textC (l ++ [y.k])) rfl (P2.out.alloc _) ⟨w5.heap.size, 0, none⟩ 1 1 [.string x.k] rfl rfl (newsOne (by simp)) (by simp [Value.oneCell']) (by unfold maxLen; omega) (by omega) (by simp; omega) ?_; intro v' w3 hown' hgrow hnil)
            have O3 := Lib.hid (ownTexts (o := l ++ [y.k]) (x := x.k) hown' (by rw [List.length_append, List.length_singleton, Hn.out]))
            have B3 := Lib.hid ((D2.out.alloc hs2 _).grown hgrow (by simp; omega) (fun i e => by have := (P2.out.lt i e).1; omega))
            clear hown' hgrow hnil
            refine ⟨⟨k + 1, by omega, by simp, ?_, .inl rfl, ?_⟩, ?_⟩
            · rw [HT.out]; exact O3.out
            · exact B3.out
            · simp [intOf]; omega
          · have HT := Lib.hid (HTs hkey)
            clear HTn HTs
            go_wp2_with fail
            go_quiet (fail)
            have P2 := Lib.hid (ownsDrewN O2.out nq)
            have D2 := Lib.hid (below_drewN B2.out nq)
            clear O2 B2 c0 ce
            generalize w2.drewN nq = w5 at *
            go_wp2
            go_roundw
            case rel => exact ⟨k + 1, by omega, by go_num, (by rw [HT.out, List.length_append, List.length_singleton, Hn.out]; exact P2.out), .inl rfl, D2.out⟩
            case measure => simp [intOf]; omega
    · obtain rfl : k = zs.length := by omega
      have HR := Lib.hid (show relKeysL zs = keysTo zs zs.length from by
        rcases Hok.out with h | h
        · simp [relKeysL, HO.out, h]
        · have : zs = [] := List.length_eq_zero_iff.1 h
          subst this
          simp [relKeysL, keysTo_zero])
      obtain ⟨A', c', hv⟩ := owns_sliceE Hown.out
      subst hv
      go_wp2
      go_ret
      rw [HR.out]
      exact ⟨A', c', rfl, Hown.out, hbr⟩
end Go.Proofs.Ytgclmldhdjmabaa
