/-
  Walks: whether all keys but one have the same rows in two tables.
-/
import Derived.Test.YtgclmldhdjmabaaLawRM
import Derived.Test.YtgclmldhdjmabaaRelG
import Derived.Test.YtgclmldhdjmabaaCutS
namespace Go.Proofs.Ytgclmldhdjmabaa
open Go.Shelf Go.RowKit Go.Lib Go.Sort

set_option maxRecDepth 100000 in
set_option maxHeartbeats 4000000 in
theorem vaOthers_any (A B : Option Addr) (cap cap' : Nat) (xs ys : List RowV) (key : ByteArray) (w : World) (hz : RowsA w A xs) (hz' : RowsA w B ys) (hl : xs.length ≤ 1000) (hl' : ys.length ≤ 1000) :
    Calls Try.prog 31 #[.slice A xs.length cap, .slice B ys.length cap', .string key] w (SaysE (othersL xs key) (othersL ys key) w) := by
  obtain ⟨i0, hi, hz0, hz1, hz2⟩ := info_parts Try.infoR34
  have Hi := Lib.hid hi
  have Hz0 := Lib.hid hz0
  have Hz1 := Lib.hid hz1
  have Hz2 := Lib.hid hz2
  have HZ := Lib.hid hz
  have HY := Lib.hid hz'
  clear hi hz0 hz1 hz2 hz hz'
  go_enter Try.func31, Try.ntmps31
  go_wp2
  go_loopw [7, 8] (fun v i wr => ∃ k : Nat, k ≤ xs.length ∧ i = .int .i64 k ∧ wr.ownsRow w.heap.size 34 4 v (othersL (xs.take k) key).length (flatOf rowC (othersL (xs.take k) key)) ∧ Below w.heap.size w wr) (fun _ i _ => xs.length - (intOf i).toNat)
  case atStart =>
    refine ⟨0, Nat.zero_le _, rfl, ?_, (Below.refl _ _).alloc (Nat.le_refl _) _⟩
    have := World.ownsRow_lit (base := w.heap.size) (e := 34) (size := 4) w #[] 0 (by simp) (by simp [maxLen]) (by simp)
    simpa [flatOf, othersL] using this
  case round =>
    obtain ⟨k, hk, rfl, hown, hbr⟩ := hrel
    have Hown := Lib.hid hown
    clear hown
    have hlo : (othersL (xs.take k) key).length ≤ 1000 := by have := others_len (xs.take k) key; rw [List.length_take] at this; omega
    by_cases hlt : k < xs.length
    · obtain ⟨b0, off, x, rfl, hbW, hx, c0, c1, c2, c3⟩ := (HZ.out.below hbr).at_ hlt
      have HT := Lib.hid (others_take (key := key) hx)
      obtain ⟨oo, hoo⟩ : ∃ oo, othersL (xs.take k) key = oo := ⟨_, rfl⟩
      rw [hoo] at Hown HT hlo
      clear hx hoo
      have hs5 := hbr.size
      have hkz : (k : Int) < (xs.length : Int) := by omega
      have hkz0 : (0 : Int) ≤ (k : Int) := by omega
      cases hkk : (x.k.toList == key.toList)
      · rw [hkk, if_neg (by simp)] at HT
        go_wp2_with (at_builtin; refine wpList_append_own _ rfl _ _ 23 rfl w.heap.size 34 i0 _ 4 48 Try.underlying23 Hi.out Hz0.out Hz1.out Hz2.out rfl (by decide) _ oo.length (flatOf rowC oo) rfl (Hown.out.alloc _) ⟨wr.heap.size, 0, none⟩ 1 1 [.string x.k, .string x.t, .int .i64 x.f, .int .i64 x.e] rfl rfl (newsFour (by simp) (by simp) (by simp) (by simp)) (by simp [Value.oneCell']) (by unfold maxLen; omega) (by omega) (by simp; omega) ?_; intro v' w3 hown' hgrow hnil; have O3 := Lib.hid hown'; have B3 := Lib.hid ((hbr.alloc hs5 _).grown hgrow (by simp; omega) (fun i e => by have := (Hown.out.lt i e).1; omega)); clear hown' hgrow hnil)
        refine ⟨⟨k + 1, by omega, by simp, ?_, B3.out⟩, ?_⟩
        · rw [HT.out, flatOf_append, flatOf_one, show (oo ++ [x]).length = oo.length + 1 by simp]
          exact O3.out
        · simp [intOf]; omega
      · rw [hkk, if_pos rfl, List.append_nil] at HT
        go_wp2
        go_roundw
        case rel => exact ⟨k + 1, by omega, by go_num, (by rw [HT.out]; exact Hown.out), hbr⟩
        case measure => simp [intOf]; omega
    · obtain rfl : k = xs.length := by omega
      rw [List.take_length] at Hown hlo
      obtain ⟨ox, hox⟩ : ∃ ox, othersL xs key = ox := ⟨_, rfl⟩
      rw [hox] at Hown hlo
      have HOX := Lib.hid hox
      clear hox
      obtain ⟨A4, c4, hv⟩ := owns_sliceE Hown.out
      subst hv
      have X4 := Lib.hid (show RowsA wr A4 ox from el_of_owns rowC_len Hown.out)
      have BR := Lib.hid hbr
      clear hbr Hown
      go_wp2
      go_loopw [9, 10] (fun v i wi => ∃ k : Nat, k ≤ ys.length ∧ i = .int .i64 k ∧ wi.ownsRow wr.heap.size 34 4 v (othersL (ys.take k) key).length (flatOf rowC (othersL (ys.take k) key)) ∧ Below wr.heap.size wr wi) (fun _ i _ => ys.length - (intOf i).toNat)
      case atStart =>
        refine ⟨0, Nat.zero_le _, rfl, ?_, (Below.refl _ _).alloc (Nat.le_refl _) _⟩
        have := World.ownsRow_lit (base := wr.heap.size) (e := 34) (size := 4) wr #[] 0 (by simp) (by simp [maxLen]) (by simp)
        simpa [flatOf, othersL] using this
      case round =>
        obtain ⟨k, hk, rfl, hown, hbi⟩ := hrel
        have Hown := Lib.hid hown
        clear hown
        have hlo2 : (othersL (ys.take k) key).length ≤ 1000 := by have := others_len (ys.take k) key; rw [List.length_take] at this; omega
        by_cases hlt : k < ys.length
        · obtain ⟨b0, off, x, rfl, hbW, hx, c0, c1, c2, c3⟩ := ((HY.out.below BR.out).below hbi).at_ hlt
          have HT := Lib.hid (others_take (key := key) hx)
          obtain ⟨oo, hoo⟩ : ∃ oo, othersL (ys.take k) key = oo := ⟨_, rfl⟩
          rw [hoo] at Hown HT hlo2
          clear hx hoo
          have hs5 := hbi.size
          have hkz : (k : Int) < (ys.length : Int) := by omega
          have hkz0 : (0 : Int) ≤ (k : Int) := by omega
          cases hkk : (x.k.toList == key.toList)
          · rw [hkk, if_neg (by simp)] at HT
            go_wp2_with (at_builtin; refine wpList_append_own _ rfl _ _ 23 rfl _ 34 i0 _ 4 48 Try.underlying23 Hi.out Hz0.out Hz1.out Hz2.out rfl (by decide) _ oo.length (flatOf rowC oo) rfl (Hown.out.alloc _) ⟨wr.heap.size, 0, none⟩ 1 1 [.string x.k, .string x.t, .int .i64 x.f, .int .i64 x.e] rfl rfl (newsFour (by simp) (by simp) (by simp) (by simp)) (by simp [Value.oneCell']) (by unfold maxLen; omega) (by omega) (by simp; omega) ?_; intro v' w3 hown' hgrow hnil; have O3 := Lib.hid hown'; have B3 := Lib.hid ((hbi.alloc hs5 _).grown hgrow (by simp; omega) (fun i e => by have := (Hown.out.lt i e).1; omega)); clear hown' hgrow hnil)
            refine ⟨⟨k + 1, by omega, by simp, ?_, B3.out⟩, ?_⟩
            · rw [HT.out, flatOf_append, flatOf_one, show (oo ++ [x]).length = oo.length + 1 by simp]
              exact O3.out
            · simp [intOf]; omega
          · rw [hkk, if_pos rfl, List.append_nil] at HT
            go_wp2
            go_roundw
            case rel => exact ⟨k + 1, by omega, by go_num, (by rw [HT.out]; exact Hown.out), hbi⟩
            case measure => simp [intOf]; omega
        · obtain rfl : k = ys.length := by omega
          rw [List.take_length] at Hown hlo2
          obtain ⟨oy, hoy⟩ : ∃ oy, othersL ys key = oy := ⟨_, rfl⟩
          rw [hoy] at Hown hlo2
          have HOY := Lib.hid hoy
          clear hoy
          obtain ⟨A5, c5, hv⟩ := owns_sliceE Hown.out
          subst hv
          have Y5 := Lib.hid (el_of_owns rowC_len Hown.out)
          have BI := Lib.hid hbi
          clear hbi Hown
          go_wp2_with fail
          refine (vaRows_any _ _ _ _ ox oy _ (X4.out.below BI.out) Y5.out (by omega)).mono ?_
          rintro e w6 ⟨v6, hv6, rfl, hb⟩
          have HV := Lib.hid (show v6 = true ↔ othersL xs key = othersL ys key from by rw [HOX.out, HOY.out]; exact hv6)
          have B6 := Lib.hid (BR.out.trans ((BI.out.trans (hb.mono BI.out.size)).mono BR.out.size))
          clear hb hv6
          go_wp2
          go_ret
          exact ⟨v6, HV.out, rfl, B6.out⟩
end Go.Proofs.Ytgclmldhdjmabaa
