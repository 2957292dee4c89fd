/-
  Walk: the model's SetOf.
-/
import Derived.Test.YtgclmldhdjmabaaSetOf
import Derived.Test.YtgclmldhdjmabaaAdd
namespace Go.Proofs.Ytgclmldhdjmabaa
open Go.RowKit

theorem take_snoc' {zs : List (Int × Int)} {k : Nat} (hk : k < zs.length) : zs.take (k + 1) = zs.take k ++ [((zs.getD k (0, 0)).1, (zs.getD k (0, 0)).2)] := by
  have e : zs.getD k (0, 0) = zs[k] := by simp [List.getD, hk]
  rw [List.take_succ_eq_append_getElem hk, e]

set_option maxRecDepth 100000 in
set_option maxHeartbeats 4000000 in
theorem sSetOf_any (A : Option Addr) (cap : Nat) (zs : List (Int × Int)) (w : World) (hz : Spans w A zs) (hl : zs.length ≤ 4194304) :
    Calls Try.prog 50 #[.slice A zs.length cap] w (Gets w (setOfL zs)) := by
  have HZ := Lib.hid hz
  clear hz
  go_enter Try.func50, Try.ntmps50
  go_wp2
  go_loopw [3, 4] (fun v i wr => ∃ k : Nat, k ≤ zs.length ∧ i = .int .i64 k ∧ (∀ j, j < k → okB (zs.getD j (0, 0)).1 (zs.getD j (0, 0)).2 = true) ∧ wr.ownsRow w.heap.size 32 2 v (addAll (zs.take k)).length (flat (addAll (zs.take k))) ∧ Below w.heap.size w wr) (fun _ i _ => zs.length - (intOf i).toNat)
  case atStart =>
    refine ⟨0, Nat.zero_le _, rfl, fun j hj => absurd hj (by omega), ?_, (Below.refl _ _).alloc (Nat.le_refl _) _⟩
    have := World.ownsRow_lit (base := w.heap.size) (e := 32) (size := 2) w #[] 0 (by simp) (by simp [maxLen]) (by simp)
    simpa [flat, addAll] using this
  case round =>
    obtain ⟨k, hk, rfl, hall, hown, hbr⟩ := hrel
    have Hall := Lib.hid hall
    have Hown := Lib.hid hown
    clear hown hall
    by_cases hlt : k < zs.length
    · obtain ⟨b, off, rfl, hcells⟩ := HZ.out.below hbr (by omega)
      obtain ⟨c0, c1⟩ := hcells k hlt
      clear hcells
      have hbb : b < wr.heap.size := World.block_lt_of_cell? _ _ c0
      have HT := Lib.hid (show addAll (zs.take (k + 1)) = addL (addAll (zs.take k)) ((zs.getD k (0, 0)).1, (zs.getD k (0, 0)).2) from by rw [take_snoc' hlt, addAll_snoc])
      have hlo : (addAll (zs.take k)).length ≤ 100 := setOk_len (addAll_setOk (allB_yes (fun j hj => by
        have hj' : j < k := by rw [List.length_take] at hj; omega
        have e : (zs.take k).getD j (0, 0) = zs.getD j (0, 0) := by simp [List.getD, hj']
        rw [e]
        exact Hall.out j hj')))
      obtain ⟨o, ho⟩ : ∃ o, okB (zs.getD k (0, 0)).1 (zs.getD k (0, 0)).2 = o := ⟨_, rfl⟩
      have HO := Lib.hid ho
      obtain ⟨x, hx⟩ : ∃ x, (zs.getD k (0, 0)).1 = x := ⟨_, rfl⟩
      obtain ⟨y, hy⟩ : ∃ y, (zs.getD k (0, 0)).2 = y := ⟨_, rfl⟩
      rw [hx, hy] at ho HT
      rw [hx] at c0
      rw [hy] at c1
      have HO' := Lib.hid ho
      obtain ⟨oo, hoo⟩ : ∃ oo, addAll (zs.take k) = oo := ⟨_, rfl⟩
      rw [hoo] at Hown HT hlo
      clear ho hx hy hoo
      obtain ⟨A', c', hv⟩ := owns_slice Hown.out
      subst hv
      go_wp2_with fail
      refine (l1Ok_val _ _ _ _ HO'.out).mono ?_
      rintro e w2 ⟨rfl, hb2⟩
      replace c0 := cell_below hb2 hbb c0
      replace c1 := cell_below hb2 hbb c1
      have O2 := Lib.hid (owns_keep Hown.out hb2)
      have B2 := Lib.hid (hbr.trans (hb2.mono hbr.size))
      clear hb2 hbr Hown hbb
      cases o
      · have HR := Lib.hid (show setOfL zs = [] from by rw [setOfL, allB_no hlt HO.out]; rfl)
        go_wp2
        go_ret
        rw [HR.out]
        exact gets_nil _ _ B2.out
      · go_wp2_with fail
        refine (l1Add_any _ _ _ _ _ _ (owns_spans O2.out) (by omega)).mono ?_
        rintro e w3 ⟨g3, c3, rfl, ho3, hb3⟩
        have O3 := Lib.hid (owns_base ho3 B2.out.size)
        have B3 := Lib.hid (B2.out.trans (hb3.mono B2.out.size))
        clear ho3 hb3 c0 c1
        go_wp2
        go_roundw
        case rel => exact ⟨k + 1, by omega, by go_num, (fun j hj => by
          by_cases e : j = k
          · subst e; exact HO.out
          · exact Hall.out j (by omega)), (by rw [HT.out]; exact O3.out), B3.out⟩
        case measure => simp [intOf]; omega
    · obtain rfl : k = zs.length := by omega
      have HB := Lib.hid (allB_yes (zs := zs) fun j hj => Hall.out j (by omega))
      have HR := Lib.hid (show setOfL zs = addAll (zs.take zs.length) from by rw [setOfL, HB.out, List.take_length]; rfl)
      obtain ⟨A', c', hv⟩ := owns_slice Hown.out
      subst hv
      go_wp2
      go_ret
      rw [HR.out]
      exact ⟨A', c', rfl, Hown.out, hbr⟩
end Go.Proofs.Ytgclmldhdjmabaa
