/-
  Walk: SetOf.
-/
import Derived.Test.YtfolppahdmkaoaaSortS
import Derived.Test.YtfolppahdmkaoaaGets
namespace Go.Proofs.Ytfolppahdmkaoaa
open Go.RowKit

def allB (zs : List (Int × Int)) : Bool := zs.all fun s => okB s.1 s.2
def setOfL (zs : List (Int × Int)) : List (Int × Int) := if allB zs then addAll zs else []
theorem allB_no {zs : List (Int × Int)} {k : Nat} (hk : k < zs.length) (h : okB (zs.getD k (0, 0)).1 (zs.getD k (0, 0)).2 = false) : allB zs = false := by
  unfold allB
  rw [List.all_eq_false]
  have e : zs.getD k (0, 0) = zs[k] := by simp [List.getD, hk]
  rw [e] at h
  exact ⟨zs[k], List.getElem_mem hk, by simp [h]⟩
theorem allB_yes {zs : List (Int × Int)} (h : ∀ k, k < zs.length → okB (zs.getD k (0, 0)).1 (zs.getD k (0, 0)).2 = true) : allB zs = true := by
  unfold allB
  rw [List.all_eq_true]
  intro s hs
  obtain ⟨k, hk, rfl⟩ := List.mem_iff_getElem.1 hs
  have := h k hk
  simpa [List.getD, hk] using this
theorem allOk_of {zs : List (Int × Int)} (h : allB zs = true) : allOk zs := fun s hs => by
  have := List.all_eq_true.1 h s hs
  simpa [okB] using this
theorem has_perm {l zs : List (Int × Int)} (h : l.Perm zs) (q : Int) : has l q ↔ has zs q := by
  simp only [has]
  constructor
  · rintro ⟨z, hz, h1⟩; exact ⟨z, h.mem_iff.1 hz, h1⟩
  · rintro ⟨z, hz, h1⟩; exact ⟨z, h.mem_iff.2 hz, h1⟩
theorem sorts_join {zs l : List (Int × Int)} (h : allB zs = true) (hs : Sorts zs l) : joinL l = addAll zs :=
  join_add (allOk_of h) (fun s hs' => allOk_of h s (hs.2.mem_iff.1 hs')) hs.1 (has_perm hs.2)
theorem addAll_setOk {zs : List (Int × Int)} (h : allB zs = true) : setOk (addAll zs) = true := (addAll_ok 0 zs [] setOk_nil (allOk_of h)).1
theorem has_addAll {zs : List (Int × Int)} (h : allB zs = true) (q : Int) : has (addAll zs) q ↔ has zs q := by
  rw [addAll, (addAll_ok q zs [] setOk_nil (allOk_of h)).2]
  simp [has_nil]
theorem setOfL_ok (zs : List (Int × Int)) : setOk (setOfL zs) = true := by
  unfold setOfL
  by_cases h : allB zs = true
  · rw [if_pos h]; exact addAll_setOk h
  · rw [if_neg h]; rfl
theorem setOfL_len (zs : List (Int × Int)) : (setOfL zs).length ≤ 100 := setOk_len (setOfL_ok zs)

set_option maxHeartbeats 1000000 in
theorem SortedFunc_any (A : Option Addr) (cap Bs : Nat) (zs : List (Int × Int)) (w : World) (hl : zs.length ≤ 4194304) (hc : w.cell? ⟨Bs, 0, none⟩ = some (.slice A zs.length cap)) (hz : Spans w A zs) (hA : ∀ b off, A = some ⟨b, off, none⟩ → b < w.heap.size) :
    Calls Try.prog 84 #[.func (.func 93) #[] #[.pointer (some ⟨Bs, 0, none⟩)], .func (.func 81) #[] #[]] w fun e w' =>
      ∃ v l, e = .returned v ∧ Sorts zs l ∧ w'.ownsRow w.heap.size 43 2 v zs.length (flat l) ∧ Below w.heap.size w w' := by
  have hBs : Bs < w.heap.size := World.block_lt_of_cell? _ _ hc
  have hC := Collect_in 9 (by omega) 93 #[.pointer (some ⟨Bs, 0, none⟩)] zs zs.length hl w.heap.size w w (seqAll_of_stops (Nat.le_refl _) (values_stops 8 (by omega) Bs w.heap.size cap A zs hl w hBs (Nat.le_refl _) hc hz hA)) (Below.refl _ _) (Nat.le_refl _) enter90
  have HC := Lib.hid hC
  clear hC hz hA hc
  go_enter Try.func84, Try.ntmps84
  go_wp2_with fail
  refine HC.out.mono ?_
  rintro e w1 ⟨v, rfl, ho, hv, hb⟩
  have HO := Lib.hid ho
  have B1 := Lib.hid hb
  clear ho hv hb
  go_wp2_with fail
  refine (SortFunc_own w.heap.size v zs w1 HO.out hl).mono ?_
  rintro e w2 ⟨rfl, l, hs, ho2, hb2⟩
  have HS := Lib.hid hs
  have O2 := Lib.hid ho2
  have B2 := Lib.hid (B1.out.trans hb2)
  clear hs ho2 hb2
  go_wp2
  go_ret
  exact ⟨v, l, rfl, HS.out, O2.out, B2.out⟩

set_option maxRecDepth 100000 in
set_option maxHeartbeats 2000000 in
theorem SetOf_any (A : Option Addr) (cap : Nat) (zs : List (Int × Int)) (w : World) (hz : Spans w A zs) (hA : ∀ b off, A = some ⟨b, off, none⟩ → b < w.heap.size) (hl : zs.length ≤ 4194304) :
    Calls Try.prog 63 #[.slice A zs.length cap] w (Gets w (setOfL zs)) := by
  have HZ := Lib.hid hz
  have HA := Lib.hid hA
  clear hz hA
  go_enter Try.func63, Try.ntmps63
  go_wp2
  go_loopw [8] (fun i wr => ∃ k : Nat, k ≤ zs.length ∧ i = .int .i64 k ∧ (∀ j, j < k → okB (zs.getD j (0, 0)).1 (zs.getD j (0, 0)).2 = true) ∧ Below w.heap.size w wr) (fun i _ => zs.length - (intOf i).toNat)
  case atStart => exact ⟨0, Nat.zero_le _, rfl, fun j hj => absurd hj (by omega), Below.refl _ _⟩
  case round =>
    obtain ⟨k, hk, rfl, hall, hbr⟩ := hrel
    have Hall := Lib.hid hall
    clear hall
    by_cases hlt : k < zs.length
    · obtain ⟨b, off, rfl, hcells⟩ := HZ.out.below hbr (by omega)
      obtain ⟨c0, c1⟩ := hcells k hlt
      clear hcells
      obtain ⟨o, ho⟩ : ∃ o, okB (zs.getD k (0, 0)).1 (zs.getD k (0, 0)).2 = o := ⟨_, rfl⟩
      have HO := Lib.hid ho
      obtain ⟨x, hx⟩ : ∃ x, (zs.getD k (0, 0)).1 = x := ⟨_, rfl⟩
      obtain ⟨y, hy⟩ : ∃ y, (zs.getD k (0, 0)).2 = y := ⟨_, rfl⟩
      rw [hx, hy] at ho
      rw [hx] at c0
      rw [hy] at c1
      have HO' := Lib.hid ho
      clear ho hx hy
      go_wp2_with fail
      refine (ok_val _ _ _ _ HO'.out).mono ?_
      rintro e w2 ⟨rfl, hb2⟩
      have B2 := Lib.hid ((hbr.alloc hbr.size _).trans (hb2.mono (by have := hbr.size; simp; omega)))
      clear hb2 c0 c1 hbr
      cases o
      · have HR := Lib.hid (show setOfL zs = [] from by rw [setOfL, allB_no hlt HO.out]; rfl)
        go_wp2
        go_ret
        rw [HR.out]
        exact gets_nil _ _ B2.out
      · go_wp2
        go_roundw
        case rel => exact ⟨k + 1, by omega, by go_num, (fun j hj => by
          by_cases e : j = k
          · subst e; exact HO.out
          · exact Hall.out j (by omega)), B2.out⟩
        case measure => simp [intOf]; omega
    · have HB := Lib.hid (allB_yes (zs := zs) fun j hj => Hall.out j (by omega))
      have HR := Lib.hid (show setOfL zs = addAll zs from by rw [setOfL, HB.out]; rfl)
      have BR := Lib.hid hbr
      clear hbr
      go_wp2_with fail
      refine (Values_any _ _ _ _).mono ?_
      rintro e w2 ⟨rfl, hw2⟩
      have B2' := Lib.hid (show Below wr.heap.size wr w2 from by rw [hw2]; exact (Below.refl _ _).alloc (Nat.le_refl _) _)
      have C2 := Lib.hid (show w2.cell? ⟨wr.heap.size, 0, none⟩ = some (.slice A zs.length cap) from by rw [hw2]; simp [go_sem])
      have S2 := Lib.hid (show ∀ b off, A = some ⟨b, off, none⟩ → b < w2.heap.size from fun b off e => by have h1 := HA.out b off e; have h2 := BR.out.size; have h3 := B2'.out.size; omega)
      have B2 := Lib.hid (BR.out.trans (B2'.out.mono BR.out.size))
      clear hw2
      go_wp2_with fail
      refine (SortedFunc_any A cap wr.heap.size zs w2 hl C2.out ((HZ.out.below BR.out).below B2'.out) S2.out).mono ?_
      rintro e w3 ⟨v, l, rfl, hs, ho3, hb3⟩
      have HS := Lib.hid hs
      have hll : l.length = zs.length := hs.2.length_eq
      have O3 := Lib.hid (show w3.ownsRow w2.heap.size 43 2 v l.length (flat l) from by rw [hll]; exact ho3)
      have B3 := Lib.hid (B2.out.trans (hb3.mono B2.out.size))
      have hl' : l.length ≤ 4194304 := by omega
      clear hs ho3 hb3 hll
      obtain ⟨A3, c3, hv⟩ := owns_slice O3.out
      subst hv
      go_wp2_with fail
      refine (Values_any _ _ _ _).mono ?_
      rintro e w4 ⟨rfl, hw4⟩
      have B4' := Lib.hid (show Below w3.heap.size w3 w4 from by rw [hw4]; exact (Below.refl _ _).alloc (Nat.le_refl _) _)
      have C4 := Lib.hid (show w4.cell? ⟨w3.heap.size, 0, none⟩ = some (.slice A3 l.length c3) from by rw [hw4]; simp [go_sem])
      have O4 := Lib.hid (owns_keep O3.out B4'.out)
      have B4 := Lib.hid (B3.out.trans (B4'.out.mono B3.out.size))
      clear hw4
      have hJ := (callsIn_wide (n := 9)).1 (joined_in 9 (by omega) 93 #[.pointer (some ⟨w3.heap.size, 0, none⟩)] l l.length (by omega) w4.heap.size w4 w4 (seqAll_of_stops (Nat.le_refl _) (values_stops 8 (by omega) w3.heap.size w4.heap.size c3 A3 l (by omega) w4 (World.block_lt_of_cell? _ _ C4.out) (Nat.le_refl _) C4.out (owns_spans O4.out) (owns_block O4.out))) (Below.refl _ _) (Nat.le_refl _) enter90)
      rw [sorts_join HB.out HS.out] at hJ
      have HJ := Lib.hid hJ
      clear hJ
      go_wp2_with fail
      refine HJ.out.mono ?_
      rintro e w5 h5
      obtain ⟨A5, c5, rfl, h6⟩ := gets_after (gets_of_coll h5) B4.out
      have H6 := Lib.hid h6
      clear h5 h6
      go_wp2
      go_ret
      rw [HR.out]
      exact ⟨A5, c5, rfl, H6.out⟩
end Go.Proofs.Ytfolppahdmkaoaa
