/-
  Walks: the table of rows in any order.
-/
import Derived.Test.YtfolppahdmkaoaaFold
import Derived.Laws.EntriesVeiled
namespace Go.Proofs.Ytfolppahdmkaoaa
open Go.Shelf Go.RowKit Go.Lib Go.Sort

theorem relOf_bad {zs : List RowV} {x : RowV} (hx : x ∈ zs) (h : rowOk x = false) : relOfL zs = [] := by
  unfold relOfL
  cases e : layAll [] zs with
  | none => rfl
  | some m =>
    obtain ⟨_, h2, h3⟩ := layAll_some zs [] m List.Pairwise.nil (by intro x hx; cases hx) e
    rw [List.append_nil] at h3
    rw [h2 x (h3.symm.subset hx)] at h
    cases h
theorem tableP_L (s : List RowV) : (tableP s).1 = tableL s := by
  unfold tableP tableL
  split <;> rfl
theorem relOf_len (zs : List RowV) : (relOfL zs).length ≤ 24 := by
  unfold relOfL
  cases layAll [] zs with
  | none => simp
  | some m =>
    show (if (joinRows m).length ≤ 24 then joinRows m else []).length ≤ 24
    split
    · assumption
    · simp

set_option maxRecDepth 100000 in
set_option maxHeartbeats 4000000 in
theorem RelOf_any (A : Option Addr) (cap : Nat) (zs : List RowV) (w : World) (hz : RowsA w A zs) (hN : A = none → cap = 0) (hl : zs.length ≤ 1048577) (hs : Short zs) :
    Calls Try.prog 26 #[.slice A zs.length cap] w (GetsE rowC 4 45 w (relOfL zs)) := by
  have HZ := Lib.hid hz
  have HS := Lib.hid hs
  have HNn := Lib.hid hN
  clear hz hs hN
  go_enter Try.func26, Try.ntmps26
  go_wp2
  go_loopw [10] (fun i wr => ∃ k : Nat, k ≤ zs.length ∧ i = .int .i64 k ∧ (∀ j x, j < k → zs[j]? = some x → rowOk x = true) ∧ Below w.heap.size w wr) (fun i _ => zs.length - (intOf i).toNat)
  case atStart => exact ⟨0, Nat.zero_le _, rfl, fun j x hj => absurd hj (by omega), Below.refl _ _⟩
  case round =>
    obtain ⟨k, hk, rfl, hall, hbr⟩ := hrel
    have Hall := Lib.hid hall
    clear hall
    by_cases hlt : k < zs.length
    · obtain ⟨b, off, x, rfl, hb, hx, q0, q1, q2, q3⟩ := (HZ.out.below hbr).at_ hlt
      have HX := Lib.hid hx
      have hm := HS.out x (List.mem_of_getElem? hx)
      clear hx
      obtain ⟨ro, hro⟩ : ∃ ro, rowOk x = ro := ⟨_, rfl⟩
      have HRO := Lib.hid hro
      clear hro
      have hs5 := hbr.size
      go_wp2_with fail
      refine (rowOkM_val x _ ro hm.1 hm.2 HRO.out).mono ?_
      rintro e w2 ⟨rfl, hb2⟩
      have B2 := Lib.hid ((hbr.alloc hs5 (Obj.cells #[Value.string x.k, Value.string x.t, Value.int IntKind.i64 x.f, Value.int IntKind.i64 x.e] 45)).trans (hb2.mono (by simp; omega)))
      clear hb2 hbr q0 q1 q2 q3
      cases ro
      · go_wp2
        go_ret
        rw [relOf_bad (List.mem_of_getElem? HX.out) HRO.out]
        exact getsE_nil _ _ _ B2.out
      · go_wp2
        go_roundw
        case rel => exact ⟨k + 1, by omega, by go_num, fun j y hj hy => by
          by_cases e : j = k
          · subst e
            have := hy.symm.trans HX.out
            injection this with this
            rw [this]; exact HRO.out
          · exact Hall.out j y (by omega) hy, B2.out⟩
        case measure => simp [intOf]; omega
    · obtain rfl : k = zs.length := by omega
      have HR := Lib.hid (show ∀ x ∈ zs, rowOk x = true from fun x hx => by
        obtain ⟨j, hj, rfl⟩ := List.mem_iff_getElem.1 hx
        exact Hall.out j _ hj (List.getElem?_eq_getElem hj))
      have hs5 := hbr.size
      go_wp2_with fail
      generalize hW : wr.alloc _ = W
      have hbx : BoxO W wr.heap.size (.slice none 0 0) := by rw [← hW]; exact heap_alloc_new wr _
      have BW := Lib.hid (show Below w.heap.size w W from by
        rw [← hW]
        repeat (first | exact hbr | refine Below.setCell ?_ (by first | omega | (simp; done) | (simp; omega)) _ | refine Below.alloc ?_ (by first | omega | (simp; done) | (simp; omega)) _))
      clear hW
      refine (put_any w.heap.size wr.heap.size (.slice none 0 0) (.slice A zs.length cap) [] zs W hbx hs5 (World.ownsRow_nil _ _ _ _) (src_of (HZ.out.below BW.out) HNn.out) (by simp; omega)).mono ?_
      rintro e w3 ⟨rfl, v3, l, hb3, ho3, hord, hperm, hbl⟩
      rw [List.nil_append] at hperm
      have c0 := hb3.cell0
      have c1 := hb3.cell1
      have O3 := Lib.hid ho3
      have HP := Lib.hid hperm
      have HOr := Lib.hid hord
      have B3 := Lib.hid (BW.out.trans hbl)
      have hll : l.length ≤ 1048577 := by rw [hperm.length_eq]; exact hl
      obtain ⟨A3, k3, rfl⟩ := owns_sliceE ho3
      clear hb3 ho3 hord hperm hbl hbx
      go_wp2_with fail
      refine (tableOf_any w.heap.size _ l w3 O3.out hll (HS.out.perm HP.out)).mono ?_
      rintro e w4 ⟨A4, c4, rfl, ho4, hb4⟩
      have O4 := Lib.hid ho4
      have B4 := Lib.hid (B3.out.trans (hb4.mono B3.out.size))
      clear ho4 hb4
      have HE := Lib.hid (show (tableP l).1 = relOfL zs from (tableP_L l).trans (table_of zs l HR.out HOr.out HP.out))
      generalize (tableP l).1 = tl at HE O4 ⊢
      generalize (tableP l).2 = tb
      have hs3 := B3.out.size
      go_wp2
      go_ret
      rw [← HE.out]
      exact ⟨A4, c4, rfl, owns_baseE O4.out hs3, B4.out⟩
end Go.Proofs.Ytfolppahdmkaoaa
