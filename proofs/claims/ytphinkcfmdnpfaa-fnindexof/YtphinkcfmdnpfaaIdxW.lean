/-
  Walks: whether a list is a table's tree, and which, as the program asks.
-/
import Derived.Test.YtphinkcfmdnpfaaIdxE
import Derived.Test.YtphinkcfmdnpfaaTreI
import Derived.Laws.EntriesVeiled
namespace Go.Proofs.Ytphinkcfmdnpfaa
open Go.Shelf Go.RowKit Go.Lib

/-- The tree that a list is, if it is a table's. -/
def treeN (x : List NodV) : Tr := if idxB x = true then treeL (relOfL (rowsN x)) else .nil

set_option maxRecDepth 100000 in
set_option maxHeartbeats 4000000 in
theorem treeIn_any (A : Option Addr) (ca : Nat) (x : List NodV) (w : World) (hx : NodsA w A x) (hl : x.length ≤ 1048577) (hs : ShortN x) :
    Calls Try.prog 96 #[.slice A x.length ca] w (GetsT w (treeN x) (idxB x)) := by
  obtain ⟨i0, hi, hz0, hz1, hz2⟩ := info_parts Try.infoR70
  have Hi := Lib.hid hi
  have Hz0 := Lib.hid hz0
  have Hz1 := Lib.hid hz1
  have Hz2 := Lib.hid hz2
  have HX := Lib.hid hx
  have HS := Lib.hid (shortN_rows hs)
  clear hi hz0 hz1 hz2 hx hs
  have HTN := Lib.hid (show idxB x = true → treeN x = treeL (relOfL (rowsN x)) from fun h => if_pos h)
  have HTF := Lib.hid (show idxB x = false → treeN x = .nil from fun h => if_neg (by rw [h]; simp))
  have HID := Lib.hid (fun s => idx_table (x := x) (s := s))
  obtain ⟨T, hT⟩ : ∃ T, treeN x = T := ⟨_, rfl⟩
  obtain ⟨ob, hob⟩ : ∃ ob, idxB x = ob := ⟨_, rfl⟩
  rw [hT] at HTN HTF ⊢
  rw [hob] at HTN HTF HID ⊢
  clear hT hob
  go_enter Try.func96, Try.ntmps96
  go_wp2
  go_loopw [4, 12] (fun v i wr => ∃ k : Nat, k ≤ x.length ∧ i = .int .i64 k ∧ wr.ownsRow w.heap.size 70 4 v k (flatOf rowC (rowsN (x.take k))) ∧ Below w.heap.size w wr) (fun _ i _ => x.length - (intOf i).toNat)
  case atStart => exact ⟨0, Nat.zero_le _, rfl, World.ownsRow_nil _ _ _ _, Below.refl _ _⟩
  case round =>
    obtain ⟨k, hk, rfl, hown, hbr⟩ := hrel
    have Hown := Lib.hid hown
    clear hown
    by_cases hlt : k < x.length
    · obtain ⟨b, off, y, rfl, hb, hxk, c0, c1, c2, c3, c4, c5⟩ := (HX.out.below hbr).at_ hlt
      have HT := Lib.hid (rowsN_take hxk)
      have hkz : (k : Int) < (x.length : Int) := by omega
      have hkz0 : (0 : Int) ≤ (k : Int) := by omega
      have hs5 := hbr.size
      obtain ⟨oo, hoo⟩ : ∃ oo, rowsN (x.take k) = oo := ⟨_, rfl⟩
      rw [hoo] at Hown HT
      clear hxk hoo
      go_upto_region 5 with fail
      generalize hW : World.alloc _ _ = W
      have q0 : W.cell? ⟨wr.heap.size, 0, none⟩ = some (.string y.r.k) := by rw [← hW]; simp [go_sem]
      have q1 : W.cell? ⟨wr.heap.size, 1, none⟩ = some (.string y.r.t) := by rw [← hW]; simp [go_sem]
      have q2 : W.cell? ⟨wr.heap.size, 2, none⟩ = some (.int .i64 y.r.f) := by rw [← hW]; simp [go_sem]
      have q3 : W.cell? ⟨wr.heap.size, 3, none⟩ = some (.int .i64 y.r.e) := by rw [← hW]; simp [go_sem]
      have HownW := Lib.hid (show W.ownsRow w.heap.size 70 4 u4 k (flatOf rowC oo) from by rw [← hW]; exact Hown.out.alloc _)
      have BW := Lib.hid (show Below w.heap.size w W from by rw [← hW]; exact hbr.alloc hs5 _)
      have hsW := BW.out.size
      clear hW Hown hbr hs5 c0 c1 c2 c3 c4 c5
      go_wp2_with (at_builtin; refine wpList_append_own _ rfl _ _ 23 rfl w.heap.size 70 i0 _ 4 48 Try.underlying23 Hi.out Hz0.out Hz1.out Hz2.out rfl (by decide) _ k (flatOf rowC oo) rfl (HownW.out.alloc _) ⟨W.heap.size, 0, none⟩ 1 1 [.string y.r.k, .string y.r.t, .int .i64 y.r.f, .int .i64 y.r.e] rfl rfl (newsFour (by simp) (by simp) (by simp) (by simp)) (by simp [Value.oneCell']) (by unfold maxLen; omega) (by omega) (by simp; omega) ?_; intro v' w3 hown' hgrow hnil; have O3 := Lib.hid hown'; have B3 := Lib.hid ((BW.out.alloc hsW _).grown hgrow (by simp; omega) (fun i e => by have := (HownW.out.lt i e).1; omega)); clear hown' hgrow hnil)
      refine ⟨⟨k + 1, by omega, by simp, ?_, B3.out⟩, ?_⟩
      · rw [HT.out, flatOf_append, flatOf_one]
        exact O3.out
      · simp [intOf]; omega
    · obtain rfl : k = x.length := by omega
      rw [List.take_length] at Hown
      have HRN := Lib.hid (rowsN_len x)
      obtain ⟨rs, hrs⟩ : ∃ rs, rowsN x = rs := ⟨_, rfl⟩
      rw [hrs] at Hown HS HTN HID HRN
      obtain ⟨A2, c2, rfl⟩ := owns_formN Hown.out
      have R2 := Lib.hid (rowsA_own Hown.out HRN.out.symm)
      have N2 := Lib.hid (owns_nilcap Hown.out)
      have hs5 := hbr.size
      have B2 := Lib.hid hbr
      clear hbr hrs
      go_upto_region 8 with fail
      generalize hW : World.alloc _ _ = W
      have hbx : BoxO W wr.heap.size (.slice none 0 0) := by rw [← hW]; exact heap_alloc_new wr _
      have BW := Lib.hid (show Below w.heap.size w W from by rw [← hW]; exact B2.out.alloc hs5 _)
      have RW := Lib.hid (show RowsA W A2 rs from by rw [← hW]; exact R2.out.below ((Below.refl _ _).alloc (Nat.le_refl _) _))
      obtain ⟨ob1, hob1⟩ : ∃ ob1, wr.heap.size = ob1 := ⟨_, rfl⟩
      rw [hob1] at hbx ⊢
      have hob2 : w.heap.size ≤ ob1 := by omega
      have SU := Lib.hid (show Src W (.slice A2 x.length c2) rs from by rw [← HRN.out]; exact src_of RW.out N2.out)
      have HBX := Lib.hid hbx
      have hrl : rs.length ≤ 4194304 := by rw [HRN.out]; omega
      clear hW hob1 Hown B2 R2 hs5 hbx
      go_wp2_with fail
      refine (put_any w.heap.size ob1 (.slice none 0 0) (.slice A2 x.length c2) [] rs W HBX.out hob2 (World.ownsRow_nil _ _ _ _) SU.out (by simp; omega)).mono ?_
      rintro e w3 ⟨rfl, v3, l, hb3, ho3, hord, hperm, hbl⟩
      rw [List.nil_append] at hperm
      have c0 := hb3.cell0
      have c1 := hb3.cell1
      have O3 := Lib.hid ho3
      have HIX := Lib.hid (HID.out l hord hperm)
      have HSL := Lib.hid (HS.out.perm hperm)
      have B3 := Lib.hid (BW.out.trans hbl)
      have hll : l.length ≤ 1048577 := by rw [hperm.length_eq, HRN.out]; exact hl
      obtain ⟨A3, k3, rfl⟩ := owns_sliceE ho3
      have R3 := Lib.hid (rowsA_own ho3 rfl)
      have N3 := Lib.hid (owns_nilcap ho3)
      clear hb3 ho3 hord hperm hbl HBX SU RW BW HID
      obtain ⟨oR, hoR⟩ : ∃ oR, relOk l = oR := ⟨_, rfl⟩
      obtain ⟨TT, hTT⟩ : ∃ TT, treeL l = TT := ⟨_, rfl⟩
      have HIX2 := Lib.hid (tree_index l)
      have hmn := treeL_many l
      rw [hTT] at HIX2 hmn
      rw [hoR] at HIX
      go_wp2_with fail
      refine (treeOf_any A3 k3 l w3 R3.out N3.out hll HSL.out).mono ?_
      rw [hoR, hTT]
      have HTT := Lib.hid hTT
      clear hoR hTT c0 c1 hll R3 N3 O3
      rintro e w4 ⟨p4, rfl, ht4, hb4⟩
      have T4 := Lib.hid ht4
      have B4 := Lib.hid (B3.out.trans (hb4.mono B3.out.size))
      clear ht4 hb4 B3
      cases oR
      · have HF := Lib.hid (show ob = false from by
          cases ob with
          | false => rfl
          | true => exact absurd (HIX.out.1.2 rfl).1 (by simp))
        go_wp2
        refine bodyPost_ret (v := .tuple #[.pointer none, .bool false]) (by simp [results, Try.results96, go_sem]) rfl ?_
        rw [HF.out, HTF.out HF.out]
        exact ⟨none, rfl, rfl, B4.out⟩
      · go_wp2_with fail
        refine (treeList_any TT p4 w4 T4.out (by omega)).mono ?_
        rw [HIX2.out]
        obtain ⟨ys, hys⟩ : ∃ ys, indexL l = ys := ⟨_, rfl⟩
        have hyl := indexL_len l
        rw [hys] at HIX hyl ⊢
        rintro e w5 ⟨A5, c5, rfl, ho, hb⟩
        have Y5 := Lib.hid (show NodsA w5 A5 ys from el_of_owns nodC_len ho)
        have T5 := Lib.hid (T4.out.below hb)
        have B5 := Lib.hid (B4.out.trans (hb.mono B4.out.size))
        clear ho hb T4 B4 hys
        go_wp2_with fail
        refine (EqualN_any A5 A c5 ca ys x w5 Y5.out (HX.out.below B5.out) (by unfold maxLen; omega)).mono ?_
        have HEQ := Lib.hid (eqNs_iff (xs := ys) (ys := x))
        obtain ⟨q, hq⟩ : ∃ q, eqNs ys x = q := ⟨_, rfl⟩
        rw [hq] at HEQ ⊢
        clear hq
        rintro e w6 ⟨rfl, hb⟩
        have T6 := Lib.hid (T5.out.below hb)
        have B6 := Lib.hid (B5.out.trans (hb.mono B5.out.size))
        clear hb T5 B5
        cases q
        · have HF := Lib.hid (show ob = false from by
            cases ob with
            | false => rfl
            | true => exact absurd (HEQ.out.2 (HIX.out.1.2 rfl).2) (by simp))
          go_wp2
          refine bodyPost_ret (v := .tuple #[.pointer none, .bool false]) (by simp [results, Try.results96, go_sem]) rfl ?_
          rw [HF.out, HTF.out HF.out]
          exact ⟨none, rfl, rfl, B6.out⟩
        · have HF := Lib.hid (show ob = true from HIX.out.1.1 ⟨by first | rfl | trivial, HEQ.out.1 (by first | rfl | trivial)⟩)
          go_wp2
          refine bodyPost_ret (v := .tuple #[.pointer p4, .bool true]) (by simp [results, Try.results96, go_sem]) rfl ?_
          rw [HF.out, HTN.out HF.out, HIX.out.2 (by first | rfl | trivial), HTT.out]
          exact ⟨p4, rfl, T6.out, B6.out⟩

set_option maxHeartbeats 1000000 in
theorem IndexOk_any (A : Option Addr) (ca : Nat) (x : List NodV) (w : World) (hx : NodsA w A x) (hl : x.length ≤ 1048577) (hs : ShortN x) :
    Calls Try.prog 42 #[.slice A x.length ca] w fun e w' => e = .returned (.bool (idxB x)) ∧ Below w.heap.size w w' := by
  have HC := Lib.hid (treeIn_any A ca x w hx hl hs)
  obtain ⟨T, hT⟩ : ∃ T, treeN x = T := ⟨_, rfl⟩
  obtain ⟨ob, hob⟩ : ∃ ob, idxB x = ob := ⟨_, rfl⟩
  rw [hT, hob] at HC
  rw [hob]
  clear hx hs hT hob
  go_enter Try.func42, Try.ntmps42
  go_wp2_with fail
  refine HC.out.mono ?_
  rintro e w2 ⟨p, rfl, -, hb⟩
  go_wp2
  go_ret
  exact ⟨rfl, hb⟩
end Go.Proofs.Ytphinkcfmdnpfaa
