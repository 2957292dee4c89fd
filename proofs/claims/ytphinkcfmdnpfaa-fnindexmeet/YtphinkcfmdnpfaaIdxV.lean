/-
  Walks: IndexMeet and IndexStab, of the program and of the model.
-/
import Derived.Test.YtphinkcfmdnpfaaIdxO
import Derived.Test.YtphinkcfmdnpfaaTreI
import Derived.Laws.EntriesVeiled
import Derived.Test.YtphinkcfmdnpfaaIdxU
namespace Go.Proofs.Ytphinkcfmdnpfaa
open Go.Shelf Go.RowKit Go.Lib

/-- The tree that a list is, if it is a table's. -/
def treeN (x : List NodV) : Tr := if idxB x = true then treeL (relOfL (rowsN x)) else .nil

set_option maxRecDepth 100000 in
set_option maxHeartbeats 4000000 in
theorem treeIn_any (A : Option Addr) (ca : Nat) (x : List NodV) (w : World) (hx : NodsA w A x) (hl : x.length ≤ 1048577) (hs : ShortN x) :
    Calls Try.prog 96 #[.slice A x.length ca] w (GetsT w (treeN x) (idxB x)) := by
  obtain ⟨i0, hi, hz0, hz1, hz2⟩ := info_parts Try.infoR70
  have Hi := Lib.hid hi
  have Hz0 := Lib.hid hz0
  have Hz1 := Lib.hid hz1
  have Hz2 := Lib.hid hz2
  have HX := Lib.hid hx
  have HS := Lib.hid (shortN_rows hs)
  clear hi hz0 hz1 hz2 hx hs
  have HTN := Lib.hid (show idxB x = true → treeN x = treeL (relOfL (rowsN x)) from fun h => if_pos h)
  have HTF := Lib.hid (show idxB x = false → treeN x = .nil from fun h => if_neg (by rw [h]; simp))
  have HID := Lib.hid (fun s => idx_table (x := x) (s := s))
  obtain ⟨T, hT⟩ : ∃ T, treeN x = T := ⟨_, rfl⟩
  obtain ⟨ob, hob⟩ : ∃ ob, idxB x = ob := ⟨_, rfl⟩
  rw [hT] at HTN HTF ⊢
  rw [hob] at HTN HTF HID ⊢
  clear hT hob
  go_enter Try.func96, Try.ntmps96
  go_wp2
  go_loopw [4, 12] (fun v i wr => ∃ k : Nat, k ≤ x.length ∧ i = .int .i64 k ∧ wr.ownsRow w.heap.size 70 4 v k (flatOf rowC (rowsN (x.take k))) ∧ Below w.heap.size w wr) (fun _ i _ => x.length - (intOf i).toNat)
  case atStart => exact ⟨0, Nat.zero_le _, rfl, World.ownsRow_nil _ _ _ _, Below.refl _ _⟩
  case round =>
    obtain ⟨k, hk, rfl, hown, hbr⟩ := hrel
    have Hown := Lib.hid hown
    clear hown
    by_cases hlt : k < x.length
    · obtain ⟨b, off, y, rfl, hb, hxk, c0, c1, c2, c3, c4, c5⟩ := (HX.out.below hbr).at_ hlt
      have HT := Lib.hid (rowsN_take hxk)
      have hkz : (k : Int) < (x.length : Int) := by omega
      have hkz0 : (0 : Int) ≤ (k : Int) := by omega
      have hs5 := hbr.size
      obtain ⟨oo, hoo⟩ : ∃ oo, rowsN (x.take k) = oo := ⟨_, rfl⟩
      rw [hoo] at Hown HT
      clear hxk hoo
      go_upto_region 5 with fail
      generalize hW : World.alloc _ _ = W
      have q0 : W.cell? ⟨wr.heap.size, 0, none⟩ = some (.string y.r.k) := by rw [← hW]; simp [go_sem]
      have q1 : W.cell? ⟨wr.heap.size, 1, none⟩ = some (.string y.r.t) := by rw [← hW]; simp [go_sem]
      have q2 : W.cell? ⟨wr.heap.size, 2, none⟩ = some (.int .i64 y.r.f) := by rw [← hW]; simp [go_sem]
      have q3 : W.cell? ⟨wr.heap.size, 3, none⟩ = some (.int .i64 y.r.e) := by rw [← hW]; simp [go_sem]
      have HownW := Lib.hid (show W.ownsRow w.heap.size 70 4 u4 k (flatOf rowC oo) from by rw [← hW]; exact Hown.out.alloc _)
      have BW := Lib.hid (show Below w.heap.size w W from by rw [← hW]; exact hbr.alloc hs5 _)
      have hsW := BW.out.size
      clear hW Hown hbr hs5 c0 c1 c2 c3 c4 c5
      go_wp2_with (at_builtin; refine wpList_append_own _ rfl _ _ 23 rfl w.heap.size 70 i0 _ 4 48 Try.underlying23 Hi.out Hz0.out Hz1.out Hz2.out rfl (by decide) _ k (flatOf rowC oo) rfl (HownW.out.alloc _) ⟨W.heap.size, 0, none⟩ 1 1 [.string y.r.k, .string y.r.t, .int .i64 y.r.f, .int .i64 y.r.e] rfl rfl (newsFour (by simp) (by simp) (by simp) (by simp)) (by simp [Value.oneCell']) (by unfold maxLen; omega) (by omega) (by simp; omega) ?_; intro v' w3 hown' hgrow hnil; have O3 := Lib.hid hown'; have B3 := Lib.hid ((BW.out.alloc hsW _).grown hgrow (by simp; omega) (fun i e => by have := (HownW.out.lt i e).1; omega)); clear hown' hgrow hnil)
      refine ⟨⟨k + 1, by omega, by simp, ?_, B3.out⟩, ?_⟩
      · rw [HT.out, flatOf_append, flatOf_one]
        exact O3.out
      · simp [intOf]; omega
    · obtain rfl : k = x.length := by omega
      rw [List.take_length] at Hown
      have HRN := Lib.hid (rowsN_len x)
      obtain ⟨rs, hrs⟩ : ∃ rs, rowsN x = rs := ⟨_, rfl⟩
      rw [hrs] at Hown HS HTN HID HRN
      obtain ⟨A2, c2, rfl⟩ := owns_formN Hown.out
      have R2 := Lib.hid (rowsA_own Hown.out HRN.out.symm)
      have N2 := Lib.hid (owns_nilcap Hown.out)
      have hs5 := hbr.size
      have B2 := Lib.hid hbr
      clear hbr hrs
      go_upto_region 8 with fail
      generalize hW : World.alloc _ _ = W
      have hbx : BoxO W wr.heap.size (.slice none 0 0) := by rw [← hW]; exact heap_alloc_new wr _
      have BW := Lib.hid (show Below w.heap.size w W from by rw [← hW]; exact B2.out.alloc hs5 _)
      have RW := Lib.hid (show RowsA W A2 rs from by rw [← hW]; exact R2.out.below ((Below.refl _ _).alloc (Nat.le_refl _) _))
      obtain ⟨ob1, hob1⟩ : ∃ ob1, wr.heap.size = ob1 := ⟨_, rfl⟩
      rw [hob1] at hbx ⊢
      have hob2 : w.heap.size ≤ ob1 := by omega
      have SU := Lib.hid (show Src W (.slice A2 x.length c2) rs from by rw [← HRN.out]; exact src_of RW.out N2.out)
      have HBX := Lib.hid hbx
      have hrl : rs.length ≤ 4194304 := by rw [HRN.out]; omega
      clear hW hob1 Hown B2 R2 hs5 hbx
      go_wp2_with fail
      refine (put_any w.heap.size ob1 (.slice none 0 0) (.slice A2 x.length c2) [] rs W HBX.out hob2 (World.ownsRow_nil _ _ _ _) SU.out (by simp; omega)).mono ?_
      rintro e w3 ⟨rfl, v3, l, hb3, ho3, hord, hperm, hbl⟩
      rw [List.nil_append] at hperm
      have c0 := hb3.cell0
      have c1 := hb3.cell1
      have O3 := Lib.hid ho3
      have HIX := Lib.hid (HID.out l hord hperm)
      have HSL := Lib.hid (HS.out.perm hperm)
      have B3 := Lib.hid (BW.out.trans hbl)
      have hll : l.length ≤ 1048577 := by rw [hperm.length_eq, HRN.out]; exact hl
      obtain ⟨A3, k3, rfl⟩ := owns_sliceE ho3
      have R3 := Lib.hid (rowsA_own ho3 rfl)
      have N3 := Lib.hid (owns_nilcap ho3)
      clear hb3 ho3 hord hperm hbl HBX SU RW BW HID
      obtain ⟨oR, hoR⟩ : ∃ oR, relOk l = oR := ⟨_, rfl⟩
      obtain ⟨TT, hTT⟩ : ∃ TT, treeL l = TT := ⟨_, rfl⟩
      have HIX2 := Lib.hid (tree_index l)
      have hmn := treeL_many l
      rw [hTT] at HIX2 hmn
      rw [hoR] at HIX
      go_wp2_with fail
      refine (treeOf_any A3 k3 l w3 R3.out N3.out hll HSL.out).mono ?_
      rw [hoR, hTT]
      have HTT := Lib.hid hTT
      clear hoR hTT c0 c1 hll R3 N3 O3
      rintro e w4 ⟨p4, rfl, ht4, hb4⟩
      have T4 := Lib.hid ht4
      have B4 := Lib.hid (B3.out.trans (hb4.mono B3.out.size))
      clear ht4 hb4 B3
      cases oR
      · have HF := Lib.hid (show ob = false from by
          cases ob with
          | false => rfl
          | true => exact absurd (HIX.out.1.2 rfl).1 (by simp))
        go_wp2
        refine bodyPost_ret (v := .tuple #[.pointer none, .bool false]) (by simp [results, Try.results96, go_sem]) rfl ?_
        rw [HF.out, HTF.out HF.out]
        exact ⟨none, rfl, rfl, B4.out⟩
      · go_wp2_with fail
        refine (treeList_any TT p4 w4 T4.out (by omega)).mono ?_
        rw [HIX2.out]
        obtain ⟨ys, hys⟩ : ∃ ys, indexL l = ys := ⟨_, rfl⟩
        have hyl := indexL_len l
        rw [hys] at HIX hyl ⊢
        rintro e w5 ⟨A5, c5, rfl, ho, hb⟩
        have Y5 := Lib.hid (show NodsA w5 A5 ys from el_of_owns nodC_len ho)
        have T5 := Lib.hid (T4.out.below hb)
        have B5 := Lib.hid (B4.out.trans (hb.mono B4.out.size))
        clear ho hb T4 B4 hys
        go_wp2_with fail
        refine (EqualN_any A5 A c5 ca ys x w5 Y5.out (HX.out.below B5.out) (by unfold maxLen; omega)).mono ?_
        have HEQ := Lib.hid (eqNs_iff (xs := ys) (ys := x))
        obtain ⟨q, hq⟩ : ∃ q, eqNs ys x = q := ⟨_, rfl⟩
        rw [hq] at HEQ ⊢
        clear hq
        rintro e w6 ⟨rfl, hb⟩
        have T6 := Lib.hid (T5.out.below hb)
        have B6 := Lib.hid (B5.out.trans (hb.mono B5.out.size))
        clear hb T5 B5
        cases q
        · have HF := Lib.hid (show ob = false from by
            cases ob with
            | false => rfl
            | true => exact absurd (HEQ.out.2 (HIX.out.1.2 rfl).2) (by simp))
          go_wp2
          refine bodyPost_ret (v := .tuple #[.pointer none, .bool false]) (by simp [results, Try.results96, go_sem]) rfl ?_
          rw [HF.out, HTF.out HF.out]
          exact ⟨none, rfl, rfl, B6.out⟩
        · have HF := Lib.hid (show ob = true from HIX.out.1.1 ⟨by first | rfl | trivial, HEQ.out.1 (by first | rfl | trivial)⟩)
          go_wp2
          refine bodyPost_ret (v := .tuple #[.pointer p4, .bool true]) (by simp [results, Try.results96, go_sem]) rfl ?_
          rw [HF.out, HTN.out HF.out, HIX.out.2 (by first | rfl | trivial), HTT.out]
          exact ⟨p4, rfl, T6.out, B6.out⟩

set_option maxHeartbeats 1000000 in
theorem IndexOk_any (A : Option Addr) (ca : Nat) (x : List NodV) (w : World) (hx : NodsA w A x) (hl : x.length ≤ 1048577) (hs : ShortN x) :
    Calls Try.prog 42 #[.slice A x.length ca] w fun e w' => e = .returned (.bool (idxB x)) ∧ Below w.heap.size w w' := by
  have HC := Lib.hid (treeIn_any A ca x w hx hl hs)
  obtain ⟨T, hT⟩ : ∃ T, treeN x = T := ⟨_, rfl⟩
  obtain ⟨ob, hob⟩ : ∃ ob, idxB x = ob := ⟨_, rfl⟩
  rw [hT, hob] at HC
  rw [hob]
  clear hx hs hT hob
  go_enter Try.func42, Try.ntmps42
  go_wp2_with fail
  refine HC.out.mono ?_
  rintro e w2 ⟨p, rfl, -, hb⟩
  go_wp2
  go_ret
  exact ⟨rfl, hb⟩
end Go.Proofs.Ytphinkcfmdnpfaa
namespace Go.Proofs.Ytphinkcfmdnpfaa
open Go.Shelf Go.RowKit Go.Lib

/-- What IndexMeet answers. -/
def metR (x : List NodV) (a e : Int) : List RowV × Int := if idxB x = true then (if okB a e = true then ((meetT a e (treeN x)).1, ((meetT a e (treeN x)).2 : Int)) else ([], -1)) else ([], -1)
theorem metR_in {x : List NodV} {a e : Int} (h1 : idxB x = true) (h2 : okB a e = true) : metR x a e = ((meetT a e (treeN x)).1, ((meetT a e (treeN x)).2 : Int)) := by unfold metR; rw [if_pos h1, if_pos h2]
theorem metR_off {x : List NodV} {a e : Int} (h1 : idxB x = false) : metR x a e = ([], -1) := by unfold metR; rw [if_neg (by rw [h1]; simp)]
theorem metR_bad {x : List NodV} {a e : Int} (h1 : idxB x = true) (h2 : okB a e = false) : metR x a e = ([], -1) := by unfold metR; rw [if_pos h1, if_neg (by rw [h2]; simp)]
theorem okB_ltI {a e : Int} (h : okB a e = true) : a < e := by unfold okB at h; rw [decide_eq_true_eq] at h; omega
theorem treeN_at {x : List NodV} (h : idxB x = true) : treeN x = treeL (relOfL (rowsN x)) := if_pos h
theorem treeN_facts {x : List NodV} (h : idxB x = true) : (treeN x).list = x ∧ (treeN x).many ≤ 24 ∧ LeftT (treeN x) ∧ ∀ y ∈ (treeN x).rows, y.f < y.e := by
  obtain ⟨t, ht, hx, e0⟩ := idx_known h
  have e1 : treeN x = treeL t := by rw [treeN_at h, e0]
  rw [e1]
  refine ⟨by rw [tree_index, ← hx], treeL_many t, left_good (treeL_good t), fun y hy => ?_⟩
  rw [treeL_rows ht] at hy
  exact ((tight_rel ht).1 y ((sortF_perm t).subset hy)).2.1
theorem metR_len (x : List NodV) (a e : Int) : (metR x a e).1.length ≤ 24 ∧ -1 ≤ (metR x a e).2 ∧ (metR x a e).2 ≤ 24 := by
  cases h1 : idxB x with
  | false => rw [metR_off h1]; simp
  | true =>
    cases h2 : okB a e with
    | false => rw [metR_bad h1 h2]; simp
    | true =>
      rw [metR_in h1 h2]
      have h := meetT_many a e (treeN x)
      have h3 := (treeN_facts h1).2.1
      dsimp only
      omega

set_option maxRecDepth 100000 in
set_option maxHeartbeats 4000000 in
theorem IndexMeet_any (A : Option Addr) (ca : Nat) (x : List NodV) (a e : Int) (w : World) (hx : NodsA w A x) (hl : x.length ≤ 1048577) (hs : ShortN x) :
    Calls Try.prog 45 #[.slice A x.length ca, .agg #[.int .i64 a, .int .i64 e]] w (GetsRN w (metR x a e).1 (metR x a e).2) := by
  have HX := Lib.hid hx
  have HT := Lib.hid (fun w' (hb : Below w.heap.size w w') => treeIn_any A ca x w' (hx.below hb) hl hs)
  have HF := Lib.hid (treeN_facts (x := x))
  have HI := Lib.hid (metR_in (x := x) (a := a) (e := e))
  have HO := Lib.hid (metR_off (x := x) (a := a) (e := e))
  have HB := Lib.hid (metR_bad (x := x) (a := a) (e := e))
  have HOK := Lib.hid (fun w' => ok_any a e w')
  have HLT := Lib.hid (okB_ltI (a := a) (e := e))
  obtain ⟨M, hM⟩ : ∃ M, metR x a e = M := ⟨_, rfl⟩
  obtain ⟨T, hT⟩ : ∃ T, treeN x = T := ⟨_, rfl⟩
  obtain ⟨o1, ho1⟩ : ∃ o1, idxB x = o1 := ⟨_, rfl⟩
  obtain ⟨o2, ho2⟩ : ∃ o2, okB a e = o2 := ⟨_, rfl⟩
  rw [hM] at HI HO HB ⊢
  rw [hT] at HI HT HF
  rw [ho1] at HI HO HB HT HF
  rw [ho2] at HI HB HOK HLT
  clear hx hs hM hT ho1 ho2
  go_enter Try.func45, Try.ntmps45
  go_upto_region 1 with fail
  generalize hW : w.alloc _ = W0
  have s0 : W0.cell? ⟨w.heap.size, 0, none⟩ = some (.int .i64 a) := by rw [← hW]; simp [go_sem]
  have s1 : W0.cell? ⟨w.heap.size, 1, none⟩ = some (.int .i64 e) := by rw [← hW]; simp [go_sem]
  have ls : w.heap.size < W0.heap.size := by rw [← hW]; simp
  have B0 := Lib.hid (show Below w.heap.size w W0 from by rw [← hW]; exact (Below.refl _ _).alloc (Nat.le_refl _) _)
  clear hW
  go_wp2_with fail
  refine (HT.out W0 B0.out).mono ?_
  rintro ex w2 ⟨p, rfl, ht, hb⟩
  have T2 := Lib.hid ht
  have B2 := Lib.hid (B0.out.trans (hb.mono B0.out.size))
  replace s0 := cellBelow hb ls s0
  replace s1 := cellBelow hb ls s1
  replace ls : w.heap.size < w2.heap.size := Nat.lt_of_lt_of_le ls hb.size
  clear ht hb HT B0
  cases o1
  · have HM := Lib.hid (HO.out (by first | rfl | trivial))
    go_wp2
    refine bodyPost_ret (v := .tuple #[.slice none 0 0, .int .i64 (-1)]) (by simp [results, Try.results45, go_sem]) rfl ?_
    rw [HM.out]
    exact ⟨none, 0, rfl, World.ownsRow_nil _ _ _ _, B2.out⟩
  · go_wp2_with fail
    refine (HOK.out _).mono ?_
    rintro ex w3 ⟨rfl, hb⟩
    have T3 := Lib.hid (T2.out.below hb)
    have B3 := Lib.hid (B2.out.trans (hb.mono B2.out.size))
    replace s0 := cellBelow hb ls s0
    replace s1 := cellBelow hb ls s1
    clear hb T2 B2 HOK
    cases o2
    · have HM := Lib.hid (HB.out (by first | rfl | trivial) (by first | rfl | trivial))
      go_wp2
      refine bodyPost_ret (v := .tuple #[.slice none 0 0, .int .i64 (-1)]) (by simp [results, Try.results45, go_sem]) rfl ?_
      rw [HM.out]
      exact ⟨none, 0, rfl, World.ownsRow_nil _ _ _ _, B3.out⟩
    · have HM := Lib.hid (HI.out (by first | rfl | trivial) (by first | rfl | trivial))
      have HF2 := HF.out (by first | rfl | trivial)
      have HMM := Lib.hid (meeting_any a e (HLT.out (by first | rfl | trivial)) T p w3 T3.out (by have := HF2.2.1; omega) HF2.2.2.2)
      obtain ⟨m, hm⟩ : ∃ m, meetT a e T = m := ⟨_, rfl⟩
      rw [hm] at HM HMM
      clear HF2 hm
      go_wp2_with fail
      refine HMM.out.mono ?_
      rintro ex w4 ⟨A4, c4, rfl, ho, hb⟩
      have O4 := Lib.hid (ownsBase (base' := w.heap.size) ho B3.out.size)
      have B4 := Lib.hid (B3.out.trans (hb.mono B3.out.size))
      clear ho hb
      go_wp2
      refine bodyPost_ret (v := .tuple #[.slice A4 m.1.length c4, .int .i64 m.2]) (by simp [results, Try.results45, go_sem]) rfl ?_
      rw [HM.out]
      exact ⟨A4, c4, rfl, O4.out, B4.out⟩

set_option maxHeartbeats 1000000 in
theorem IndexStab_any (A : Option Addr) (ca : Nat) (x : List NodV) (c : Int) (w : World) (hx : NodsA w A x) (hl : x.length ≤ 1048577) (hs : ShortN x) :
    Calls Try.prog 48 #[.slice A x.length ca, .int .i64 c] w (GetsE rowC 4 70 w (metR x c (IntKind.i64.wrap (c + 1))).1) := by
  obtain ⟨c1, hc1⟩ : ∃ c1, IntKind.i64.wrap (c + 1) = c1 := ⟨_, rfl⟩
  rw [hc1]
  have HC := Lib.hid (IndexMeet_any A ca x c c1 w hx hl hs)
  obtain ⟨M, hM⟩ : ∃ M, metR x c c1 = M := ⟨_, rfl⟩
  rw [hM] at HC ⊢
  clear hx hs hM
  go_enter Try.func48, Try.ntmps48
  go_wp2_with fail
  refine HC.out.mono ?_
  rintro ex w2 ⟨A2, c2, rfl, ho, hb⟩
  have O2 := Lib.hid ho
  have B2 := Lib.hid hb
  clear ho hb
  go_wp2
  go_ret
  exact ⟨A2, c2, rfl, O2.out, B2.out⟩

set_option maxHeartbeats 1000000 in
theorem sIndexOk_any (A : Option Addr) (ca : Nat) (x : List NodV) (w : World) (hx : NodsA w A x) (hl : x.length ≤ 1048577) (hs : ShortN x) :
    Calls Try.prog 40 #[.slice A x.length ca] w fun e w' => e = .returned (.bool (idxB x)) ∧ Below w.heap.size w w' := by
  have HC := Lib.hid (l8Ok_any A ca x w hx hl hs)
  obtain ⟨ob, hob⟩ : ∃ ob, idxB x = ob := ⟨_, rfl⟩
  rw [hob] at HC ⊢
  clear hx hs hob
  go_enter Try.func40, Try.ntmps40
  go_wp2_with fail
  refine HC.out.mono ?_
  rintro e w2 ⟨rfl, hb⟩
  go_wp2
  go_ret
  exact ⟨rfl, hb⟩

set_option maxRecDepth 100000 in
set_option maxHeartbeats 4000000 in
theorem sIndexMeet_any (A : Option Addr) (ca : Nat) (x : List NodV) (a e : Int) (w : World) (hx : NodsA w A x) (hcap : x.length ≤ ca) (hl : x.length ≤ 1048577) (hs : ShortN x) :
    Calls Try.prog 43 #[.slice A x.length ca, .agg #[.int .i64 a, .int .i64 e]] w (GetsRN w (metR x a e).1 (metR x a e).2) := by
  obtain ⟨i0, hi, hz0, hz1, hz2⟩ := info_parts Try.infoR70
  have Hi := Lib.hid hi
  have Hz0 := Lib.hid hz0
  have Hz1 := Lib.hid hz1
  have Hz2 := Lib.hid hz2
  clear hi hz0 hz1 hz2
  have HX := Lib.hid hx
  have HT := Lib.hid (fun w' (hb : Below w.heap.size w w') => l8Ok_any A ca x w' (hx.below hb) hl hs)
  have HF := Lib.hid (treeN_facts (x := x))
  have HI := Lib.hid (metR_in (x := x) (a := a) (e := e))
  have HO := Lib.hid (metR_off (x := x) (a := a) (e := e))
  have HB := Lib.hid (metR_bad (x := x) (a := a) (e := e))
  have HOK := Lib.hid (fun w' => l1Ok_any a e w')
  have HCP := Lib.hid hcap
  obtain ⟨M, hM⟩ : ∃ M, metR x a e = M := ⟨_, rfl⟩
  obtain ⟨T, hT⟩ : ∃ T, treeN x = T := ⟨_, rfl⟩
  obtain ⟨o1, ho1⟩ : ∃ o1, idxB x = o1 := ⟨_, rfl⟩
  obtain ⟨o2, ho2⟩ : ∃ o2, okB a e = o2 := ⟨_, rfl⟩
  rw [hM] at HI HO HB ⊢
  rw [hT] at HI HF
  rw [ho1] at HI HO HB HT HF
  rw [ho2] at HI HB HOK
  clear hx hs hM hT ho1 ho2 hcap
  go_enter Try.func43, Try.ntmps43
  go_wp2_with fail
  generalize hW : w.alloc _ = W0
  have s0 : W0.cell? ⟨w.heap.size, 0, none⟩ = some (.int .i64 a) := by rw [← hW]; simp [go_sem]
  have s1 : W0.cell? ⟨w.heap.size, 1, none⟩ = some (.int .i64 e) := by rw [← hW]; simp [go_sem]
  have ls : w.heap.size < W0.heap.size := by rw [← hW]; simp
  have B0 := Lib.hid (show Below w.heap.size w W0 from by rw [← hW]; exact (Below.refl _ _).alloc (Nat.le_refl _) _)
  clear hW
  refine (HT.out W0 B0.out).mono ?_
  rintro ex w2 ⟨rfl, hb⟩
  have B2 := Lib.hid (B0.out.trans (hb.mono B0.out.size))
  replace s0 := cellBelow hb ls s0
  replace s1 := cellBelow hb ls s1
  replace ls : w.heap.size < w2.heap.size := Nat.lt_of_lt_of_le ls hb.size
  clear hb HT B0
  cases o1
  · have HM := Lib.hid (HO.out (by first | rfl | trivial))
    go_wp2
    refine bodyPost_ret (v := .tuple #[.slice none 0 0, .int .i64 (-1)]) (by simp [results, Try.results43, go_sem]) rfl ?_
    rw [HM.out]
    exact ⟨none, 0, rfl, World.ownsRow_nil _ _ _ _, B2.out⟩
  · go_wp2_with fail
    refine (HOK.out _).mono ?_
    rintro ex w3 ⟨rfl, hb⟩
    have B3 := Lib.hid (B2.out.trans (hb.mono B2.out.size))
    replace s0 := cellBelow hb ls s0
    replace s1 := cellBelow hb ls s1
    clear hb B2 HOK
    cases o2
    · have HM := Lib.hid (HB.out (by first | rfl | trivial) (by first | rfl | trivial))
      go_wp2
      refine bodyPost_ret (v := .tuple #[.slice none 0 0, .int .i64 (-1)]) (by simp [results, Try.results43, go_sem]) rfl ?_
      rw [HM.out]
      exact ⟨none, 0, rfl, World.ownsRow_nil _ _ _ _, B3.out⟩
    · have HM := Lib.hid (HI.out (by first | rfl | trivial) (by first | rfl | trivial))
      have HF2 := HF.out (by first | rfl | trivial)
      have HMM := Lib.hid (l8Meet_any a e T A ca w3 (by rw [HF2.1]; exact HX.out.below B3.out) (by rw [HF2.1]; exact HCP.out) (by have := HF2.2.1; omega) HF2.2.2.1)
      rw [HF2.1] at HMM
      have hmm := meetT_many a e T
      have hm24 := HF2.2.1
      obtain ⟨m, hm⟩ : ∃ m, meetT a e T = m := ⟨_, rfl⟩
      rw [hm] at HM HMM hmm
      have hml : m.1.length ≤ 24 := by omega
      clear HF2 hm hmm hm24
      go_wp2_with fail
      refine HMM.out.mono ?_
      rintro ex w4 ⟨A4, c4, rfl, ho, hb⟩
      have B4 := Lib.hid (B3.out.trans (hb.mono B3.out.size))
      have hal := (Below.refl w4.heap.size w4).alloc (Nat.le_refl _) (.cells #[] 70)
      have S4 := Lib.hid (src_of ((rowsA_own ho rfl).below hal) (owns_nilcap ho))
      have OL := Lib.hid (World.ownsRow_lit (base := w4.heap.size) (e := 70) (size := 4) w4 #[] 0 (by omega) (by simp [maxLen]) (by simp))
      have hs4 := B4.out.size
      have BA := Lib.hid hal
      clear ho hb HMM s0 s1 hal
      go_wp2_with (at_builtin; refine wpList_append_src _ rfl _ _ 23 rfl w4.heap.size 70 i0 _ 48 Try.underlying23 Hi.out Hz0.out Hz1.out Hz2.out rfl (.slice (some ⟨w4.heap.size, 0, none⟩) 0 0) 0 [] rfl OL.out _ m.1 rfl S4.out (by unfold maxLen; omega) (by omega) (by simp) ?_; rw [List.nil_append, Nat.zero_add]; intro v7 w7 ho7 hg7; obtain ⟨A7, k7, rfl⟩ := owns_formN ho7; have O7 := Lib.hid ho7; have B7 := Lib.hid (BA.out.grown hg7 (by simp) (fun i e => (OL.out.lt i e).1)); clear ho7 hg7)
      refine bodyPost_ret (v := .tuple #[.slice A7 m.1.length k7, .int .i64 m.2]) (by simp [results, Try.results43, go_sem]) rfl ?_
      rw [HM.out]
      exact ⟨A7, k7, rfl, owns_baseE O7.out hs4, B4.out.trans (B7.out.mono hs4)⟩

theorem stab_off {c : Int} (h : inB c 0 99 = false) : okB c (IntKind.i64.wrap (c + 1)) = false := by
  unfold inB at h
  unfold okB
  rw [decide_eq_false_iff_not] at h ⊢
  intro ⟨h1, h2, h3⟩
  by_cases h4 : c ≤ 1000
  · have : IntKind.i64.wrap (c + 1) = c + 1 := IntWalk.i64_in _ (by omega)
    omega
  · omega
theorem stab_in {c : Int} (h : inB c 0 99 = true) : IntKind.i64.wrap (c + 1) = c + 1 ∧ okB c (c + 1) = true := by
  unfold inB at h
  rw [decide_eq_true_eq] at h
  refine ⟨IntWalk.i64_in _ (by omega), ?_⟩
  unfold okB
  rw [decide_eq_true_eq]
  omega

set_option maxRecDepth 100000 in
set_option maxHeartbeats 4000000 in
theorem sIndexStab_any (A : Option Addr) (ca : Nat) (x : List NodV) (c : Int) (w : World) (hx : NodsA w A x) (hcap : x.length ≤ ca) (hl : x.length ≤ 1048577) (hs : ShortN x) :
    Calls Try.prog 47 #[.slice A x.length ca, .int .i64 c] w (GetsE rowC 4 70 w (metR x c (IntKind.i64.wrap (c + 1))).1) := by
  obtain ⟨i0, hi, hz0, hz1, hz2⟩ := info_parts Try.infoR70
  have Hi := Lib.hid hi
  have Hz0 := Lib.hid hz0
  have Hz1 := Lib.hid hz1
  have Hz2 := Lib.hid hz2
  clear hi hz0 hz1 hz2
  obtain ⟨c1, hc1⟩ : ∃ c1, IntKind.i64.wrap (c + 1) = c1 := ⟨_, rfl⟩
  have HX := Lib.hid hx
  have HT := Lib.hid (fun w' (hb : Below w.heap.size w w') => l8Ok_any A ca x w' (hx.below hb) hl hs)
  have HF := Lib.hid (treeN_facts (x := x))
  have HSO := Lib.hid (stab_off (c := c))
  have HSI := Lib.hid (stab_in (c := c))
  rw [hc1] at HSO HSI ⊢
  have HI := Lib.hid (metR_in (x := x) (a := c) (e := c1))
  have HO := Lib.hid (metR_off (x := x) (a := c) (e := c1))
  have HB := Lib.hid (metR_bad (x := x) (a := c) (e := c1))
  have HOK := Lib.hid (fun w' => in_any c 0 99 w')
  have HCP := Lib.hid hcap
  obtain ⟨M, hM⟩ : ∃ M, metR x c c1 = M := ⟨_, rfl⟩
  obtain ⟨T, hT⟩ : ∃ T, treeN x = T := ⟨_, rfl⟩
  obtain ⟨o1, ho1⟩ : ∃ o1, idxB x = o1 := ⟨_, rfl⟩
  obtain ⟨o2, ho2⟩ : ∃ o2, inB c 0 99 = o2 := ⟨_, rfl⟩
  rw [hM] at HI HO HB ⊢
  rw [hT] at HI HF
  rw [ho1] at HI HO HB HT HF
  rw [ho2] at HSO HSI HOK
  clear hx hs hM hT ho1 ho2 hcap
  go_enter Try.func47, Try.ntmps47
  go_wp2_with fail
  refine (HT.out _ (Below.refl _ _)).mono ?_
  rintro ex w2 ⟨rfl, hb⟩
  have B2 := Lib.hid hb
  clear hb HT
  cases o1
  · have HM := Lib.hid (HO.out (by first | rfl | trivial))
    go_wp2
    go_ret
    rw [HM.out]
    exact getsE_nil _ _ _ B2.out
  · go_wp2_with fail
    refine (HOK.out _).mono ?_
    rintro ex w3 ⟨rfl, hw3⟩
    rw [← hw3]
    clear hw3 HOK
    cases o2
    · have HM := Lib.hid (HB.out (by first | rfl | trivial) (HSO.out (by first | rfl | trivial)))
      go_wp2
      go_ret
      rw [HM.out]
      exact getsE_nil _ _ _ B2.out
    · obtain ⟨hq1, hq2⟩ := HSI.out (by first | rfl | trivial)
      rw [← hq1] at hq2
      have HM := Lib.hid (HI.out (by first | rfl | trivial) hq2)
      have HF2 := HF.out (by first | rfl | trivial)
      have HMM := Lib.hid (l8Meet_any c c1 T A ca w2 (by rw [HF2.1]; exact HX.out.below B2.out) (by rw [HF2.1]; exact HCP.out) (by have := HF2.2.1; omega) HF2.2.2.1)
      rw [HF2.1] at HMM
      have hmm := meetT_many c c1 T
      have hm24 := HF2.2.1
      obtain ⟨m, hm⟩ : ∃ m, meetT c c1 T = m := ⟨_, rfl⟩
      rw [hm] at HM HMM hmm
      have hml : m.1.length ≤ 24 := by omega
      clear HF2 hm hmm hm24 hq1 hq2
      go_wp2_with fail
      refine HMM.out.mono ?_
      rintro ex w4 ⟨A4, c4, rfl, ho, hb⟩
      have B4 := Lib.hid (B2.out.trans (hb.mono B2.out.size))
      have hal := (Below.refl w4.heap.size w4).alloc (Nat.le_refl _) (.cells #[] 70)
      have S4 := Lib.hid (src_of ((rowsA_own ho rfl).below hal) (owns_nilcap ho))
      have OL := Lib.hid (World.ownsRow_lit (base := w4.heap.size) (e := 70) (size := 4) w4 #[] 0 (by omega) (by simp [maxLen]) (by simp))
      have hs4 := B4.out.size
      have BA := Lib.hid hal
      clear ho hb HMM hal
      go_wp2_with (at_builtin; refine wpList_append_src _ rfl _ _ 23 rfl w4.heap.size 70 i0 _ 48 Try.underlying23 Hi.out Hz0.out Hz1.out Hz2.out rfl (.slice (some ⟨w4.heap.size, 0, none⟩) 0 0) 0 [] rfl OL.out _ m.1 rfl S4.out (by unfold maxLen; omega) (by omega) (by simp) ?_; rw [List.nil_append, Nat.zero_add]; intro v7 w7 ho7 hg7; obtain ⟨A7, k7, rfl⟩ := owns_formN ho7; have O7 := Lib.hid ho7; have B7 := Lib.hid (BA.out.grown hg7 (by simp) (fun i e => (OL.out.lt i e).1)); clear ho7 hg7)
      go_ret
      rw [HM.out]
      exact ⟨A7, k7, rfl, owns_baseE O7.out hs4, B4.out.trans (B7.out.mono hs4)⟩
end Go.Proofs.Ytphinkcfmdnpfaa
