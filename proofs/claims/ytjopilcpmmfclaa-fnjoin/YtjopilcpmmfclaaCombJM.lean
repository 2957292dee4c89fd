/-
  Walk: both texts where two tables have a key, as the model makes them.
-/
import Derived.Test.YtjopilcpmmfclaaCombN
namespace Go.Proofs.Ytjopilcpmmfclaa
open Go.Shelf Go.RowKit Go.Lib Go.Sort

theorem joinAll_take {a b : List RowV} {i : Nat} {x : RowV} (hx : a[i]? = some x) : joinAll (a.take (i + 1)) b = joinAll (a.take i) b ++ b.filterMap (joinRow x) := by
  obtain ⟨hk, rfl⟩ := List.getElem?_eq_some_iff.1 hx
  unfold joinAll
  rw [List.take_succ_eq_append_getElem hk, List.flatMap_append]
  simp
theorem filt_no {b : List RowV} {x y : RowV} {k : Nat} (hy : b[k]? = some y) (h : meetB x y = false) : (b.take (k + 1)).filterMap (joinRow x) = (b.take k).filterMap (joinRow x) := by
  obtain ⟨hk, rfl⟩ := List.getElem?_eq_some_iff.1 hy
  have e : joinRow x b[k] = none := by unfold joinRow; rw [if_neg (by rw [h]; simp)]
  rw [List.take_succ_eq_append_getElem hk, List.filterMap_append]
  simp [e]
theorem filt_yes {b : List RowV} {x y : RowV} {k : Nat} (hy : b[k]? = some y) (h : meetB x y = true) : (b.take (k + 1)).filterMap (joinRow x) = (b.take k).filterMap (joinRow x) ++ [⟨x.k, joinT x.t y.t, max x.f y.f, min x.e y.e⟩] := by
  obtain ⟨hk, rfl⟩ := List.getElem?_eq_some_iff.1 hy
  have e : joinRow x b[k] = some ⟨x.k, joinT x.t b[k].t, max x.f b[k].f, min x.e b[k].e⟩ := by unfold joinRow; rw [if_pos h]
  rw [List.take_succ_eq_append_getElem hk, List.filterMap_append]
  simp [e]
theorem meet_split (x y : RowV) : meetB x y = ((x.k.toList == y.k.toList) && mB x.f x.e y.f y.e) := rfl
theorem joinPut_app (l m : List RowV) : (l ++ m).foldl putR [] = m.foldl putR (l.foldl putR []) := List.foldl_append
def AtMeetJ (wr : World) (x1 x2 y1 y2 : Int) (s8 s9 : Value) (wx : World) : Prop :=
  ∃ g' : Nat, s8 = .pointer (some ⟨g', 0, none⟩) ∧ s9 = .bool (mB x1 x2 y1 y2) ∧ wx.cell? ⟨g', 0, none⟩ = some (.int .i64 (max x1 y1)) ∧ wx.cell? ⟨g', 1, none⟩ = some (.int .i64 (min x2 y2)) ∧ g' < wx.heap.size ∧ Below wr.heap.size wr wx

set_option maxRecDepth 100000 in
set_option maxHeartbeats 4000000 in
theorem sRelJoin_any (A B : Option Addr) (ca cc : Nat) (a b : List RowV) (w : World) (hx : RowsA w A a) (hy : RowsA w B b) (hA : A = none → ca = 0) (hB : B = none → cc = 0) (hla : a.length ≤ 1048577) (hlb : b.length ≤ 1048577) (hsa : Short a) (hsb : Short b) :
    Calls Try.prog 16 #[.slice A a.length ca, .slice B b.length cc] w (GetsRB w (relJoinS a b)) := by
  have HX := Lib.hid hx
  have HY := Lib.hid hy
  have HA := Lib.hid hA
  have HB := Lib.hid hB
  have HSA := Lib.hid hsa
  have HSB := Lib.hid hsb
  obtain ⟨oa, hoa⟩ : ∃ oa, relOk a = oa := ⟨_, rfl⟩
  have HOA := Lib.hid hoa
  obtain ⟨ob, hob⟩ : ∃ ob, relOk b = ob := ⟨_, rfl⟩
  have HOB := Lib.hid hob
  clear hx hy hA hB hsa hsb hoa hob
  go_enter Try.func16, Try.ntmps16
  go_wp2_with fail
  generalize hW : w.alloc _ = W0
  have hW2 : W0 = w.alloc (.cells #[] 60) := hW.symm
  have HOL := Lib.hid (show W0.ownsRow w.heap.size 60 4 (.slice (some ⟨w.heap.size, 0, none⟩) 0 0) 0 (flatOf rowC []) from by rw [hW2]; exact World.ownsRow_lit (base := w.heap.size) (e := 60) (size := 4) w #[] 0 (by simp) (by simp [maxLen]) (by simp))
  have B0 := Lib.hid (show Below w.heap.size w W0 from by rw [← hW]; exact (Below.refl _ _).alloc (Nat.le_refl _) _)
  clear hW hW2
  refine (l2Ok_any A ca a _ (HX.out.below B0.out) hla HSA.out).mono ?_
  rw [HOA.out]
  rintro e w1 ⟨rfl, hb⟩
  have B1 := Lib.hid (B0.out.trans (hb.mono B0.out.size))
  have OL1 := Lib.hid (ownsKeep HOL.out hb)
  clear hb
  cases oa
  · have HR := Lib.hid (show relJoinS a b = ([], false) from by unfold relJoinS combS; rw [if_neg (by rw [HOA.out]; simp)])
    go_wp2
    refine bodyPost_ret (v := .tuple #[.slice none 0 0, .bool false]) (by simp [results, Try.results16, go_sem]) rfl ?_
    rw [HR.out]
    exact ⟨none, 0, rfl, World.ownsRow_nil _ _ _ _, B1.out⟩
  · go_wp2_with fail
    refine (l2Ok_any B cc b _ (HY.out.below B1.out) hlb HSB.out).mono ?_
    rw [HOB.out]
    rintro e w2 ⟨rfl, hb⟩
    have B2 := Lib.hid (B1.out.trans (hb.mono B1.out.size))
    have OL2 := Lib.hid (ownsKeep OL1.out hb)
    clear hb B1
    cases ob
    · have HR := Lib.hid (show relJoinS a b = ([], false) from by unfold relJoinS combS; rw [if_pos HOA.out, if_neg (by rw [HOB.out]; simp)])
      go_wp2
      refine bodyPost_ret (v := .tuple #[.slice none 0 0, .bool false]) (by simp [results, Try.results16, go_sem]) rfl ?_
      rw [HR.out]
      exact ⟨none, 0, rfl, World.ownsRow_nil _ _ _ _, B2.out⟩
    · have HR := Lib.hid (show relJoinS a b = fullL (joinRows (joinPut a b)) from by unfold relJoinS combS; rw [if_pos HOA.out, if_pos HOB.out])
      have hl1 := ((relOk_iff a).1 HOA.out).1
      have hl2 := ((relOk_iff b).1 HOB.out).1
      have HRA := Lib.hid ((relOk_iff a).1 HOA.out).2
      have HRB := Lib.hid ((relOk_iff b).1 HOB.out).2
      have hjl := joinRows_len (joinPut a b)
      have hpl : (joinPut a b).length ≤ 576 := by
        rw [(joinPut_lay HOA.out HOB.out).2.length_eq]
        exact Nat.le_trans (joinAll_len a b) (Nat.le_trans (Nat.mul_le_mul hl1 hl2) (by omega))
      have SX := Lib.hid (show Short (joinRows (joinPut a b)) from Short.join (fun r hr => by
        obtain ⟨x, hx, y, hy, h⟩ := joinAll_mem.1 ((joinPut_lay HOA.out HOB.out).2.subset hr)
        obtain ⟨_, e1, e2, _, _⟩ := joinRow_in h
        have h1 := ok_small HOA.out x hx
        have h2 := ok_small HOB.out y hy
        rw [e1, e2]
        refine ⟨by unfold maxLen; omega, ?_⟩
        show (x.t ++ plusB ++ y.t).size ≤ maxLen
        rw [ByteArray.size_append, ByteArray.size_append]
        have h5 : plusB.size = 1 := rfl
        unfold maxLen
        omega))
      have SMA := Lib.hid (ok_small HOA.out)
      have SMB := Lib.hid (ok_small HOB.out)
      have HJP := Lib.hid (show (joinAll a b).foldl putR [] = joinPut a b from rfl)
      go_wp2
      go_loopw [6, 7] (fun v iv wr => ∃ i : Nat, i ≤ a.length ∧ iv = .int .i64 i ∧ wr.ownsRow w.heap.size 60 4 v ((joinAll (a.take i) b).foldl putR []).length (flatOf rowC ((joinAll (a.take i) b).foldl putR [])) ∧ Below w.heap.size w wr) (fun _ iv _ => a.length - (intOf iv).toNat)
      case atStart => exact ⟨0, Nat.zero_le _, rfl, OL2.out, B2.out⟩
      case round =>
        obtain ⟨i, hi, rfl, hown, hbr⟩ := hrel
        have HownO := Lib.hid hown
        clear hown
        by_cases hlt : i < a.length
        · obtain ⟨x, hxi⟩ : ∃ x, a[i]? = some x := ⟨_, List.getElem?_eq_getElem hlt⟩
          have HXI := Lib.hid hxi
          have HTO := Lib.hid (joinAll_take (b := b) hxi)
          have hpre := joinAll_len (a.take i) b
          replace hpre : (joinAll (a.take i) b).length ≤ 576 := Nat.le_trans hpre (Nat.le_trans (Nat.mul_le_mul (by rw [List.length_take]; omega) hl2) (by omega : 24 * 24 ≤ 576))
          obtain ⟨pre, hprE⟩ : ∃ pre, joinAll (a.take i) b = pre := ⟨_, rfl⟩
          rw [hprE] at HownO HTO hpre
          have sxa := SMA.out x (List.mem_of_getElem? hxi)
          have hiz : (i : Int) < (a.length : Int) := by omega
          have hiz0 : (0 : Int) ≤ (i : Int) := by omega
          clear hprE hxi
          go_wp2
          go_loopw [6, 8] (fun v kv wi => ∃ k : Nat, k ≤ b.length ∧ kv = .int .i64 k ∧ wi.ownsRow w.heap.size 60 4 v ((pre ++ (b.take k).filterMap (joinRow x)).foldl putR []).length (flatOf rowC ((pre ++ (b.take k).filterMap (joinRow x)).foldl putR [])) ∧ Below w.heap.size w wi) (fun _ kv _ => b.length - (intOf kv).toNat)
          case atStart => exact ⟨0, Nat.zero_le _, rfl, by simpa using HownO.out, hbr⟩
          case round =>
            obtain ⟨k, hk, rfl, hown, hbr⟩ := hrel
            have hll : ((pre ++ (b.take k).filterMap (joinRow x)).foldl putR []).length ≤ 600 := by
              rw [fold_len, List.length_append]
              have := filterMap_len x (b.take k)
              rw [List.length_take] at this
              simp only [List.length_nil]
              omega
            by_cases hlt2 : k < b.length
            · obtain ⟨b0, off, x', eA, hb0, hx', c0, c1, c2, c3⟩ := (HX.out.below hbr).at_ hlt
              obtain rfl : x = x' := by have := HXI.out; rw [hx'] at this; injection this with h; exact h.symm
              obtain ⟨b1, off1, y, eB, hb1, hy, d0, d1, d2, d3⟩ := (HY.out.below hbr).at_ hlt2
              subst eA eB
              have HYK := Lib.hid hy
              have HFo := Lib.hid (joinPut_app pre ((b.take k).filterMap (joinRow x)))
              obtain ⟨oo, hoo⟩ : ∃ oo, (pre ++ (b.take k).filterMap (joinRow x)).foldl putR [] = oo := ⟨_, rfl⟩
              have HOO := Lib.hid hoo
              rw [hoo] at hown hll
              obtain ⟨A5, c5, rfl⟩ := owns_formN hown
              have Hown := Lib.hid hown
              have syb := SMB.out y (List.mem_of_getElem? hy)
              have hkz : (k : Int) < (b.length : Int) := by omega
              have hkz0 : (0 : Int) ≤ (k : Int) := by omega
              have hs5 := hbr.size
              have hq0 : Below wr.heap.size wr wr := Below.refl _ _
              clear hx' hy hoo hown
              go_upto_region 10 with fail
              go_cut [9, 10] (fun s9 s10 wx => AtMeetJ wr x.f x.e y.f y.e s9 s10 wx)
              case first =>
                go_region_held3 (fun w' => w'.cell? ⟨b0, off + i * 4 + 2, none⟩ = some (.int .i64 x.f) ∧ w'.cell? ⟨b0, off + i * 4 + 3, none⟩ = some (.int .i64 x.e) ∧ w'.cell? ⟨b1, off1 + k * 4 + 2, none⟩ = some (.int .i64 y.f) ∧ w'.cell? ⟨b1, off1 + k * 4 + 3, none⟩ = some (.int .i64 y.e) ∧ wr.heap.size ≤ w'.heap.size ∧ Below wr.heap.size wr w')
                  (((try go_split_ands); refine ⟨?cc90, ?cc91, ?cc92, ?cc93, ?sz9, ?bl9⟩; (case cc90 => (repeat (first | with_reducible assumption | with_reducible refine cell_below hb (by first | omega | (simp; done) | (simp; omega)) ?_ | with_reducible refine cell_set_far (by first | omega | (simp; done) | (simp; omega)) ?_ | with_reducible exact cell_alloc_swap (by with_reducible assumption) (by first | omega | (simp; done) | (simp; omega)) | with_reducible refine cell_alloc_far ?_ | with_reducible refine cell_drew ?_))); (case cc91 => (repeat (first | with_reducible assumption | with_reducible refine cell_below hb (by first | omega | (simp; done) | (simp; omega)) ?_ | with_reducible refine cell_set_far (by first | omega | (simp; done) | (simp; omega)) ?_ | with_reducible exact cell_alloc_swap (by with_reducible assumption) (by first | omega | (simp; done) | (simp; omega)) | with_reducible refine cell_alloc_far ?_ | with_reducible refine cell_drew ?_))); (case cc92 => (repeat (first | with_reducible assumption | with_reducible refine cell_below hb (by first | omega | (simp; done) | (simp; omega)) ?_ | with_reducible refine cell_set_far (by first | omega | (simp; done) | (simp; omega)) ?_ | with_reducible exact cell_alloc_swap (by with_reducible assumption) (by first | omega | (simp; done) | (simp; omega)) | with_reducible refine cell_alloc_far ?_ | with_reducible refine cell_drew ?_))); (case cc93 => (repeat (first | with_reducible assumption | with_reducible refine cell_below hb (by first | omega | (simp; done) | (simp; omega)) ?_ | with_reducible refine cell_set_far (by first | omega | (simp; done) | (simp; omega)) ?_ | with_reducible exact cell_alloc_swap (by with_reducible assumption) (by first | omega | (simp; done) | (simp; omega)) | with_reducible refine cell_alloc_far ?_ | with_reducible refine cell_drew ?_))); (case sz9 => (first | with_reducible assumption | (have := hb.size; omega) | omega | (simp; done) | (simp; omega) | (have := hb.size; simp at this ⊢; omega))); (case bl9 => (repeat (first | with_reducible assumption | with_reducible exact hq0 | with_reducible refine Below.drew ?_ | with_reducible refine Below.trans ?_ (hb.mono (by first | omega | (simp; done) | (simp; omega))) | with_reducible refine Below.setCell ?_ (by first | omega | (simp; done) | (simp; omega)) _ | with_reducible exact below_alloc_swap (by with_reducible assumption) (by first | omega | (simp; done) | (simp; omega)) | with_reducible refine Below.alloc ?_ (by first | omega | (simp; done) | (simp; omega)) _)))))
                  ((go_at_call 49; refine (l1Meet_any _ _ _ _ _).mono ?_; rintro e w1 ⟨rfl, hb⟩; have hsz : wr.heap.size ≤ w1.heap.size := (by have := hb.size; first | omega | (simp at this; omega)); obtain ⟨hc, hf, hlb⟩ := bcell3 hb; (try (have hz2 : wr.heap.size < w1.heap.size := (by have := hb.size; first | omega | (simp at this; omega))))))
                all_goals (go_wp2_with fail; go_meet; unfold AtMeetJ; rename_i hH; obtain ⟨z0, z1, z2, z3, z4, z5⟩ := hH; refine ⟨_, rfl, rfl, ?_, ?_, ?_, z5⟩)
                any_goals (first | omega | (simp; omega) | (go_simp; done) | (simp (maxDischargeDepth := 6) [*, go_sem]; done))
                all_goals go_show
              case rest =>
                obtain ⟨g', rfl, rfl, k0, k1, lg, hbM⟩ := hcut
                have OM := Lib.hid (ownsKeep Hown.out hbM)
                have BM := Lib.hid (hbr.trans (hbM.mono hbr.size))
                replace c0 := cellBelow hbM hb0 c0
                replace c1 := cellBelow hbM hb0 c1
                replace d0 := cellBelow hbM hb1 d0
                replace d1 := cellBelow hbM hb1 d1
                have lb0 : b0 < wc.heap.size := Nat.lt_of_lt_of_le hb0 hbM.size
                have lb1 : b1 < wc.heap.size := Nat.lt_of_lt_of_le hb1 hbM.size
                have hsM := BM.out.size
                clear hbM hbr hq0 c2 c3 d2 d3 Hown hb0 hb1
                cases hm : mB x.f x.e y.f y.e
                · have HE := Lib.hid (show (pre ++ (b.take (k + 1)).filterMap (joinRow x)).foldl putR [] = oo from by rw [filt_no HYK.out (by rw [meet_split, hm, Bool.and_false]), HOO.out])
                  go_wp2_with fail
                  go_quiet (fail)
                  have BN := Lib.hid (show Below w.heap.size w (wc.drewN nq) from below_drewN BM.out _)
                  have ON := Lib.hid (show (wc.drewN nq).ownsRow w.heap.size 60 4 (.slice A5 oo.length c5) oo.length (flatOf rowC oo) from OM.out)
                  go_wp2
                  go_roundw
                  case rel => exact ⟨k + 1, by omega, by go_num, by rw [HE.out]; exact ON.out, BN.out⟩
                  case measure => simp [intOf]; omega
                · cases hkk : (x.k.toList == y.k.toList)
                  · have HE := Lib.hid (show (pre ++ (b.take (k + 1)).filterMap (joinRow x)).foldl putR [] = oo from by rw [filt_no HYK.out (by rw [meet_split, hkk, Bool.false_and]), HOO.out])
                    go_wp2_with fail
                    go_quiet (fail)
                    have BN := Lib.hid (show Below w.heap.size w (wc.drewN nq) from below_drewN BM.out _)
                    have ON := Lib.hid (show (wc.drewN nq).ownsRow w.heap.size 60 4 (.slice A5 oo.length c5) oo.length (flatOf rowC oo) from OM.out)
                    go_wp2
                    go_roundw
                    case rel => exact ⟨k + 1, by omega, by go_num, by rw [HE.out]; exact ON.out, BN.out⟩
                    case measure => simp [intOf]; omega
                  · have HE := Lib.hid (show (pre ++ (b.take (k + 1)).filterMap (joinRow x)).foldl putR [] = putR oo ⟨x.k, joinT x.t y.t, max x.f y.f, min x.e y.e⟩ from by rw [filt_yes HYK.out (by rw [meet_split, hkk, hm]; rfl), ← List.append_assoc, joinPut_app, HOO.out]; rfl)
                    generalize max x.f y.f = f9 at *
                    generalize min x.e y.e = t9 at *
                    go_wp2_with fail
                    go_quiet (fail)
                    have BN := Lib.hid (show Below w.heap.size w (wc.drewN nq) from below_drewN BM.out _)
                    have ON := Lib.hid (show (wc.drewN nq).ownsRow w.heap.size 60 4 (.slice A5 oo.length c5) oo.length (flatOf rowC oo) from OM.out)
                    replace c0 : (wc.drewN nq).cell? ⟨b0, off + i * 4, none⟩ = some (.string x.k) := c0
                    replace c1 : (wc.drewN nq).cell? ⟨b0, off + i * 4 + 1, none⟩ = some (.string x.t) := c1
                    replace d1 : (wc.drewN nq).cell? ⟨b1, off1 + k * 4 + 1, none⟩ = some (.string y.t) := d1
                    replace k0 : (wc.drewN nq).cell? ⟨g', 0, none⟩ = some (.int .i64 f9) := k0
                    replace k1 : (wc.drewN nq).cell? ⟨g', 1, none⟩ = some (.int .i64 t9) := k1
                    replace hsM : w.heap.size ≤ (wc.drewN nq).heap.size := hsM
                    replace lb0 : b0 < (wc.drewN nq).heap.size := lb0
                    replace lb1 : b1 < (wc.drewN nq).heap.size := lb1
                    replace lg : g' < (wc.drewN nq).heap.size := lg
                    clear OM BM d0
                    generalize wc.drewN nq = W1 at *
                    have X5 := Lib.hid (show RowsA W1 A5 oo from el_of_owns rowC_len ON.out)
                    have hu1 : ∀ W : World, (Op.stringOp .add x.t (⟨#[43]⟩ : ByteArray)).run Try.prog W = .ok (.string (x.t ++ plusB)) W := fun W => str_add2 x.t ⟨#[43]⟩ (by omega) (by decide) W
                    have hpl2 : (x.t ++ plusB).size ≤ 10 := by rw [ByteArray.size_append]; have : plusB.size = 1 := rfl; omega
                    obtain ⟨y1, hy1⟩ : ∃ y1, x.t ++ plusB = y1 := ⟨_, rfl⟩
                    have HJ := Lib.hid (show joinT x.t y.t = y1 ++ y.t from by rw [← hy1]; rfl)
                    rw [hy1] at hu1 hpl2
                    have hu2 : ∀ W : World, (Op.stringOp .add y1 y.t).run Try.prog W = .ok (.string (y1 ++ y.t)) W := fun W => str_add2 y1 y.t (by omega) (by omega) W
                    obtain ⟨y2, hy2⟩ : ∃ y2, y1 ++ y.t = y2 := ⟨_, rfl⟩
                    rw [hy2] at HJ hu2
                    rw [HJ.out] at HE
                    clear hy1 hy2
                    have hq1 : Below W1.heap.size W1 W1 := Below.refl _ _
                    go_upto_region 12 with fail
                    go_region_held3 (fun w' => w'.cell? ⟨b0, off + i * 4, none⟩ = some (.string x.k) ∧ w'.cell? ⟨b0, off + i * 4 + 1, none⟩ = some (.string x.t) ∧ w'.cell? ⟨b1, off1 + k * 4 + 1, none⟩ = some (.string y.t) ∧ w'.cell? ⟨g', 0, none⟩ = some (.int .i64 f9) ∧ w'.cell? ⟨g', 1, none⟩ = some (.int .i64 t9) ∧ W1.heap.size ≤ w'.heap.size ∧ Below W1.heap.size W1 w')
                      (((try go_split_ands); refine ⟨?cc90, ?cc91, ?cc92, ?cc93, ?cc94, ?sz9, ?bl9⟩; (case cc90 => (repeat (first | with_reducible assumption | with_reducible refine cell_below hb (by first | omega | (simp; done) | (simp; omega)) ?_ | with_reducible refine cell_set_far (by first | omega | (simp; done) | (simp; omega)) ?_ | with_reducible exact cell_alloc_swap (by with_reducible assumption) (by first | omega | (simp; done) | (simp; omega)) | with_reducible refine cell_alloc_far ?_ | with_reducible refine cell_drew ?_))); (case cc91 => (repeat (first | with_reducible assumption | with_reducible refine cell_below hb (by first | omega | (simp; done) | (simp; omega)) ?_ | with_reducible refine cell_set_far (by first | omega | (simp; done) | (simp; omega)) ?_ | with_reducible exact cell_alloc_swap (by with_reducible assumption) (by first | omega | (simp; done) | (simp; omega)) | with_reducible refine cell_alloc_far ?_ | with_reducible refine cell_drew ?_))); (case cc92 => (repeat (first | with_reducible assumption | with_reducible refine cell_below hb (by first | omega | (simp; done) | (simp; omega)) ?_ | with_reducible refine cell_set_far (by first | omega | (simp; done) | (simp; omega)) ?_ | with_reducible exact cell_alloc_swap (by with_reducible assumption) (by first | omega | (simp; done) | (simp; omega)) | with_reducible refine cell_alloc_far ?_ | with_reducible refine cell_drew ?_))); (case cc93 => (repeat (first | with_reducible assumption | with_reducible refine cell_below hb (by first | omega | (simp; done) | (simp; omega)) ?_ | with_reducible refine cell_set_far (by first | omega | (simp; done) | (simp; omega)) ?_ | with_reducible exact cell_alloc_swap (by with_reducible assumption) (by first | omega | (simp; done) | (simp; omega)) | with_reducible refine cell_alloc_far ?_ | with_reducible refine cell_drew ?_))); (case cc94 => (repeat (first | with_reducible assumption | with_reducible refine cell_below hb (by first | omega | (simp; done) | (simp; omega)) ?_ | with_reducible refine cell_set_far (by first | omega | (simp; done) | (simp; omega)) ?_ | with_reducible exact cell_alloc_swap (by with_reducible assumption) (by first | omega | (simp; done) | (simp; omega)) | with_reducible refine cell_alloc_far ?_ | with_reducible refine cell_drew ?_))); (case sz9 => (first | with_reducible assumption | (have := hb.size; omega) | omega | (simp; done) | (simp; omega) | (have := hb.size; simp at this ⊢; omega))); (case bl9 => (repeat (first | with_reducible assumption | with_reducible exact hq1 | with_reducible refine Below.drew ?_ | with_reducible refine Below.trans ?_ (hb.mono (by first | omega | (simp; done) | (simp; omega))) | with_reducible refine Below.setCell ?_ (by first | omega | (simp; done) | (simp; omega)) _ | with_reducible exact below_alloc_swap (by with_reducible assumption) (by first | omega | (simp; done) | (simp; omega)) | with_reducible refine Below.alloc ?_ (by first | omega | (simp; done) | (simp; omega)) _)))))
                      ((go_at_call 50; (try go_split_ands); refine (l2Put_any A5 c5 oo ⟨x.k, y2, f9, t9⟩ _ (X5.out.below (by (repeat (first | with_reducible assumption | with_reducible exact hq1 | with_reducible refine Below.drew ?_ | with_reducible refine Below.trans ?_ (hb.mono (by first | omega | (simp; done) | (simp; omega))) | with_reducible refine Below.setCell ?_ (by first | omega | (simp; done) | (simp; omega)) _ | with_reducible exact below_alloc_swap (by with_reducible assumption) (by first | omega | (simp; done) | (simp; omega)) | with_reducible refine Below.alloc ?_ (by first | omega | (simp; done) | (simp; omega)) _)))) (owns_nilcap ON.out) (owns_cap ON.out) (by omega)).mono ?_; rintro e w1 ⟨A6, c6, rfl, ho6, hb⟩; have O6 := Lib.hid (ownsBase (base' := w.heap.size) ho6 (by first | omega | (simp; omega))); clear ho6; have hsz : W1.heap.size ≤ w1.heap.size := (by have := hb.size; first | omega | (simp at this; omega)); obtain ⟨hc, hf, hlb⟩ := bcell3 hb; (try (have hz2 : W1.heap.size < w1.heap.size := (by have := hb.size; first | omega | (simp at this; omega))))))
                    all_goals (rename_i hH; have B6 := Lib.hid (BN.out.trans (hH.2.2.2.2.2.2.mono hsM)))
                    all_goals clear hH
                    all_goals go_wp2
                    all_goals go_roundw
                    all_goals first
                      | (case rel => exact ⟨k + 1, by omega, by go_num, by rw [HE.out]; exact O6.out, B6.out⟩)
                      | (case measure => simp [intOf]; omega)
            · obtain rfl : k = b.length := by omega
              rw [List.take_length, ← HTO.out] at hown
              have Hown := Lib.hid hown
              clear hown
              go_wp2
              go_roundw
              case rel => exact ⟨i + 1, by omega, by go_num, Hown.out, hbr⟩
              case measure => simp [intOf]; omega
        · obtain rfl : i = a.length := by omega
          rw [List.take_length, HJP.out] at HownO
          obtain ⟨es, hes⟩ : ∃ es, joinPut a b = es := ⟨_, rfl⟩
          rw [hes] at HownO hpl hjl SX HR
          obtain ⟨XS, hXS⟩ : ∃ XS, joinRows es = XS := ⟨_, rfl⟩
          have HXS := Lib.hid hXS
          rw [hXS] at hjl SX HR
          have hxl2 : XS.length ≤ 600 := by omega
          clear hes hXS hjl
          obtain ⟨A5, c5, hv⟩ := owns_sliceE HownO.out
          subst hv
          have B5 := Lib.hid hbr
          clear hbr
          go_wp2_with fail
          refine (l2Join_any A5 c5 es _ (el_of_owns rowC_len HownO.out) (by omega)).mono ?_
          rw [HXS.out]
          rintro e w5 ⟨AX, cX, rfl, ho, hb⟩
          have OX := Lib.hid (ownsBase (base' := w.heap.size) ho B5.out.size)
          have BX := Lib.hid (B5.out.trans (hb.mono B5.out.size))
          clear ho hb B5 HownO
          go_wp2_with fail
          refine (l4Full_any w.heap.size AX cX XS _ OX.out (by omega) SX.out).mono ?_
          rintro e wZ ⟨AZ, cZ, rfl, ho, hb⟩
          rw [← HR.out] at ho ⊢
          have OZ := Lib.hid ho
          have BZ := Lib.hid (BX.out.trans (hb.mono BX.out.size))
          clear ho hb
          go_wp2
          refine bodyPost_ret (v := .tuple #[.slice AZ (relJoinS a b).1.length cZ, .bool (relJoinS a b).2]) (by simp [results, Try.results16, go_sem]) rfl ?_
          exact ⟨AZ, cZ, rfl, OZ.out, BZ.out⟩
end Go.Proofs.Ytjopilcpmmfclaa
