/-
  Walks: the first table without the second, in both, in either, picked, as the model makes them.
-/
import Derived.Test.YtphinkcfmdnpfaaCombI
import Derived.Test.YtphinkcfmdnpfaaCutS
import Derived.Test.YtphinkcfmdnpfaaConcP
import Derived.Test.YtphinkcfmdnpfaaDmlL
namespace Go.Proofs.Ytphinkcfmdnpfaa
open Go.Shelf Go.RowKit Go.Lib Go.Sort

/-- A slice of rows that lies behind base, and a bool. -/
def FullAt (base : Nat) (w : World) (p : List RowV × Bool) (e : Ending) (w' : World) : Prop :=
  ∃ A cap, e = .returned (.tuple #[.slice A p.1.length cap, .bool p.2]) ∧ w'.ownsRow base 70 4 (.slice A p.1.length cap) p.1.length (flatOf rowC p.1) ∧ Below w.heap.size w w'

set_option maxHeartbeats 1000000 in
theorem l4Full_any (base : Nat) (A : Option Addr) (cap : Nat) (ts : List RowV) (w : World) (ho : w.ownsRow base 70 4 (.slice A ts.length cap) ts.length (flatOf rowC ts)) (hl : ts.length ≤ 1048577) (hs : Short ts) :
    Calls Try.prog 78 #[.slice A ts.length cap] w (FullAt base w (fullL ts)) := by
  have HO := Lib.hid ho
  have HS := Lib.hid hs
  obtain ⟨o, hoo⟩ : ∃ o, relOk ts = o := ⟨_, rfl⟩
  have HOO := Lib.hid hoo
  clear ho hs hoo
  go_enter Try.func78, Try.ntmps78
  go_wp2_with fail
  refine (l2Ok_any A cap ts _ (el_of_owns rowC_len HO.out) hl HS.out).mono ?_
  rw [HOO.out]
  rintro e w1 ⟨rfl, hb⟩
  have O1 := Lib.hid (ownsKeep HO.out hb)
  have B1 := Lib.hid hb
  clear hb
  cases o
  · have HF := Lib.hid (show fullL ts = ([], false) from by unfold fullL; rw [if_neg (by rw [HOO.out]; simp)])
    go_wp2
    refine bodyPost_ret (v := .tuple #[.slice none 0 0, .bool false]) (by simp [results, Try.results78, go_sem]) rfl ?_
    rw [HF.out]
    exact ⟨none, 0, rfl, World.ownsRow_nil _ _ _ _, B1.out⟩
  · have HF := Lib.hid (show fullL ts = (ts, true) from by unfold fullL; rw [if_pos HOO.out])
    go_wp2
    refine bodyPost_ret (v := .tuple #[.slice A ts.length cap, .bool true]) (by simp [results, Try.results78, go_sem]) rfl ?_
    rw [HF.out]
    exact ⟨A, cap, rfl, O1.out, B1.out⟩

set_option maxRecDepth 100000 in
set_option maxHeartbeats 4000000 in
theorem l4Less_any (A B : Option Addr) (ca cc : Nat) (a b : List RowV) (w : World) (hx : RowsA w A a) (hy : RowsA w B b) (hA : A = none → ca = 0) (hla : a.length ≤ 1000) (hlb : b.length ≤ 1000) (hra : relAll a = true) (hrb : ∀ y ∈ b, y.f < y.e) :
    Calls Try.prog 81 #[.slice A a.length ca, .slice B b.length cc] w (GetsE rowC 4 70 w (lessAll a b)) := by
  obtain ⟨i0, hi, hz0, hz1, hz2⟩ := info_parts Try.infoR70
  have Hi := Lib.hid hi
  have Hz0 := Lib.hid hz0
  have Hz1 := Lib.hid hz1
  have Hz2 := Lib.hid hz2
  have HY := Lib.hid hy
  have HRA := Lib.hid hra
  have HRB := Lib.hid hrb
  have BA := Lib.hid ((Below.refl w.heap.size w).alloc (Nat.le_refl _) (.cells #[] 70))
  have OL := Lib.hid (World.ownsRow_lit (base := w.heap.size) (e := 70) (size := 4) w #[] 0 (by simp) (by simp [maxLen]) (by simp))
  have SL := Lib.hid (srcE_of rowC_len (by omega) (hx.below BA.out) hA)
  clear hi hz0 hz1 hz2 hx hy hA hra hrb
  go_enter Try.func81, Try.ntmps81
  go_wp2_with (at_builtin; refine wpList_append_srcE rowC_len rowC_one (by omega) _ rfl _ _ 23 rfl w.heap.size 70 i0 _ 48 Try.underlying23 Hi.out Hz0.out Hz1.out Hz2.out rfl (.slice (some ⟨w.heap.size, 0, none⟩) 0 0) 0 [] rfl OL.out _ a rfl SL.out (by unfold maxLen; omega) (by omega) (by simp) ?_; rw [List.nil_append, Nat.zero_add]; intro v1 w9 ho1 hg1; have O9 := Lib.hid ho1; have B9 := Lib.hid (BA.out.grown hg1 (by simp) (fun i e => by simp [Value.ownBlock] at e; omega)); clear ho1 hg1)
  go_loopw [5, 6] (fun v i wr => ∃ k : Nat, k ≤ b.length ∧ i = .int .i64 k ∧ wr.ownsRow w.heap.size 70 4 v (lessAll a (b.take k)).length (flatOf rowC (lessAll a (b.take k))) ∧ Below w.heap.size w wr) (fun _ i _ => b.length - (intOf i).toNat)
  case atStart => exact ⟨0, Nat.zero_le _, rfl, O9.out, B9.out⟩
  case round =>
    obtain ⟨k, hk, rfl, hown, hbr⟩ := hrel
    have Hown := Lib.hid hown
    clear hown
    by_cases hlt : k < b.length
    · obtain ⟨b0, off, y, rfl, hb0, hyk, c0, c1, c2, c3⟩ := (HY.out.below hbr).at_ hlt
      have HT := Lib.hid (lessAll_take (a := a) hyk)
      have hlo := lessAll_len (b.take k) a (fun z hz => HRB.out z (List.mem_of_mem_take hz)) HRA.out
      replace hlo : (lessAll a (b.take k)).length ≤ 2000 := by rw [List.length_take] at hlo; omega
      obtain ⟨oo, hoo⟩ : ∃ oo, lessAll a (b.take k) = oo := ⟨_, rfl⟩
      rw [hoo] at Hown HT hlo
      clear hyk hoo c1
      obtain ⟨A5, c5, hv⟩ := owns_sliceE Hown.out
      subst hv
      have X5 := Lib.hid (show RowsA wr A5 oo from el_of_owns rowC_len Hown.out)
      have hs5 := hbr.size
      have hkz : (k : Int) < (b.length : Int) := by omega
      have hkz0 : (0 : Int) ≤ (k : Int) := by omega
      have hq0 : Below wr.heap.size wr wr := Below.refl _ _
      have BR := Lib.hid hbr
      clear Hown hbr
      go_upto_region 5 with fail
      go_region_held3 (fun w' => w'.cell? ⟨b0, off + k * 4, none⟩ = some (.string y.k) ∧ w'.cell? ⟨b0, off + k * 4 + 2, none⟩ = some (.int .i64 y.f) ∧ w'.cell? ⟨b0, off + k * 4 + 3, none⟩ = some (.int .i64 y.e) ∧ wr.heap.size ≤ w'.heap.size ∧ Below wr.heap.size wr w')
        (((try go_split_ands); refine ⟨?cc90, ?cc91, ?cc92, ?sz9, ?bl9⟩; (case cc90 => (repeat (first | with_reducible assumption | with_reducible refine cell_below hb (by first | omega | (simp; done) | (simp; omega)) ?_ | with_reducible refine cell_set_far (by first | omega | (simp; done) | (simp; omega)) ?_ | with_reducible exact cell_alloc_swap (by with_reducible assumption) (by first | omega | (simp; done) | (simp; omega)) | with_reducible refine cell_alloc_far ?_ | with_reducible refine cell_drew ?_))); (case cc91 => (repeat (first | with_reducible assumption | with_reducible refine cell_below hb (by first | omega | (simp; done) | (simp; omega)) ?_ | with_reducible refine cell_set_far (by first | omega | (simp; done) | (simp; omega)) ?_ | with_reducible exact cell_alloc_swap (by with_reducible assumption) (by first | omega | (simp; done) | (simp; omega)) | with_reducible refine cell_alloc_far ?_ | with_reducible refine cell_drew ?_))); (case cc92 => (repeat (first | with_reducible assumption | with_reducible refine cell_below hb (by first | omega | (simp; done) | (simp; omega)) ?_ | with_reducible refine cell_set_far (by first | omega | (simp; done) | (simp; omega)) ?_ | with_reducible exact cell_alloc_swap (by with_reducible assumption) (by first | omega | (simp; done) | (simp; omega)) | with_reducible refine cell_alloc_far ?_ | with_reducible refine cell_drew ?_))); (case sz9 => (first | with_reducible assumption | (have := hb.size; omega) | omega | (simp; done) | (simp; omega) | (have := hb.size; simp at this ⊢; omega))); (case bl9 => (repeat (first | with_reducible assumption | with_reducible exact hq0 | with_reducible refine Below.drew ?_ | with_reducible refine Below.trans ?_ (hb.mono (by first | omega | (simp; done) | (simp; omega))) | with_reducible refine Below.setCell ?_ (by first | omega | (simp; done) | (simp; omega)) _ | with_reducible exact below_alloc_swap (by with_reducible assumption) (by first | omega | (simp; done) | (simp; omega)) | with_reducible refine Below.alloc ?_ (by first | omega | (simp; done) | (simp; omega)) _)))))
        ((go_at_call 126; (try go_split_ands); refine (l3Cut_any A5 c5 oo y.k y.f y.e _ (X5.out.below (by (repeat (first | with_reducible assumption | with_reducible exact hq0 | with_reducible refine Below.drew ?_ | with_reducible refine Below.trans ?_ (hb.mono (by first | omega | (simp; done) | (simp; omega))) | with_reducible refine Below.setCell ?_ (by first | omega | (simp; done) | (simp; omega)) _ | with_reducible exact below_alloc_swap (by with_reducible assumption) (by first | omega | (simp; done) | (simp; omega)) | with_reducible refine Below.alloc ?_ (by first | omega | (simp; done) | (simp; omega)) _)))) (by omega)).mono ?_; rintro e w1 ⟨A3, c3', rfl, ho3, hb⟩; have O3 := Lib.hid ho3; have HB3 := Lib.hid hb; clear ho3; have hsz : wr.heap.size ≤ w1.heap.size := (by have := hb.size; first | omega | (simp at this; omega)); obtain ⟨hc, hf, hl⟩ := bcell3 hb; (try (have hz2 : wr.heap.size < w1.heap.size := (by have := hb.size; first | omega | (simp at this; omega))))))
      all_goals (rename_i hH; obtain ⟨-, -, -, hzz, hBz⟩ := hH; have B4 := Lib.hid (BR.out.trans (hBz.mono hs5)); have O4 := Lib.hid (show w1.ownsRow w.heap.size 70 4 (.slice A3 (cutL oo y.k y.f y.e).length c3') (cutL oo y.k y.f y.e).length (flatOf rowC (cutL oo y.k y.f y.e)) from ownsBase O3.out (by first | omega | (simp; omega))); clear hBz)
      all_goals go_wp2
      all_goals go_roundw
      all_goals first
        | (case rel => exact ⟨k + 1, by omega, by go_num, by rw [HT.out]; exact O4.out, B4.out⟩)
        | (case measure => simp [intOf]; omega)
    · obtain rfl : k = b.length := by omega
      rw [List.take_length] at Hown
      obtain ⟨A', c', hv⟩ := owns_sliceE Hown.out
      subst hv
      go_wp2
      go_ret
      exact ⟨A', c', rfl, Hown.out, hbr⟩
end Go.Proofs.Ytphinkcfmdnpfaa
namespace Go.Proofs.Ytphinkcfmdnpfaa
open Go.Shelf Go.RowKit Go.Lib Go.Sort

theorem fold_take {a ms : List RowV} {k : Nat} {x : RowV} (hx : ms[k]? = some x) : (ms.take (k + 1)).foldl putR a = putR ((ms.take k).foldl putR a) x := by
  obtain ⟨hk, rfl⟩ := List.getElem?_eq_some_iff.1 hx
  rw [List.take_succ_eq_append_getElem hk, List.foldl_append]
  rfl
theorem putR_len1 (l : List RowV) (r : RowV) : (putR l r).length = l.length + 1 := by
  have := (putR_perm l r).length_eq
  simpa using this
theorem fold_len : ∀ (ms a : List RowV), (ms.foldl putR a).length = a.length + ms.length
  | [], a => by simp
  | x :: ms, a => by rw [List.foldl_cons, fold_len ms (putR a x), putR_len1, List.length_cons]; omega
theorem pick_take {t : List RowV} {text : ByteArray} {k : Nat} {x : RowV} (hx : t[k]? = some x) : (t.take (k + 1)).filter (fun x => x.t.toList == text.toList) = (t.take k).filter (fun x => x.t.toList == text.toList) ++ (if (x.t.toList == text.toList) = true then [x] else []) := by
  obtain ⟨hk, rfl⟩ := List.getElem?_eq_some_iff.1 hx
  rw [List.take_succ_eq_append_getElem hk, List.filter_append]
  by_cases h : (t[k].t.toList == text.toList) = true
  · rw [if_pos h]; simp [h]
  · rw [if_neg h]; simp [h]
theorem lessAll_short {a b : List RowV} (h : Short a) : Short (lessAll a b) := by
  unfold lessAll
  induction b generalizing a with
  | nil => exact h
  | cons y b ih => exact ih (short_cut h)

set_option maxRecDepth 100000 in
set_option maxHeartbeats 4000000 in
theorem sRelBoth_any (A B : Option Addr) (ca cc : Nat) (a b : List RowV) (w : World) (hx : RowsA w A a) (hy : RowsA w B b) (hA : A = none → ca = 0) (hB : B = none → cc = 0) (hla : a.length ≤ 1048577) (hlb : b.length ≤ 1048577) (hsa : Short a) (hsb : Short b) :
    Calls Try.prog 28 #[.slice A a.length ca, .slice B b.length cc] w (GetsRB w (relBothS a b)) := by
  have HX := Lib.hid hx
  have HY := Lib.hid hy
  have HA := Lib.hid hA
  have HB := Lib.hid hB
  have HSA := Lib.hid hsa
  have HSB := Lib.hid hsb
  obtain ⟨oa, hoa⟩ : ∃ oa, relOk a = oa := ⟨_, rfl⟩
  have HOA := Lib.hid hoa
  obtain ⟨ob, hob⟩ : ∃ ob, relOk b = ob := ⟨_, rfl⟩
  have HOB := Lib.hid hob
  clear hx hy hA hB hsa hsb hoa hob
  go_enter Try.func28, Try.ntmps28
  go_wp2_with fail
  have B0 := Lib.hid (Below.refl w.heap.size w)
  refine (l2Ok_any A ca a _ (HX.out.below B0.out) hla HSA.out).mono ?_
  rw [HOA.out]
  rintro e w1 ⟨rfl, hb⟩
  have B1 := Lib.hid (B0.out.trans (hb.mono B0.out.size))
  clear hb
  cases oa
  · have HR := Lib.hid (show relBothS a b = ([], false) from by unfold relBothS combS; rw [if_neg (by rw [HOA.out]; simp)])
    go_wp2
    refine bodyPost_ret (v := .tuple #[.slice none 0 0, .bool false]) (by simp [results, Try.results28, go_sem]) rfl ?_
    rw [HR.out]
    exact ⟨none, 0, rfl, World.ownsRow_nil _ _ _ _, B1.out⟩
  · go_wp2_with fail
    refine (l2Ok_any B cc b _ (HY.out.below B1.out) hlb HSB.out).mono ?_
    rw [HOB.out]
    rintro e w2 ⟨rfl, hb⟩
    have B2 := Lib.hid (B1.out.trans (hb.mono B1.out.size))
    clear hb B1
    cases ob
    · have HR := Lib.hid (show relBothS a b = ([], false) from by unfold relBothS combS; rw [if_pos HOA.out, if_neg (by rw [HOB.out]; simp)])
      go_wp2
      refine bodyPost_ret (v := .tuple #[.slice none 0 0, .bool false]) (by simp [results, Try.results28, go_sem]) rfl ?_
      rw [HR.out]
      exact ⟨none, 0, rfl, World.ownsRow_nil _ _ _ _, B2.out⟩
    · have HR := Lib.hid (show relBothS a b = fullL (lessAll a (lessAll a b)) from by unfold relBothS combS; rw [if_pos HOA.out, if_pos HOB.out])
      have hl1 := ((relOk_iff a).1 HOA.out).1
      have hl2 := ((relOk_iff b).1 HOB.out).1
      have HRA := Lib.hid ((relOk_iff a).1 HOA.out).2
      have HRB := Lib.hid ((relOk_iff b).1 HOB.out).2
      have hll := lessAll_len b a (relAll_span HRB.out) HRA.out
      have HRL := Lib.hid (lessAll_rel b a (relAll_span HRB.out) HRA.out)
      have hl3 := lessAll_len (lessAll a b) a (relAll_span HRL.out) HRA.out
      have SX := Lib.hid (lessAll_short (b := lessAll a b) HSA.out)
      have HL := Lib.hid (l4Less_any A B ca cc a b w2 (HX.out.below B2.out) (HY.out.below B2.out) HA.out (by omega) (by omega) HRA.out (relAll_span HRB.out))
      obtain ⟨ls, hls⟩ : ∃ ls, lessAll a b = ls := ⟨_, rfl⟩
      rw [hls] at HR hll SX HL HRL hl3
      obtain ⟨XS, hXS⟩ : ∃ XS, lessAll a ls = XS := ⟨_, rfl⟩
      have HXS := Lib.hid hXS
      rw [hXS] at HR SX hl3
      clear hXS hls
      go_wp2_with fail
      refine HL.out.mono ?_
      rintro e w3 ⟨A3, c3, rfl, ho, hb⟩
      have R3 := Lib.hid (show RowsA w3 A3 ls from el_of_owns rowC_len ho)
      have B3 := Lib.hid (B2.out.trans (hb.mono B2.out.size))
      clear ho hb HL B2
      go_wp2_with fail
      refine (l4Less_any A A3 ca c3 a ls w3 (HX.out.below B3.out) R3.out HA.out (by omega) (by omega) HRA.out (relAll_span HRL.out)).mono ?_
      rw [HXS.out]
      rintro e w4 ⟨AX, cX, rfl, ho, hb⟩
      have OX := Lib.hid (ownsBase (base' := w.heap.size) ho B3.out.size)
      have BX := Lib.hid (B3.out.trans (hb.mono B3.out.size))
      clear ho hb B3
      go_wp2_with fail
      refine (l4Full_any w.heap.size AX cX XS _ OX.out (by omega) SX.out).mono ?_
      rintro e wZ ⟨AZ, cZ, rfl, ho, hb⟩
      rw [← HR.out] at ho ⊢
      have OZ := Lib.hid ho
      have BZ := Lib.hid (BX.out.trans (hb.mono BX.out.size))
      clear ho hb
      go_wp2
      refine bodyPost_ret (v := .tuple #[.slice AZ (relBothS a b).1.length cZ, .bool (relBothS a b).2]) (by simp [results, Try.results28, go_sem]) rfl ?_
      exact ⟨AZ, cZ, rfl, OZ.out, BZ.out⟩

end Go.Proofs.Ytphinkcfmdnpfaa
