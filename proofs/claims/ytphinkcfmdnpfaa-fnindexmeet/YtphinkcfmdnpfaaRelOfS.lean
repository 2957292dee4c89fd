/-
  Walks: the model's table of rows in any order.
-/
import Derived.Test.YtphinkcfmdnpfaaRelOf
namespace Go.Proofs.Ytphinkcfmdnpfaa
open Go.Shelf Go.RowKit Go.Lib Go.Sort

theorem put_at {zs : List RowV} {r : RowV} {k : Nat} (hk : k ≤ zs.length) (h1 : ∀ j x, j < k → zs[j]? = some x → lessB x r = true) (h2 : ∀ x, zs[k]? = some x → lessB x r = false) : putR zs r = zs.take k ++ r :: zs.drop k := by
  have hT : ∀ x ∈ zs.take k, lessB x r = true := fun x hx => by
    obtain ⟨j, hj, rfl⟩ := List.mem_iff_getElem.1 hx
    rw [List.length_take] at hj
    have : j < zs.length := by omega
    rw [List.getElem_take]
    exact h1 j _ (by omega) (List.getElem?_eq_getElem this)
  unfold putR
  have e : zs = zs.take k ++ zs.drop k := (List.take_append_drop k zs).symm
  have hd : (zs.drop k).takeWhile (lessB · r) = [] ∧ (zs.drop k).dropWhile (lessB · r) = zs.drop k := by
    cases hc : zs.drop k with
    | nil => exact ⟨rfl, rfl⟩
    | cons x l =>
      have hx : zs[k]? = some x := by
        have : (zs.drop k)[0]? = some x := by rw [hc]; rfl
        rw [List.getElem?_drop, Nat.add_zero] at this
        exact this
      rw [List.takeWhile_cons, List.dropWhile_cons, h2 x hx]
      exact ⟨rfl, rfl⟩
  have h3 : zs.takeWhile (lessB · r) = zs.take k := by
    conv => lhs; rw [e]
    rw [List.takeWhile_append_of_pos hT, hd.1, List.append_nil]
  have h4 : zs.dropWhile (lessB · r) = zs.drop k := by
    conv => lhs; rw [e]
    rw [List.dropWhile_append_of_pos hT, hd.2]
  rw [h3, h4]
theorem rows_take {w : World} {A : Option Addr} {zs : List RowV} (h : RowsA w A zs) (k : Nat) : RowsA w A (zs.take k) := fun hn => by
  have : 0 < zs.length := by rw [List.length_take] at hn; omega
  obtain ⟨b, off, e, hb, hc⟩ := h this
  refine ⟨b, off, e, hb, fun i x hx j u hu => hc i x ?_ j u hu⟩
  rw [List.getElem?_take] at hx
  split at hx
  · exact hx
  · cases hx
theorem rows_drop {w : World} {b off : Nat} {zs : List RowV} (h : RowsA w (some ⟨b, off, none⟩) zs) (k : Nat) : RowsA w (some ⟨b, off + k * 4, none⟩) (zs.drop k) := fun hn => by
  have : 0 < zs.length := by rw [List.length_drop] at hn; omega
  obtain ⟨b', off', e, hb, hc⟩ := h this
  injection e with e
  injection e with e1 e2 e3
  subst e1 e2
  refine ⟨b, off + k * 4, rfl, hb, fun i x hx j u hu => ?_⟩
  rw [List.getElem?_drop] at hx
  have := hc (k + i) x hx j u hu
  rw [show off + k * 4 + i * 4 + j = off + (k + i) * 4 + j by omega]
  exact this
theorem owns_cap {w : World} {base n k cap : Nat} {A : Option Addr} {t : TypeId} {xs : List Value} (h : w.ownsRow base t k (.slice A n cap) n xs) : n ≤ cap := by
  rcases h.2 with ⟨e0, h0⟩ | ⟨g, c, cur, e0, _, _, hnc, _⟩
  · omega
  · injection e0 with e1 e2 e3; omega

set_option maxRecDepth 100000 in
set_option maxHeartbeats 4000000 in
theorem l2Put_any (A : Option Addr) (cap : Nat) (zs : List RowV) (r : RowV) (w : World) (hz : RowsA w A zs) (hN : A = none → cap = 0) (hcap : zs.length ≤ cap) (hl : zs.length ≤ 1048577) :
    Calls Try.prog 156 #[.slice A zs.length cap, .agg #[.string r.k, .string r.t, .int .i64 r.f, .int .i64 r.e]] w (GetsE rowC 4 70 w (putR zs r)) := by
  obtain ⟨i0, hi, hz0, hz1, hz2⟩ := info_parts Try.infoR70
  have Hi := Lib.hid hi
  have Hz0 := Lib.hid hz0
  have Hz1 := Lib.hid hz1
  have Hz2 := Lib.hid hz2
  have HNn := Lib.hid hN
  clear hi hz0 hz1 hz2 hN
  go_enter Try.func156, Try.ntmps156
  go_wp2
  generalize hW : w.alloc _ = W0
  obtain ⟨rb, hrb⟩ : ∃ rb, w.heap.size = rb := ⟨_, rfl⟩
  have r0 : W0.cell? ⟨rb, 0, none⟩ = some (.string r.k) := by rw [← hW, ← hrb]; simp [go_sem]
  have r1 : W0.cell? ⟨rb, 1, none⟩ = some (.string r.t) := by rw [← hW, ← hrb]; simp [go_sem]
  have r2 : W0.cell? ⟨rb, 2, none⟩ = some (.int .i64 r.f) := by rw [← hW, ← hrb]; simp [go_sem]
  have r3 : W0.cell? ⟨rb, 3, none⟩ = some (.int .i64 r.e) := by rw [← hW, ← hrb]; simp [go_sem]
  have lrb : rb < W0.heap.size := by rw [← hW, ← hrb]; simp
  have B0 := Lib.hid (show Below rb w W0 from by rw [← hW]; exact (Below.refl _ _).alloc (by omega) _)
  have HZ := Lib.hid (show RowsA W0 A zs from hz.below (by have := B0.out; rw [← hrb] at this; exact this))
  rw [hrb]
  have HRB := Lib.hid hrb
  have HW := Lib.hid hz
  clear hW hz hrb
  go_loopw [5] (fun i wr => ∃ k : Nat, k ≤ zs.length ∧ i = .int .i64 k ∧ (∀ j x, j < k → zs[j]? = some x → lessB x r = true) ∧ Below W0.heap.size W0 wr) (fun i _ => zs.length - (intOf i).toNat)
  case atStart => exact ⟨0, Nat.zero_le _, rfl, fun j x hj => absurd hj (by omega), Below.refl _ _⟩
  case round =>
    obtain ⟨k, hk, rfl, hall, hbr⟩ := hrel
    have Hall := Lib.hid hall
    clear hall
    have q0 := cellBelow hbr lrb r0
    have q1 := cellBelow hbr lrb r1
    have q2 := cellBelow hbr lrb r2
    have q3 := cellBelow hbr lrb r3
    have lrb' := Nat.lt_of_lt_of_le lrb hbr.size
    by_cases hlt : k < zs.length
    · obtain ⟨b, off, x, rfl, hb, hx, c0, c1, c2, c3⟩ := (HZ.out.below hbr).at_ hlt
      have HX := Lib.hid hx
      clear hx
      have hkd : decide ((k : Int) < (zs.length : Int)) = true := by simp; omega
      have hkp : (k : Int) < (zs.length : Int) := by omega
      obtain ⟨lb, hlb⟩ : ∃ lb, lessB x r = lb := ⟨_, rfl⟩
      have HLB := Lib.hid hlb
      clear hlb
      go_wp2_with fail
      refine wp_region_later (by kernel_rfl) (by kernel_rfl) ?_
      intro f hf1 hf2 hfc
      repeat (go_big_quiet_step ((go_at_call 117; exact calls_later hf1 hf2 (l2Less_val _ _ _ _ HLB.out))))
      refine wpQuiet_nil ?_
      rintro _ ⟨v, rfl⟩
      have hbf := hf1.out v
      replace q0 := cellBelow hbf lrb' q0
      replace q1 := cellBelow hbf lrb' q1
      replace q2 := cellBelow hbf lrb' q2
      replace q3 := cellBelow hbf lrb' q3
      replace lrb' := Nat.lt_of_lt_of_le lrb' hbf.size
      have BW := Lib.hid (hbr.trans (hbf.mono hbr.size))
      clear hbf hfc hf1 hf2 hbr hb c0 c1 c2 c3
      generalize f v = W at *
      clear v f
      cases lb
      · have HP := Lib.hid (put_at hk Hall.out (fun y hy => by have := hy.symm.trans HX.out; injection this with this; rw [this]; exact HLB.out))
        clear Hall
        have hsb := BW.out.size
        have BL := Lib.hid (show Below rb w W from B0.out.trans (BW.out.mono (by omega)))
        have OL := Lib.hid (World.ownsRow_lit (base := rb) (e := 70) (size := 4) W #[] 0 (by omega) (by simp [maxLen]) (by simp))
        have HLT := Lib.hid (show (zs.take k).length = k from by rw [List.length_take]; omega)
        have HLD := Lib.hid (show (zs.drop k).length = zs.length - k from List.length_drop)
        have SL := Lib.hid (show Src (W.alloc (.cells #[] 70)) (.slice (some ⟨b, off, none⟩) k cap) (zs.take k) from by
          have := src_of (cap := cap) (rows_take ((HZ.out.below BW.out).below ((Below.refl _ _).alloc (Nat.le_refl _) (.cells #[] 70))) k) (fun h => by cases h)
          rwa [HLT.out] at this)
        have SDF := Lib.hid (show ∀ w2 : World, Below rb w w2 → Src w2 (.slice (some ⟨b, off + k * 4, none⟩) (zs.length - k) (cap - k)) (zs.drop k) from fun w2 h2 => by
          have := src_of (w := w2) (cap := cap - k) (rows_drop (HW.out.below (by rw [HRB.out]; exact h2)) k) (fun h => by cases h)
          rwa [HLD.out] at this)
        have QQ : ∀ o v, W.cell? ⟨rb, o, none⟩ = some v → ∀ w1 : World, (W.alloc (.cells #[] 70)).grownBy w1 (Value.ownBlock (.slice (some ⟨W.heap.size, 0, none⟩) 0 0)) → w1.cell? ⟨rb, o, none⟩ = some v := fun o v hc w1 hg => by
          have := World.cell?_of_block (a := ⟨rb, o, none⟩) (hg.block rb (by simp; omega) (by simp [Value.ownBlock]; omega))
          exact this.trans ((World.cell?_alloc_lt _ _ _ (by exact lrb')).trans hc)
        have Q0 := Lib.hid (QQ 0 _ q0)
        have Q1 := Lib.hid (QQ 1 _ q1)
        have Q2 := Lib.hid (QQ 2 _ q2)
        have Q3 := Lib.hid (QQ 3 _ q3)
        clear QQ r0 r1 r2 r3 q0 q1 q2 q3
        go_wp2_with (at_builtin; first
          | (refine wpList_append_src _ rfl _ _ 23 rfl rb 70 i0 _ 48 Try.underlying23 Hi.out Hz0.out Hz1.out Hz2.out rfl _ (k + 1) (zs.take k ++ [r]) rfl O2.out _ (zs.drop k) rfl SD.out (by rw [HLD.out]; unfold maxLen; omega) (by rw [HLD.out]; omega) (by omega) ?_; intro v3 w3 ho3 hg3; obtain ⟨A3, k3, rfl⟩ := owns_formN ho3; have O3 := Lib.hid ho3; have B3 := Lib.hid (B2.out.grown hg3 (by omega) (fun i e => (O2.out.lt i e).1)); clear ho3 hg3)
          | (refine wpList_append_own _ rfl _ _ 23 rfl rb 70 i0 _ 4 48 Try.underlying23 Hi.out Hz0.out Hz1.out Hz2.out rfl (by decide) _ k (flatOf rowC (zs.take k)) rfl (O1.out.alloc _) ⟨w1.heap.size, 0, none⟩ 1 1 [.string r.k, .string r.t, .int .i64 r.f, .int .i64 r.e] rfl rfl (newsFour (by simp) (by simp) (by simp) (by simp)) (by simp [Value.oneCell']) (by unfold maxLen; omega) (by omega) (by simp; omega) ?_; intro v2 w2 ho2 hg2 hn2; obtain ⟨A2, k2, rfl⟩ := owns_formN ho2; have O2 := Lib.hid (show w2.ownsRow rb 70 4 (.slice A2 (k + 1) k2) (k + 1) (flatOf rowC (zs.take k ++ [r])) from by rw [flatOf_append, flatOf_one]; exact ho2); have B2 := Lib.hid ((B1.out.alloc (by omega) _).grown hg2 (by simp; omega) (fun i e => (O1.out.lt i e).1)); have l2 : rb ≤ w2.heap.size := (by have := B2.out.size; have h := HRB.out; omega); have SD := Lib.hid (SDF.out w2 B2.out); clear ho2 hg2 hn2)
          | (refine wpList_append_src _ rfl _ _ 23 rfl rb 70 i0 _ 48 Try.underlying23 Hi.out Hz0.out Hz1.out Hz2.out rfl (.slice (some ⟨W.heap.size, 0, none⟩) 0 0) 0 [] rfl OL.out _ (zs.take k) rfl SL.out (by rw [HLT.out]; unfold maxLen; omega) (by rw [HLT.out]; omega) (by simp; omega) ?_; rw [HLT.out, List.nil_append, Nat.zero_add]; intro v1 w1 ho1 hg1; obtain ⟨A1, k1, rfl⟩ := owns_formN ho1; have O1 := Lib.hid ho1; have B1 := Lib.hid ((BL.out.alloc (by omega) _).grown hg1 (by simp; omega) (fun i e => (OL.out.lt i e).1)); have l1 : rb ≤ w1.heap.size := (by have := B1.out.size; have h := HRB.out; omega); have q0' : w1.cell? ⟨rb, 0, none⟩ = some (.string r.k) := Q0.out w1 hg1; have q1' : w1.cell? ⟨rb, 1, none⟩ = some (.string r.t) := Q1.out w1 hg1; have q2' : w1.cell? ⟨rb, 2, none⟩ = some (.int .i64 r.f) := Q2.out w1 hg1; have q3' : w1.cell? ⟨rb, 3, none⟩ = some (.int .i64 r.e) := Q3.out w1 hg1; clear ho1 hg1))
        go_ret
        rw [HP.out]
        have hlen : (zs.take k ++ r :: zs.drop k).length = k + 1 + (zs.length - k) := by rw [List.length_append, List.length_cons, HLT.out, HLD.out]; omega
        refine ⟨A3, k3, ?_, ?_, by rw [HRB.out]; exact B3.out⟩
        · rw [hlen, ← HLD.out]; rfl
        · have := O3.out
          rw [HLD.out, List.append_assoc] at this
          rw [hlen, HRB.out]
          exact this
      · go_wp2
        go_roundw
        case rel => exact ⟨k + 1, by omega, by go_num, fun j y hj hy => by
          by_cases e : j = k
          · subst e
            have := hy.symm.trans HX.out
            injection this with this
            rw [this]; exact HLB.out
          · exact Hall.out j y (by omega) hy, BW.out⟩
        case measure => simp [intOf]; omega
    · have HKN := Lib.hid (show k = zs.length from by omega)
      have hkd : decide ((k : Int) < (zs.length : Int)) = false := by simp; omega
      have hkn : ¬ (k : Int) < (zs.length : Int) := by omega
      have HP := Lib.hid (put_at hk Hall.out (fun y hy => by rw [List.getElem?_eq_none (by omega)] at hy; cases hy))
      clear Hall
      go_wp2_with fail
      go_quiet (fail)
      have BW := Lib.hid (show Below W0.heap.size W0 (wr.drewN nq) from below_drewN hbr _)
      replace q0 : (wr.drewN nq).cell? ⟨rb, 0, none⟩ = some (.string r.k) := q0
      replace q1 : (wr.drewN nq).cell? ⟨rb, 1, none⟩ = some (.string r.t) := q1
      replace q2 : (wr.drewN nq).cell? ⟨rb, 2, none⟩ = some (.int .i64 r.f) := q2
      replace q3 : (wr.drewN nq).cell? ⟨rb, 3, none⟩ = some (.int .i64 r.e) := q3
      replace lrb' : rb < (wr.drewN nq).heap.size := lrb'
      clear hbr
      generalize wr.drewN nq = W at *
      by_cases hz0 : 0 < zs.length
      · obtain ⟨b, off, rfl, -, -⟩ := HZ.out hz0
        have hsb := BW.out.size
        have BL := Lib.hid (show Below rb w W from B0.out.trans (BW.out.mono (by omega)))
        have OL := Lib.hid (World.ownsRow_lit (base := rb) (e := 70) (size := 4) W #[] 0 (by omega) (by simp [maxLen]) (by simp))
        have HLT := Lib.hid (show (zs.take k).length = k from by rw [List.length_take]; omega)
        have HLD := Lib.hid (show (zs.drop k).length = zs.length - k from List.length_drop)
        have SL := Lib.hid (show Src (W.alloc (.cells #[] 70)) (.slice (some ⟨b, off, none⟩) k cap) (zs.take k) from by
          have := src_of (cap := cap) (rows_take ((HZ.out.below BW.out).below ((Below.refl _ _).alloc (Nat.le_refl _) (.cells #[] 70))) k) (fun h => by cases h)
          rwa [HLT.out] at this)
        have SDE := Lib.hid (show ∀ (a : Addr) (c : Nat) (w2 : World), Src w2 (.slice (some a) (zs.length - k) c) (zs.drop k) from fun a c w2 => by
          have h1 : zs.drop k = [] := List.drop_of_length_le (by omega)
          have h2 : zs.length - k = 0 := by omega
          rw [h1, h2]
          exact .inr ⟨a, c, rfl, fun j x hx => by simp [flatOf] at hx⟩)
        have QQ : ∀ o v, W.cell? ⟨rb, o, none⟩ = some v → ∀ w1 : World, (W.alloc (.cells #[] 70)).grownBy w1 (Value.ownBlock (.slice (some ⟨W.heap.size, 0, none⟩) 0 0)) → w1.cell? ⟨rb, o, none⟩ = some v := fun o v hc w1 hg => by
          have := World.cell?_of_block (a := ⟨rb, o, none⟩) (hg.block rb (by simp; omega) (by simp [Value.ownBlock]; omega))
          exact this.trans ((World.cell?_alloc_lt _ _ _ (by exact lrb')).trans hc)
        have Q0 := Lib.hid (QQ 0 _ q0)
        have Q1 := Lib.hid (QQ 1 _ q1)
        have Q2 := Lib.hid (QQ 2 _ q2)
        have Q3 := Lib.hid (QQ 3 _ q3)
        clear QQ r0 r1 r2 r3 q0 q1 q2 q3
        by_cases hck : k = cap
        · have hck1 : cap - k = 0 := by omega
          clear hck
          go_wp2_with (at_builtin; first
            | (refine wpList_append_src _ rfl _ _ 23 rfl rb 70 i0 _ 48 Try.underlying23 Hi.out Hz0.out Hz1.out Hz2.out rfl _ (k + 1) (zs.take k ++ [r]) rfl O2.out _ (zs.drop k) rfl (SDE.out _ _ _) (by rw [HLD.out]; unfold maxLen; omega) (by rw [HLD.out]; omega) (by omega) ?_; intro v3 w3 ho3 hg3; obtain ⟨A3, k3, rfl⟩ := owns_formN ho3; have O3 := Lib.hid ho3; have B3 := Lib.hid (B2.out.grown hg3 (by omega) (fun i e => (O2.out.lt i e).1)); clear ho3 hg3)
            | (refine wpList_append_own _ rfl _ _ 23 rfl rb 70 i0 _ 4 48 Try.underlying23 Hi.out Hz0.out Hz1.out Hz2.out rfl (by decide) _ k (flatOf rowC (zs.take k)) rfl (O1.out.alloc _) ⟨w1.heap.size, 0, none⟩ 1 1 [.string r.k, .string r.t, .int .i64 r.f, .int .i64 r.e] rfl rfl (newsFour (by simp) (by simp) (by simp) (by simp)) (by simp [Value.oneCell']) (by unfold maxLen; omega) (by omega) (by simp; omega) ?_; intro v2 w2 ho2 hg2 hn2; obtain ⟨A2, k2, rfl⟩ := owns_formN ho2; have O2 := Lib.hid (show w2.ownsRow rb 70 4 (.slice A2 (k + 1) k2) (k + 1) (flatOf rowC (zs.take k ++ [r])) from by rw [flatOf_append, flatOf_one]; exact ho2); have B2 := Lib.hid ((B1.out.alloc (by omega) _).grown hg2 (by simp; omega) (fun i e => (O1.out.lt i e).1)); have l2 : rb ≤ w2.heap.size := (by have := B2.out.size; have h := HRB.out; omega); clear ho2 hg2 hn2)
            | (refine wpList_append_src _ rfl _ _ 23 rfl rb 70 i0 _ 48 Try.underlying23 Hi.out Hz0.out Hz1.out Hz2.out rfl (.slice (some ⟨W.heap.size, 0, none⟩) 0 0) 0 [] rfl OL.out _ (zs.take k) rfl SL.out (by rw [HLT.out]; unfold maxLen; omega) (by rw [HLT.out]; omega) (by simp; omega) ?_; rw [HLT.out, List.nil_append, Nat.zero_add]; intro v1 w1 ho1 hg1; obtain ⟨A1, k1, rfl⟩ := owns_formN ho1; have O1 := Lib.hid ho1; have B1 := Lib.hid ((BL.out.alloc (by omega) _).grown hg1 (by simp; omega) (fun i e => (OL.out.lt i e).1)); have l1 : rb ≤ w1.heap.size := (by have := B1.out.size; have h := HRB.out; omega); have q0' : w1.cell? ⟨rb, 0, none⟩ = some (.string r.k) := Q0.out w1 hg1; have q1' : w1.cell? ⟨rb, 1, none⟩ = some (.string r.t) := Q1.out w1 hg1; have q2' : w1.cell? ⟨rb, 2, none⟩ = some (.int .i64 r.f) := Q2.out w1 hg1; have q3' : w1.cell? ⟨rb, 3, none⟩ = some (.int .i64 r.e) := Q3.out w1 hg1; clear ho1 hg1))
          all_goals (
            go_ret
            rw [HP.out]
            have hlen : (zs.take k ++ r :: zs.drop k).length = k + 1 + (zs.length - k) := by rw [List.length_append, List.length_cons, HLT.out, HLD.out]; omega
            refine ⟨A3, k3, ?_, ?_, by rw [HRB.out]; exact B3.out⟩
            · rw [hlen, ← HLD.out]; rfl
            · have := O3.out
              rw [HLD.out, List.append_assoc] at this
              rw [hlen, HRB.out]
              exact this)
        · have hck1 : ¬ cap - k = 0 := by omega
          have hck2 : ¬ cap = k := by omega
          go_wp2_with (at_builtin; first
            | (refine wpList_append_src _ rfl _ _ 23 rfl rb 70 i0 _ 48 Try.underlying23 Hi.out Hz0.out Hz1.out Hz2.out rfl _ (k + 1) (zs.take k ++ [r]) rfl O2.out _ (zs.drop k) rfl (SDE.out _ _ _) (by rw [HLD.out]; unfold maxLen; omega) (by rw [HLD.out]; omega) (by omega) ?_; intro v3 w3 ho3 hg3; obtain ⟨A3, k3, rfl⟩ := owns_formN ho3; have O3 := Lib.hid ho3; have B3 := Lib.hid (B2.out.grown hg3 (by omega) (fun i e => (O2.out.lt i e).1)); clear ho3 hg3)
            | (refine wpList_append_own _ rfl _ _ 23 rfl rb 70 i0 _ 4 48 Try.underlying23 Hi.out Hz0.out Hz1.out Hz2.out rfl (by decide) _ k (flatOf rowC (zs.take k)) rfl (O1.out.alloc _) ⟨w1.heap.size, 0, none⟩ 1 1 [.string r.k, .string r.t, .int .i64 r.f, .int .i64 r.e] rfl rfl (newsFour (by simp) (by simp) (by simp) (by simp)) (by simp [Value.oneCell']) (by unfold maxLen; omega) (by omega) (by simp; omega) ?_; intro v2 w2 ho2 hg2 hn2; obtain ⟨A2, k2, rfl⟩ := owns_formN ho2; have O2 := Lib.hid (show w2.ownsRow rb 70 4 (.slice A2 (k + 1) k2) (k + 1) (flatOf rowC (zs.take k ++ [r])) from by rw [flatOf_append, flatOf_one]; exact ho2); have B2 := Lib.hid ((B1.out.alloc (by omega) _).grown hg2 (by simp; omega) (fun i e => (O1.out.lt i e).1)); have l2 : rb ≤ w2.heap.size := (by have := B2.out.size; have h := HRB.out; omega); clear ho2 hg2 hn2)
            | (refine wpList_append_src _ rfl _ _ 23 rfl rb 70 i0 _ 48 Try.underlying23 Hi.out Hz0.out Hz1.out Hz2.out rfl (.slice (some ⟨W.heap.size, 0, none⟩) 0 0) 0 [] rfl OL.out _ (zs.take k) rfl SL.out (by rw [HLT.out]; unfold maxLen; omega) (by rw [HLT.out]; omega) (by simp; omega) ?_; rw [HLT.out, List.nil_append, Nat.zero_add]; intro v1 w1 ho1 hg1; obtain ⟨A1, k1, rfl⟩ := owns_formN ho1; have O1 := Lib.hid ho1; have B1 := Lib.hid ((BL.out.alloc (by omega) _).grown hg1 (by simp; omega) (fun i e => (OL.out.lt i e).1)); have l1 : rb ≤ w1.heap.size := (by have := B1.out.size; have h := HRB.out; omega); have q0' : w1.cell? ⟨rb, 0, none⟩ = some (.string r.k) := Q0.out w1 hg1; have q1' : w1.cell? ⟨rb, 1, none⟩ = some (.string r.t) := Q1.out w1 hg1; have q2' : w1.cell? ⟨rb, 2, none⟩ = some (.int .i64 r.f) := Q2.out w1 hg1; have q3' : w1.cell? ⟨rb, 3, none⟩ = some (.int .i64 r.e) := Q3.out w1 hg1; clear ho1 hg1))
          all_goals (
            go_ret
            rw [HP.out]
            have hlen : (zs.take k ++ r :: zs.drop k).length = k + 1 + (zs.length - k) := by rw [List.length_append, List.length_cons, HLT.out, HLD.out]; omega
            refine ⟨A3, k3, ?_, ?_, by rw [HRB.out]; exact B3.out⟩
            · rw [hlen, ← HLD.out]; rfl
            · have := O3.out
              rw [HLD.out, List.append_assoc] at this
              rw [hlen, HRB.out]
              exact this)
      · obtain rfl : zs = [] := List.length_eq_zero_iff.1 (by omega)
        have hk0 : k = 0 := HKN.out
        subst hk0
        rw [List.take_nil, List.drop_nil, List.nil_append] at HP
        have hsb := BW.out.size
        have BL := Lib.hid (show Below rb w W from B0.out.trans (BW.out.mono (by omega)))
        have OL := Lib.hid (World.ownsRow_lit (base := rb) (e := 70) (size := 4) W #[] 0 (by omega) (by simp [maxLen]) (by simp))
        have SE := Lib.hid (show ∀ w2 : World, Src w2 (.slice A 0 cap) [] from fun w2 => by
          cases A with
          | none => rw [HNn.out rfl]; exact .inl ⟨rfl, rfl⟩
          | some a => exact .inr ⟨a, cap, rfl, fun j x hx => by simp [flatOf] at hx⟩)
        have QQ : ∀ o v, W.cell? ⟨rb, o, none⟩ = some v → ∀ w1 : World, (W.alloc (.cells #[] 70)).grownBy w1 (Value.ownBlock (.slice (some ⟨W.heap.size, 0, none⟩) 0 0)) → w1.cell? ⟨rb, o, none⟩ = some v := fun o v hc w1 hg => by
          have := World.cell?_of_block (a := ⟨rb, o, none⟩) (hg.block rb (by simp; omega) (by simp [Value.ownBlock]; omega))
          exact this.trans ((World.cell?_alloc_lt _ _ _ (by exact lrb')).trans hc)
        have Q0 := Lib.hid (QQ 0 _ q0)
        have Q1 := Lib.hid (QQ 1 _ q1)
        have Q2 := Lib.hid (QQ 2 _ q2)
        have Q3 := Lib.hid (QQ 3 _ q3)
        clear QQ r0 r1 r2 r3 q0 q1 q2 q3
        cases A
        all_goals (
          try (have h0 : cap = 0 := HNn.out rfl
               subst h0)
          go_wp2_with (at_builtin; first
            | (refine wpList_append_src _ rfl _ _ 23 rfl rb 70 i0 _ 48 Try.underlying23 Hi.out Hz0.out Hz1.out Hz2.out rfl _ 1 [r] rfl O2.out _ [] rfl (SE.out w2) (by simp [maxLen]) (by simp) (by omega) ?_; intro v3 w3 ho3 hg3; obtain ⟨A3, k3, rfl⟩ := owns_formN ho3; have O3 := Lib.hid ho3; have B3 := Lib.hid (B2.out.grown hg3 (by omega) (fun i e => (O2.out.lt i e).1)); clear ho3 hg3)
            | (refine wpList_append_own _ rfl _ _ 23 rfl rb 70 i0 _ 4 48 Try.underlying23 Hi.out Hz0.out Hz1.out Hz2.out rfl (by decide) _ 0 (flatOf rowC []) rfl (O1.out.alloc _) ⟨w1.heap.size, 0, none⟩ 1 1 [.string r.k, .string r.t, .int .i64 r.f, .int .i64 r.e] rfl rfl (newsFour (by simp) (by simp) (by simp) (by simp)) (by simp [Value.oneCell']) (by unfold maxLen; omega) (by omega) (by simp; omega) ?_; intro v2 w2 ho2 hg2 hn2; obtain ⟨A2, k2, rfl⟩ := owns_formN ho2; have O2 := Lib.hid (show w2.ownsRow rb 70 4 (.slice A2 (0 + 1) k2) 1 (flatOf rowC [r]) from ho2); have B2 := Lib.hid ((B1.out.alloc (by omega) _).grown hg2 (by simp; omega) (fun i e => (O1.out.lt i e).1)); have l2 : rb ≤ w2.heap.size := (by have := B2.out.size; have h := HRB.out; omega); clear ho2 hg2 hn2)
            | (refine wpList_append_src _ rfl _ _ 23 rfl rb 70 i0 _ 48 Try.underlying23 Hi.out Hz0.out Hz1.out Hz2.out rfl (.slice (some ⟨W.heap.size, 0, none⟩) 0 0) 0 [] rfl OL.out _ [] rfl (SE.out _) (by simp [maxLen]) (by simp) (by simp; omega) ?_; intro v1 w1 ho1 hg1; obtain ⟨A1, k1, rfl⟩ := owns_formN ho1; have O1 := Lib.hid (show w1.ownsRow rb 70 4 (.slice A1 0 k1) 0 (flatOf rowC []) from ho1); have B1 := Lib.hid ((BL.out.alloc (by omega) _).grown hg1 (by simp; omega) (fun i e => (OL.out.lt i e).1)); have l1 : rb ≤ w1.heap.size := (by have := B1.out.size; have h := HRB.out; omega); have q0' : w1.cell? ⟨rb, 0, none⟩ = some (.string r.k) := Q0.out w1 hg1; have q1' : w1.cell? ⟨rb, 1, none⟩ = some (.string r.t) := Q1.out w1 hg1; have q2' : w1.cell? ⟨rb, 2, none⟩ = some (.int .i64 r.f) := Q2.out w1 hg1; have q3' : w1.cell? ⟨rb, 3, none⟩ = some (.int .i64 r.e) := Q3.out w1 hg1; clear ho1 hg1))
          go_ret
          rw [HP.out]
          refine ⟨A3, k3, rfl, ?_, by rw [HRB.out]; exact B3.out⟩
          rw [HRB.out]
          exact O3.out)
end Go.Proofs.Ytphinkcfmdnpfaa
namespace Go.Proofs.Ytphinkcfmdnpfaa
open Go.Shelf Go.RowKit Go.Lib Go.Sort

def holdsS (zs : List RowV) (key : ByteArray) (a b : Int) : Bool := zs.any fun x => (x.k.toList == key.toList) && mB x.f x.e a b
def AtMeet (wr : World) (f e a b : Int) (s9 : Value) (wx : World) : Prop := s9 = .bool (mB f e a b) ∧ Below wr.heap.size wr wx
theorem holds_take {zs : List RowV} {k : Nat} {x : RowV} {key : ByteArray} {a b : Int} (hx : zs[k]? = some x) : holdsS (zs.take (k + 1)) key a b = (holdsS (zs.take k) key a b || ((x.k.toList == key.toList) && mB x.f x.e a b)) := by
  obtain ⟨hk, hx⟩ := List.getElem?_eq_some_iff.1 hx
  subst hx
  unfold holdsS
  rw [List.take_succ_eq_append_getElem hk, List.any_append]
  simp
theorem holds_more {zs : List RowV} {k : Nat} {key : ByteArray} {a b : Int} (h : holdsS (zs.take k) key a b = true) : holdsS zs key a b = true := by
  unfold holdsS at *
  rw [List.any_eq_true] at *
  obtain ⟨x, hx, h⟩ := h
  exact ⟨x, List.mem_of_mem_take hx, h⟩
theorem holdsS_R (zs : List RowV) (r : RowV) : holdsS zs r.k r.f r.e = holdsR zs r := rfl

set_option maxRecDepth 100000 in
set_option maxHeartbeats 4000000 in
theorem l2Holds_any (A : Option Addr) (cap : Nat) (zs : List RowV) (key : ByteArray) (a b : Int) (w : World) (hz : RowsA w A zs) (hl : zs.length ≤ 1048577) :
    Calls Try.prog 155 #[.slice A zs.length cap, .string key, .agg #[.int .i64 a, .int .i64 b]] w fun e w' => e = .returned (.bool (holdsS zs key a b)) ∧ Below w.heap.size w w' := by
  go_enter Try.func155, Try.ntmps155
  go_wp2
  generalize hW : w.alloc _ = W0
  obtain ⟨sb, hsb⟩ : ∃ sb, w.heap.size = sb := ⟨_, rfl⟩
  have s0 : W0.cell? ⟨sb, 0, none⟩ = some (.int .i64 a) := by rw [← hW, ← hsb]; simp [go_sem]
  have s1 : W0.cell? ⟨sb, 1, none⟩ = some (.int .i64 b) := by rw [← hW, ← hsb]; simp [go_sem]
  have lsb : sb < W0.heap.size := by rw [← hW, ← hsb]; simp
  have B0 := Lib.hid (show Below sb w W0 from by rw [← hW]; exact (Below.refl _ _).alloc (by omega) _)
  have HZ := Lib.hid (show RowsA W0 A zs from hz.below (by have := B0.out; rw [← hsb] at this; exact this))
  rw [hsb]
  have HSB := Lib.hid hsb
  clear hW hz hsb
  go_loopw [7] (fun i wr => ∃ k : Nat, k ≤ zs.length ∧ i = .int .i64 k ∧ holdsS (zs.take k) key a b = false ∧ Below W0.heap.size W0 wr) (fun i _ => zs.length - (intOf i).toNat)
  case atStart => exact ⟨0, Nat.zero_le _, rfl, rfl, Below.refl _ _⟩
  case round =>
    obtain ⟨k, hk, rfl, hall, hbr⟩ := hrel
    have Hall := Lib.hid hall
    clear hall
    have q0 := cellBelow hbr lsb s0
    have q1 := cellBelow hbr lsb s1
    have lsb' := Nat.lt_of_lt_of_le lsb hbr.size
    by_cases hlt : k < zs.length
    · obtain ⟨b0, off, x, rfl, hb0, hx, c0, c1, c2, c3⟩ := (HZ.out.below hbr).at_ hlt
      have HX := Lib.hid hx
      clear hx
      have hq0 : Below wr.heap.size wr wr := Below.refl _ _
      have hkz : (k : Int) < (zs.length : Int) := by omega
      have hkz0 : (0 : Int) ≤ (k : Int) := by omega
      go_upto_region 4 with fail
      go_cut [9] (fun s9 wx => AtMeet wr x.f x.e a b s9 wx)
      case first =>
        go_region_held3 (fun w' => w'.cell? ⟨b0, off + k * 4 + 2, none⟩ = some (.int .i64 x.f) ∧ w'.cell? ⟨b0, off + k * 4 + 3, none⟩ = some (.int .i64 x.e) ∧ w'.cell? ⟨sb, 0, none⟩ = some (.int .i64 a) ∧ w'.cell? ⟨sb, 1, none⟩ = some (.int .i64 b) ∧ wr.heap.size ≤ w'.heap.size ∧ Below wr.heap.size wr w')
          (((try go_split_ands); refine ⟨?c0, ?c1, ?c2, ?c3, ?s, ?b⟩; (case c0 => (repeat (first | with_reducible assumption | with_reducible refine cell_below hb (by first | omega | (simp; done) | (simp; omega)) ?_ | with_reducible refine cell_set_far (by first | omega | (simp; done) | (simp; omega)) ?_ | with_reducible exact cell_alloc_swap (by with_reducible assumption) (by first | omega | (simp; done) | (simp; omega)) | with_reducible refine cell_alloc_far ?_ | with_reducible refine cell_drew ?_))); (case c1 => (repeat (first | with_reducible assumption | with_reducible refine cell_below hb (by first | omega | (simp; done) | (simp; omega)) ?_ | with_reducible refine cell_set_far (by first | omega | (simp; done) | (simp; omega)) ?_ | with_reducible exact cell_alloc_swap (by with_reducible assumption) (by first | omega | (simp; done) | (simp; omega)) | with_reducible refine cell_alloc_far ?_ | with_reducible refine cell_drew ?_))); (case c2 => (repeat (first | with_reducible assumption | with_reducible refine cell_below hb (by first | omega | (simp; done) | (simp; omega)) ?_ | with_reducible refine cell_set_far (by first | omega | (simp; done) | (simp; omega)) ?_ | with_reducible exact cell_alloc_swap (by with_reducible assumption) (by first | omega | (simp; done) | (simp; omega)) | with_reducible refine cell_alloc_far ?_ | with_reducible refine cell_drew ?_))); (case c3 => (repeat (first | with_reducible assumption | with_reducible refine cell_below hb (by first | omega | (simp; done) | (simp; omega)) ?_ | with_reducible refine cell_set_far (by first | omega | (simp; done) | (simp; omega)) ?_ | with_reducible exact cell_alloc_swap (by with_reducible assumption) (by first | omega | (simp; done) | (simp; omega)) | with_reducible refine cell_alloc_far ?_ | with_reducible refine cell_drew ?_))); (case s => (first | with_reducible assumption | (have := hb.size; omega) | omega | (simp; done) | (simp; omega) | (have := hb.size; simp at this ⊢; omega))); (case b => (repeat (first | with_reducible assumption | with_reducible exact hq0 | with_reducible refine Below.drew ?_ | with_reducible refine Below.trans ?_ (hb.mono (by first | omega | (simp; done) | (simp; omega))) | with_reducible refine Below.setCell ?_ (by first | omega | (simp; done) | (simp; omega)) _ | with_reducible exact below_alloc_swap (by with_reducible assumption) (by first | omega | (simp; done) | (simp; omega)) | with_reducible refine Below.alloc ?_ (by first | omega | (simp; done) | (simp; omega)) _)))))
          ((go_at_call 151; refine (l1Meet_any _ _ _ _ _).mono ?_; rintro e w1 ⟨rfl, hb⟩; have hsz : wr.heap.size ≤ w1.heap.size := (by have := hb.size; first | omega | (simp at this; omega)); obtain ⟨hc, hf, hl⟩ := bcell3 hb; (try (have hz2 : wr.heap.size < w1.heap.size := (by have := hb.size; first | omega | (simp at this; omega))))))
        all_goals (go_wp2_with fail; go_meet; unfold AtMeet; rename_i hH; obtain ⟨z0, z1, z2, z3, z4, z5⟩ := hH; exact ⟨rfl, z5⟩)
      case rest =>
        obtain ⟨rfl, hbW⟩ := hcut
        replace c0 := cellBelow hbW hb0 c0
        have BW := Lib.hid (hbr.trans (hbW.mono hbr.size))
        have HT := Lib.hid (holds_take (key := key) (a := a) (b := b) HX.out)
        rw [Hall.out, Bool.false_or] at HT
        clear hbW hbr hq0 c1 c2 c3
        cases hkk : (x.k.toList == key.toList)
        · rw [hkk, Bool.false_and] at HT
          go_wp2
          go_roundw
          case rel => exact ⟨k + 1, by omega, by go_num, HT.out, BW.out⟩
          case measure => simp [intOf]; omega
        · cases hmm : mB x.f x.e a b
          · rw [hkk, hmm, Bool.and_false] at HT
            go_wp2
            go_roundw
            case rel => exact ⟨k + 1, by omega, by go_num, HT.out, BW.out⟩
            case measure => simp [intOf]; omega
          · rw [hkk, hmm, Bool.and_true] at HT
            have HF := Lib.hid (holds_more HT.out)
            go_wp2
            go_ret
            exact ⟨ret_bool HF.out.symm, by rw [HSB.out]; exact B0.out.trans (BW.out.mono (by omega))⟩
    · obtain rfl : k = zs.length := by omega
      rw [List.take_length] at Hall
      go_wp2
      go_ret
      exact ⟨ret_bool Hall.out.symm, by rw [HSB.out]; exact B0.out.trans (hbr.mono (by omega))⟩

theorem touch_no1 {y x : RowV} (h : (y.k.toList == x.k.toList) = false) : touchB y x = false := by simp [touchB, h]
theorem touch_no2 {y x : RowV} (h : (y.t.toList == x.t.toList) = false) : touchB y x = false := by simp [touchB, h]
theorem touch_no3 {y x : RowV} (h : (y.e == x.f) = false) : touchB y x = false := by
  have : decide (y.e = x.f) = false := by simpa using h
  rw [touchB, this, Bool.and_false]
theorem touch_yes {y x : RowV} (h1 : (y.k.toList == x.k.toList) = true) (h2 : (y.t.toList == x.t.toList) = true) (h3 : (y.e == x.f) = true) : touchB y x = true := by
  have : decide (y.e = x.f) = true := by simpa using h3
  rw [touchB, h1, h2, this]; rfl
theorem flat_to (o : List RowV) (y : RowV) (e : Int) : (flatOf rowC (o ++ [y])).set (o.length * 4 + 3) (.int .i64 e) = flatOf rowC (o ++ [⟨y.k, y.t, y.f, e⟩]) := by
  have hl : (flatOf rowC o).length = o.length * 4 := flatOf_length rowC_len o
  rw [flatOf_append, flatOf_append, flatOf_one, flatOf_one, ← hl, List.set_append_right _ _ (by omega)]
  simp [rowC]

set_option maxRecDepth 100000 in
set_option maxHeartbeats 4000000 in
theorem l2Join_any (A : Option Addr) (cap : Nat) (zs : List RowV) (w : World) (hz : RowsA w A zs) (hl : zs.length ≤ 1048577) :
    Calls Try.prog 157 #[.slice A zs.length cap] w (GetsE rowC 4 70 w (joinRows zs)) := by
  obtain ⟨i0, hi, hz0, hz1, hz2⟩ := info_parts Try.infoR70
  have Hi := Lib.hid hi
  have Hz0 := Lib.hid hz0
  have Hz1 := Lib.hid hz1
  have Hz2 := Lib.hid hz2
  have HZ := Lib.hid hz
  clear hi hz0 hz1 hz2 hz
  go_enter Try.func157, Try.ntmps157
  go_wp2
  go_loopw [3, 4] (fun v i wr => ∃ k : Nat, k ≤ zs.length ∧ i = .int .i64 k ∧ wr.ownsRow w.heap.size 70 4 v (joinRows (zs.take k)).length (flatOf rowC (joinRows (zs.take k))) ∧ Below w.heap.size w wr) (fun _ i _ => zs.length - (intOf i).toNat)
  case atStart =>
    refine ⟨0, Nat.zero_le _, rfl, ?_, (Below.refl _ _).alloc (Nat.le_refl _) _⟩
    have := World.ownsRow_lit (base := w.heap.size) (e := 70) (size := 4) w #[] 0 (by simp) (by simp [maxLen]) (by simp)
    simpa [flatOf, joinRows] using this
  case round =>
    obtain ⟨k, hk, rfl, hown, hbr⟩ := hrel
    have Hown := Lib.hid hown
    clear hown
    by_cases hlt : k < zs.length
    · obtain ⟨b, off, x, rfl, hb, hx, q0, q1, q2, q3⟩ := (HZ.out.below hbr).at_ hlt
      have HT := Lib.hid (join_take hx)
      have hlo := joinRows_len (zs.take k)
      rw [List.length_take, Nat.min_eq_left hk] at hlo
      obtain ⟨oo, hoo⟩ : ∃ oo, joinRows (zs.take k) = oo := ⟨_, rfl⟩
      rw [hoo] at Hown HT hlo
      clear hx hoo
      have hs5 := hbr.size
      rcases List.eq_nil_or_concat oo with h0 | ⟨o, y, h0⟩
      · subst h0
        obtain ⟨A5, c5, rfl⟩ := owns_formN Hown.out
        go_wp2_with fail
        go_quiet (fail)
        have BW := Lib.hid (show Below w.heap.size w (wr.drewN nq) from below_drewN hbr _)
        have OW := Lib.hid (show (wr.drewN nq).ownsRow w.heap.size 70 4 (.slice A5 0 c5) 0 (flatOf rowC []) from Hown.out)
        replace q0 : (wr.drewN nq).cell? ⟨b, off + k * 4, none⟩ = some (.string x.k) := q0
        replace q1 : (wr.drewN nq).cell? ⟨b, off + k * 4 + 1, none⟩ = some (.string x.t) := q1
        replace q2 : (wr.drewN nq).cell? ⟨b, off + k * 4 + 2, none⟩ = some (.int .i64 x.f) := q2
        replace q3 : (wr.drewN nq).cell? ⟨b, off + k * 4 + 3, none⟩ = some (.int .i64 x.e) := q3
        replace hs5 : w.heap.size ≤ (wr.drewN nq).heap.size := hs5
        clear hbr Hown
        generalize wr.drewN nq = W1 at *
        go_wp2_with (at_builtin; refine wpList_append_own _ rfl _ _ 23 rfl w.heap.size 70 i0 _ 4 48 Try.underlying23 Hi.out Hz0.out Hz1.out Hz2.out rfl (by decide) _ 0 (flatOf rowC []) rfl (OW.out.alloc _) ⟨W1.heap.size, 0, none⟩ 1 1 [.string x.k, .string x.t, .int .i64 x.f, .int .i64 x.e] rfl rfl (newsFour (by simp) (by simp) (by simp) (by simp)) (by simp [Value.oneCell']) (by unfold maxLen; omega) (by omega) (by simp; omega) ?_; intro v' w3 hown' hgrow hnil; have O3 := Lib.hid hown'; have B3 := Lib.hid ((BW.out.alloc hs5 _).grown hgrow (by simp; omega) (fun i e => by have := (OW.out.lt i e).1; omega)); clear hown' hgrow hnil)
        refine ⟨⟨k + 1, by omega, by simp, ?_, B3.out⟩, ?_⟩
        · rw [HT.out]; exact O3.out
        · simp [intOf]; omega
      · rw [List.concat_eq_append] at h0
        subst h0
        have hlen : (o ++ [y]).length = o.length + 1 := by simp
        rw [hlen] at Hown hlo
        obtain ⟨g, c5, rfl, hgb, hgl, p0, p1, p2, p3, pf⟩ := last_own Hown.out rfl
        clear hlen
        have hob1 : ((o.length : Nat) : Int) < (o.length : Int) + 1 := by omega
        have hob0 : (0 : Int) ≤ (o.length : Int) := by omega
        have hobn : ((o.length : Int) + 1 - 1).toNat = o.length := by omega
        have hobk : (k : Int) < (zs.length : Int) := by omega
        cases hkk : (y.k.toList == x.k.toList)
        · have hxx := touch_no1 (y := y) (x := x) hkk
          have HT2 := Lib.hid (show joinRows (zs.take (k + 1)) = o ++ [y] ++ [x] from by rw [HT.out, joinStep_at, hxx]; rfl)
          go_wp2_with fail
          go_quiet (fail)
          have BW := Lib.hid (show Below w.heap.size w (wr.drewN nq) from below_drewN hbr _)
          have OW := Lib.hid (show (wr.drewN nq).ownsRow w.heap.size 70 4 (.slice (some ⟨g, 0, none⟩) (o.length + 1) c5) (o.length + 1) (flatOf rowC (o ++ [y])) from Hown.out)
          replace q0 : (wr.drewN nq).cell? ⟨b, off + k * 4, none⟩ = some (.string x.k) := q0
          replace q1 : (wr.drewN nq).cell? ⟨b, off + k * 4 + 1, none⟩ = some (.string x.t) := q1
          replace q2 : (wr.drewN nq).cell? ⟨b, off + k * 4 + 2, none⟩ = some (.int .i64 x.f) := q2
          replace q3 : (wr.drewN nq).cell? ⟨b, off + k * 4 + 3, none⟩ = some (.int .i64 x.e) := q3
          replace hs5 : w.heap.size ≤ (wr.drewN nq).heap.size := hs5
          clear hbr Hown
          clear p0 p1 p2 p3 pf
          generalize wr.drewN nq = W1 at *
          go_wp2_with (at_builtin; refine wpList_append_own _ rfl _ _ 23 rfl w.heap.size 70 i0 _ 4 48 Try.underlying23 Hi.out Hz0.out Hz1.out Hz2.out rfl (by decide) _ (o.length + 1) (flatOf rowC (o ++ [y])) rfl (OW.out.alloc _) ⟨W1.heap.size, 0, none⟩ 1 1 [.string x.k, .string x.t, .int .i64 x.f, .int .i64 x.e] rfl rfl (newsFour (by simp) (by simp) (by simp) (by simp)) (by simp [Value.oneCell']) (by unfold maxLen; omega) (by omega) (by simp; omega) ?_; intro v' w3 hown' hgrow hnil; have O3 := Lib.hid hown'; have B3 := Lib.hid ((BW.out.alloc hs5 _).grown hgrow (by simp; omega) (fun i e => by have := (OW.out.lt i e).1; omega)); clear hown' hgrow hnil)
          refine ⟨⟨k + 1, by omega, by simp, ?_, B3.out⟩, ?_⟩
          · rw [HT2.out, flatOf_append, flatOf_one, show (o ++ [y] ++ [x]).length = o.length + 1 + 1 by simp]
            exact O3.out
          · simp [intOf]; omega
        · cases htt : (y.t.toList == x.t.toList)
          · have hxx := touch_no2 (y := y) (x := x) htt
            have HT2 := Lib.hid (show joinRows (zs.take (k + 1)) = o ++ [y] ++ [x] from by rw [HT.out, joinStep_at, hxx]; rfl)
            go_wp2_with fail
            go_quiet (fail)
            have BW := Lib.hid (show Below w.heap.size w (wr.drewN nq) from below_drewN hbr _)
            have OW := Lib.hid (show (wr.drewN nq).ownsRow w.heap.size 70 4 (.slice (some ⟨g, 0, none⟩) (o.length + 1) c5) (o.length + 1) (flatOf rowC (o ++ [y])) from Hown.out)
            replace q0 : (wr.drewN nq).cell? ⟨b, off + k * 4, none⟩ = some (.string x.k) := q0
            replace q1 : (wr.drewN nq).cell? ⟨b, off + k * 4 + 1, none⟩ = some (.string x.t) := q1
            replace q2 : (wr.drewN nq).cell? ⟨b, off + k * 4 + 2, none⟩ = some (.int .i64 x.f) := q2
            replace q3 : (wr.drewN nq).cell? ⟨b, off + k * 4 + 3, none⟩ = some (.int .i64 x.e) := q3
            replace hs5 : w.heap.size ≤ (wr.drewN nq).heap.size := hs5
            clear hbr Hown
            clear p0 p1 p2 p3 pf
            generalize wr.drewN nq = W1 at *
            go_wp2_with (at_builtin; refine wpList_append_own _ rfl _ _ 23 rfl w.heap.size 70 i0 _ 4 48 Try.underlying23 Hi.out Hz0.out Hz1.out Hz2.out rfl (by decide) _ (o.length + 1) (flatOf rowC (o ++ [y])) rfl (OW.out.alloc _) ⟨W1.heap.size, 0, none⟩ 1 1 [.string x.k, .string x.t, .int .i64 x.f, .int .i64 x.e] rfl rfl (newsFour (by simp) (by simp) (by simp) (by simp)) (by simp [Value.oneCell']) (by unfold maxLen; omega) (by omega) (by simp; omega) ?_; intro v' w3 hown' hgrow hnil; have O3 := Lib.hid hown'; have B3 := Lib.hid ((BW.out.alloc hs5 _).grown hgrow (by simp; omega) (fun i e => by have := (OW.out.lt i e).1; omega)); clear hown' hgrow hnil)
            refine ⟨⟨k + 1, by omega, by simp, ?_, B3.out⟩, ?_⟩
            · rw [HT2.out, flatOf_append, flatOf_one, show (o ++ [y] ++ [x]).length = o.length + 1 + 1 by simp]
              exact O3.out
            · simp [intOf]; omega
          · cases hee : (y.e == x.f)
            · have hxx := touch_no3 (y := y) (x := x) hee
              have HT2 := Lib.hid (show joinRows (zs.take (k + 1)) = o ++ [y] ++ [x] from by rw [HT.out, joinStep_at, hxx]; rfl)
              go_wp2_with fail
              go_quiet (fail)
              have BW := Lib.hid (show Below w.heap.size w (wr.drewN nq) from below_drewN hbr _)
              have OW := Lib.hid (show (wr.drewN nq).ownsRow w.heap.size 70 4 (.slice (some ⟨g, 0, none⟩) (o.length + 1) c5) (o.length + 1) (flatOf rowC (o ++ [y])) from Hown.out)
              replace q0 : (wr.drewN nq).cell? ⟨b, off + k * 4, none⟩ = some (.string x.k) := q0
              replace q1 : (wr.drewN nq).cell? ⟨b, off + k * 4 + 1, none⟩ = some (.string x.t) := q1
              replace q2 : (wr.drewN nq).cell? ⟨b, off + k * 4 + 2, none⟩ = some (.int .i64 x.f) := q2
              replace q3 : (wr.drewN nq).cell? ⟨b, off + k * 4 + 3, none⟩ = some (.int .i64 x.e) := q3
              replace hs5 : w.heap.size ≤ (wr.drewN nq).heap.size := hs5
              clear hbr Hown
              clear p0 p1 p2 p3 pf
              generalize wr.drewN nq = W1 at *
              go_wp2_with (at_builtin; refine wpList_append_own _ rfl _ _ 23 rfl w.heap.size 70 i0 _ 4 48 Try.underlying23 Hi.out Hz0.out Hz1.out Hz2.out rfl (by decide) _ (o.length + 1) (flatOf rowC (o ++ [y])) rfl (OW.out.alloc _) ⟨W1.heap.size, 0, none⟩ 1 1 [.string x.k, .string x.t, .int .i64 x.f, .int .i64 x.e] rfl rfl (newsFour (by simp) (by simp) (by simp) (by simp)) (by simp [Value.oneCell']) (by unfold maxLen; omega) (by omega) (by simp; omega) ?_; intro v' w3 hown' hgrow hnil; have O3 := Lib.hid hown'; have B3 := Lib.hid ((BW.out.alloc hs5 _).grown hgrow (by simp; omega) (fun i e => by have := (OW.out.lt i e).1; omega)); clear hown' hgrow hnil)
              refine ⟨⟨k + 1, by omega, by simp, ?_, B3.out⟩, ?_⟩
              · rw [HT2.out, flatOf_append, flatOf_one, show (o ++ [y] ++ [x]).length = o.length + 1 + 1 by simp]
                exact O3.out
              · simp [intOf]; omega
            · skip
              have HT2 := Lib.hid (show joinRows (zs.take (k + 1)) = o ++ [joinR y x] from by rw [HT.out, joinStep_at, touch_yes hkk htt hee]; rfl)
              go_wp2_with fail
              go_quiet (fail)
              have BW := Lib.hid (show Below w.heap.size w (wr.drewN nq) from below_drewN hbr _)
              have OW := Lib.hid (show (wr.drewN nq).ownsRow w.heap.size 70 4 (.slice (some ⟨g, 0, none⟩) (o.length + 1) c5) (o.length + 1) (flatOf rowC (o ++ [y])) from Hown.out)
              replace q0 : (wr.drewN nq).cell? ⟨b, off + k * 4, none⟩ = some (.string x.k) := q0
              replace q1 : (wr.drewN nq).cell? ⟨b, off + k * 4 + 1, none⟩ = some (.string x.t) := q1
              replace q2 : (wr.drewN nq).cell? ⟨b, off + k * 4 + 2, none⟩ = some (.int .i64 x.f) := q2
              replace q3 : (wr.drewN nq).cell? ⟨b, off + k * 4 + 3, none⟩ = some (.int .i64 x.e) := q3
              replace p0 : (wr.drewN nq).cell? ⟨g, o.length * 4, none⟩ = some (.string y.k) := p0
              replace p1 : (wr.drewN nq).cell? ⟨g, o.length * 4 + 1, none⟩ = some (.string y.t) := p1
              replace p2 : (wr.drewN nq).cell? ⟨g, o.length * 4 + 2, none⟩ = some (.int .i64 y.f) := p2
              replace p3 : (wr.drewN nq).cell? ⟨g, o.length * 4 + 3, none⟩ = some (.int .i64 y.e) := p3
              replace hs5 : w.heap.size ≤ (wr.drewN nq).heap.size := hs5
              clear hbr Hown
              replace pf : ∀ j, (wr.drewN nq).frozen? ⟨g, j, none⟩ = false := pf
              generalize wr.drewN nq = W1 at *
              go_wp2
              go_roundw
              case measure => simp [intOf]; omega
              case rel =>
                refine ⟨k + 1, by omega, by go_num, ?_, BW.out.setCell (by simpa using hgb) _⟩
                have e : flatOf rowC (o ++ [joinR y x]) = (flatOf rowC (o ++ [y])).set (o.length * 4 + 3) (.int .i64 x.e) := (flat_to o y x.e).symm
                rw [HT2.out, show (o ++ [joinR y x]).length = o.length + 1 by simp, e]
                exact (OW.out.stored (o.length * 4 + 3) (.int .i64 x.e)).1
    · obtain rfl : k = zs.length := by omega
      rw [List.take_length] at Hown
      obtain ⟨A', c', hv⟩ := owns_sliceE Hown.out
      subst hv
      go_wp2
      go_ret
      exact ⟨A', c', rfl, Hown.out, hbr⟩
end Go.Proofs.Ytphinkcfmdnpfaa
namespace Go.Proofs.Ytphinkcfmdnpfaa
open Go.Shelf Go.RowKit Go.Lib Go.Sort

theorem l2Holds_val (A : Option Addr) (cap : Nat) (zs : List RowV) (key : ByteArray) (a b : Int) (w : World) (v : Bool) (hz : RowsA w A zs) (hl : zs.length ≤ 1048577) (h : holdsS zs key a b = v) :
    Calls Try.prog 155 #[.slice A zs.length cap, .string key, .agg #[.int .i64 a, .int .i64 b]] w fun e w' => e = .returned (.bool v) ∧ Below w.heap.size w w' := by
  subst h; exact l2Holds_any A cap zs key a b w hz hl
theorem lay_step {out : List RowV} {x : RowV} (h1 : rowOk x = true) (h2 : holdsR out x = false) (l : List RowV) : layAll out (x :: l) = layAll (putR out x) l := by
  rw [layAll, if_neg (by simp [h1, h2])]
theorem lay_bad {out : List RowV} {x : RowV} (h : rowOk x = false ∨ holdsR out x = true) (l : List RowV) : layAll out (x :: l) = none := by
  rw [layAll, if_pos h]
theorem drop_atR {zs : List RowV} {k : Nat} {x : RowV} (h : zs[k]? = some x) : zs.drop k = x :: zs.drop (k + 1) := by
  obtain ⟨hk, hx⟩ := List.getElem?_eq_some_iff.1 h
  rw [← hx]
  exact List.drop_eq_getElem_cons hk
theorem putR_length (l : List RowV) (r : RowV) : (putR l r).length = l.length + 1 := by
  have := (putR_perm l r).length_eq
  simpa using this
theorem relOf_none {zs : List RowV} (h : layAll [] zs = none) : relOfL zs = [] := by unfold relOfL; rw [h]
theorem relOf_some {zs m : List RowV} (h : layAll [] zs = some m) : relOfL zs = if (joinRows m).length ≤ 24 then joinRows m else [] := by unfold relOfL; rw [h]

set_option maxRecDepth 100000 in
set_option maxHeartbeats 4000000 in
theorem sRelOf_any (A : Option Addr) (cap : Nat) (zs : List RowV) (w : World) (hz : RowsA w A zs) (hl : zs.length ≤ 1048577) (hs : Short zs) :
    Calls Try.prog 135 #[.slice A zs.length cap] w (GetsE rowC 4 70 w (relOfL zs)) := by
  have HZ := Lib.hid hz
  have HS := Lib.hid hs
  clear hz hs
  go_enter Try.func135, Try.ntmps135
  go_wp2
  go_loopw [3, 4] (fun v i wr => ∃ (k : Nat) (out : List RowV), k ≤ zs.length ∧ i = .int .i64 k ∧ out.length = k ∧ layAll [] zs = layAll out (zs.drop k) ∧ wr.ownsRow w.heap.size 70 4 v out.length (flatOf rowC out) ∧ Below w.heap.size w wr) (fun _ i _ => zs.length - (intOf i).toNat)
  case atStart =>
    refine ⟨0, [], Nat.zero_le _, rfl, rfl, rfl, ?_, (Below.refl _ _).alloc (Nat.le_refl _) _⟩
    have := World.ownsRow_lit (base := w.heap.size) (e := 70) (size := 4) w #[] 0 (by simp) (by simp [maxLen]) (by simp)
    simpa [flatOf] using this
  case round =>
    obtain ⟨k, out, hk, rfl, hlen, hlay, hown, hbr⟩ := hrel
    have Hown := Lib.hid hown
    have HLen := Lib.hid hlen
    have HLay := Lib.hid hlay
    clear hown hlen hlay
    have hs5 := hbr.size
    obtain ⟨A5, c5, rfl⟩ := owns_sliceE Hown.out
    have HOut := Lib.hid (rowsA_own Hown.out rfl)
    have hol : out.length ≤ 1048577 := by rw [HLen.out]; omega
    by_cases hlt : k < zs.length
    · obtain ⟨b, off, x, rfl, hb, hx, q0, q1, q2, q3⟩ := (HZ.out.below hbr).at_ hlt
      have HD := Lib.hid (drop_atR hx)
      have hm := HS.out x (List.mem_of_getElem? hx)
      have hkz : (k : Int) < (zs.length : Int) := by omega
      clear hx
      rw [HD.out] at HLay
      cases h1 : rowOk x
      · have H1 := Lib.hid h1
        have HN := Lib.hid (relOf_none (HLay.out.trans (lay_bad (.inl h1) _)))
        clear h1
        go_wp2_with fail
        refine wp_region_later (by kernel_rfl) (by kernel_rfl) ?_
        intro f hf1 hf2 hfc
        repeat (go_big_quiet_step ((go_at_call 116; exact calls_later hf1 hf2 (l2RowOk_val _ _ _ hm.1 hm.2 H1.out))))
        refine wpQuiet_nil ?_
        rintro _ ⟨v, rfl⟩
        have BW := Lib.hid (hbr.trans ((hf1.out v).mono hbr.size))
        clear hfc hf1 hf2 hbr q0 q1 q2 q3 hb
        generalize f v = W at *
        go_wp2
        go_ret
        rw [HN.out]
        exact getsE_nil _ _ _ BW.out
      · have H1 := Lib.hid h1
        clear h1
        obtain ⟨hv, hhv⟩ : ∃ hv, holdsS out x.k x.f x.e = hv := ⟨_, rfl⟩
        have HV := Lib.hid hhv
        clear hhv
        go_wp2_with fail
        refine wp_region_later (by kernel_rfl) (by kernel_rfl) ?_
        intro f hf1 hf2 hfc
        repeat (go_big_quiet_step (first | (go_at_call 116; exact calls_later hf1 hf2 (l2RowOk_val _ _ _ hm.1 hm.2 H1.out)) | (go_at_call 155; exact calls_later hf1 hf2 (l2Holds_val A5 c5 out _ _ _ _ hv (HOut.out.below (hf1.out _)) hol HV.out))))
        refine wpQuiet_nil ?_
        rintro _ ⟨v, rfl⟩
        have hbf := hf1.out v
        replace q0 := cellBelow hbf hb q0
        replace q1 := cellBelow hbf hb q1
        replace q2 := cellBelow hbf hb q2
        replace q3 := cellBelow hbf hb q3
        have BW := Lib.hid (hbr.trans (hbf.mono hbr.size))
        have OW := Lib.hid (ownsKeep Hown.out hbf)
        clear hbf hfc hf1 hf2 hbr hb
        generalize f v = W at *
        cases hv
        · have HN := Lib.hid (HLay.out.trans (lay_step H1.out (by rw [← holdsS_R]; exact HV.out) _))
          have hsw := BW.out.size
          have hpl := putR_length out x
          go_wp2_with fail
          refine (l2Put_any A5 c5 out x W (rowsA_own OW.out rfl) (owns_nilcap OW.out) (owns_cap OW.out) hol).mono ?_
          rintro e w3 ⟨A6, c6, rfl, ho6, hb6⟩
          have O6 := Lib.hid (owns_baseE ho6 hsw)
          have B6 := Lib.hid (BW.out.trans (hb6.mono hsw))
          clear ho6 hb6 OW HOut
          generalize putR out x = po at *
          have HPL := Lib.hid hpl
          clear hpl
          go_wp2
          go_roundw
          case rel => exact ⟨k + 1, po, by omega, by go_num, by rw [HPL.out, HLen.out], HN.out, O6.out, B6.out⟩
          case measure => simp [intOf]; omega
        · have HN := Lib.hid (relOf_none (HLay.out.trans (lay_bad (.inr (by rw [← holdsS_R]; exact HV.out)) _)))
          go_wp2
          go_ret
          rw [HN.out]
          exact getsE_nil _ _ _ BW.out
    · obtain rfl : k = zs.length := by omega
      rw [List.drop_length] at HLay
      have HR := Lib.hid (relOf_some HLay.out)
      go_wp2_with fail
      refine (l2Join_any A5 c5 out wr HOut.out hol).mono ?_
      rintro e w2 ⟨A6, c6, rfl, ho6, hb6⟩
      have O6 := Lib.hid ho6
      have B6 := Lib.hid (hbr.trans (hb6.mono hbr.size))
      clear ho6 hb6
      generalize joinRows out = js at *
      by_cases h24 : js.length ≤ 24
      · rw [if_pos h24] at HR
        go_wp2
        go_ret
        rw [HR.out]
        exact ⟨A6, c6, rfl, owns_baseE O6.out hs5, B6.out⟩
      · rw [if_neg h24] at HR
        go_wp2
        go_ret
        rw [HR.out]
        exact getsE_nil _ _ _ B6.out
end Go.Proofs.Ytphinkcfmdnpfaa
