/-
  Walks: the model's l2Put, l2Join, l2Holds.
-/
import Derived.Test.YtphinkcfmdnpfaaRelOf
namespace Go.Proofs.Ytphinkcfmdnpfaa
open Go.Shelf Go.RowKit Go.Lib Go.Sort

theorem put_at {zs : List RowV} {r : RowV} {k : Nat} (hk : k ≤ zs.length) (h1 : ∀ j x, j < k → zs[j]? = some x → lessB x r = true) (h2 : ∀ x, zs[k]? = some x → lessB x r = false) : putR zs r = zs.take k ++ r :: zs.drop k := by
  have hT : ∀ x ∈ zs.take k, lessB x r = true := fun x hx => by
    obtain ⟨j, hj, rfl⟩ := List.mem_iff_getElem.1 hx
    rw [List.length_take] at hj
    have : j < zs.length := by omega
    rw [List.getElem_take]
    exact h1 j _ (by omega) (List.getElem?_eq_getElem this)
  unfold putR
  have e : zs = zs.take k ++ zs.drop k := (List.take_append_drop k zs).symm
  have hd : (zs.drop k).takeWhile (lessB · r) = [] ∧ (zs.drop k).dropWhile (lessB · r) = zs.drop k := by
    cases hc : zs.drop k with
    | nil => exact ⟨rfl, rfl⟩
    | cons x l =>
      have hx : zs[k]? = some x := by
        have : (zs.drop k)[0]? = some x := by rw [hc]; rfl
        rw [List.getElem?_drop, Nat.add_zero] at this
        exact this
      rw [List.takeWhile_cons, List.dropWhile_cons, h2 x hx]
      exact ⟨rfl, rfl⟩
  have h3 : zs.takeWhile (lessB · r) = zs.take k := by
    conv => lhs; rw [e]
    rw [List.takeWhile_append_of_pos hT, hd.1, List.append_nil]
  have h4 : zs.dropWhile (lessB · r) = zs.drop k := by
    conv => lhs; rw [e]
    rw [List.dropWhile_append_of_pos hT, hd.2]
  rw [h3, h4]
theorem rows_take {w : World} {A : Option Addr} {zs : List RowV} (h : RowsA w A zs) (k : Nat) : RowsA w A (zs.take k) := fun hn => by
  have : 0 < zs.length := by rw [List.length_take] at hn; omega
  obtain ⟨b, off, e, hb, hc⟩ := h this
  refine ⟨b, off, e, hb, fun i x hx j u hu => hc i x ?_ j u hu⟩
  rw [List.getElem?_take] at hx
  split at hx
  · exact hx
  · cases hx
theorem rows_drop {w : World} {b off : Nat} {zs : List RowV} (h : RowsA w (some ⟨b, off, none⟩) zs) (k : Nat) : RowsA w (some ⟨b, off + k * 4, none⟩) (zs.drop k) := fun hn => by
  have : 0 < zs.length := by rw [List.length_drop] at hn; omega
  obtain ⟨b', off', e, hb, hc⟩ := h this
  injection e with e
  injection e with e1 e2 e3
  subst e1 e2
  refine ⟨b, off + k * 4, rfl, hb, fun i x hx j u hu => ?_⟩
  rw [List.getElem?_drop] at hx
  have := hc (k + i) x hx j u hu
  rw [show off + k * 4 + i * 4 + j = off + (k + i) * 4 + j by omega]
  exact this
theorem owns_cap {w : World} {base n k cap : Nat} {A : Option Addr} {t : TypeId} {xs : List Value} (h : w.ownsRow base t k (.slice A n cap) n xs) : n ≤ cap := by
  rcases h.2 with ⟨e0, h0⟩ | ⟨g, c, cur, e0, _, _, hnc, _⟩
  · omega
  · injection e0 with e1 e2 e3; omega

set_option maxRecDepth 100000 in
set_option maxHeartbeats 4000000 in
theorem l2Put_any (A : Option Addr) (cap : Nat) (zs : List RowV) (r : RowV) (w : World) (hz : RowsA w A zs) (hN : A = none → cap = 0) (hcap : zs.length ≤ cap) (hl : zs.length ≤ 1048577) :
    Calls Try.prog 156 #[.slice A zs.length cap, .agg #[.string r.k, .string r.t, .int .i64 r.f, .int .i64 r.e]] w (GetsE rowC 4 70 w (putR zs r)) := by
  obtain ⟨i0, hi, hz0, hz1, hz2⟩ := info_parts Try.infoR70
  have Hi := Lib.hid hi
  have Hz0 := Lib.hid hz0
  have Hz1 := Lib.hid hz1
  have Hz2 := Lib.hid hz2
  have HNn := Lib.hid hN
  clear hi hz0 hz1 hz2 hN
  go_enter Try.func156, Try.ntmps156
  go_wp2
  generalize hW : w.alloc _ = W0
  obtain ⟨rb, hrb⟩ : ∃ rb, w.heap.size = rb := ⟨_, rfl⟩
  have r0 : W0.cell? ⟨rb, 0, none⟩ = some (.string r.k) := by rw [← hW, ← hrb]; simp [go_sem]
  have r1 : W0.cell? ⟨rb, 1, none⟩ = some (.string r.t) := by rw [← hW, ← hrb]; simp [go_sem]
  have r2 : W0.cell? ⟨rb, 2, none⟩ = some (.int .i64 r.f) := by rw [← hW, ← hrb]; simp [go_sem]
  have r3 : W0.cell? ⟨rb, 3, none⟩ = some (.int .i64 r.e) := by rw [← hW, ← hrb]; simp [go_sem]
  have lrb : rb < W0.heap.size := by rw [← hW, ← hrb]; simp
  have B0 := Lib.hid (show Below rb w W0 from by rw [← hW]; exact (Below.refl _ _).alloc (by omega) _)
  have HZ := Lib.hid (show RowsA W0 A zs from hz.below (by have := B0.out; rw [← hrb] at this; exact this))
  rw [hrb]
  have HRB := Lib.hid hrb
  have HW := Lib.hid hz
  clear hW hz hrb
  go_loopw [5] (fun i wr => ∃ k : Nat, k ≤ zs.length ∧ i = .int .i64 k ∧ (∀ j x, j < k → zs[j]? = some x → lessB x r = true) ∧ Below W0.heap.size W0 wr) (fun i _ => zs.length - (intOf i).toNat)
  case atStart => exact ⟨0, Nat.zero_le _, rfl, fun j x hj => absurd hj (by omega), Below.refl _ _⟩
  case round =>
    obtain ⟨k, hk, rfl, hall, hbr⟩ := hrel
    have Hall := Lib.hid hall
    clear hall
    have q0 := cellBelow hbr lrb r0
    have q1 := cellBelow hbr lrb r1
    have q2 := cellBelow hbr lrb r2
    have q3 := cellBelow hbr lrb r3
    have lrb' := Nat.lt_of_lt_of_le lrb hbr.size
    by_cases hlt : k < zs.length
    · obtain ⟨b, off, x, rfl, hb, hx, c0, c1, c2, c3⟩ := (HZ.out.below hbr).at_ hlt
      have HX := Lib.hid hx
      clear hx
      have hkd : decide ((k : Int) < (zs.length : Int)) = true := by simp; omega
      have hkp : (k : Int) < (zs.length : Int) := by omega
      obtain ⟨lb, hlb⟩ : ∃ lb, lessB x r = lb := ⟨_, rfl⟩
      have HLB := Lib.hid hlb
      clear hlb
      go_wp2_with fail
      refine wp_region_later (by kernel_rfl) (by kernel_rfl) ?_
      intro f hf1 hf2 hfc
      repeat (go_big_quiet_step ((go_at_call 117; exact calls_later hf1 hf2 (l2Less_val _ _ _ _ HLB.out))))
      refine wpQuiet_nil ?_
      rintro _ ⟨v, rfl⟩
      have hbf := hf1.out v
      replace q0 := cellBelow hbf lrb' q0
      replace q1 := cellBelow hbf lrb' q1
      replace q2 := cellBelow hbf lrb' q2
      replace q3 := cellBelow hbf lrb' q3
      replace lrb' := Nat.lt_of_lt_of_le lrb' hbf.size
      have BW := Lib.hid (hbr.trans (hbf.mono hbr.size))
      clear hbf hfc hf1 hf2 hbr hb c0 c1 c2 c3
      generalize f v = W at *
      clear v f
      cases lb
      · have HP := Lib.hid (put_at hk Hall.out (fun y hy => by have := hy.symm.trans HX.out; injection this with this; rw [this]; exact HLB.out))
        clear Hall
        have hsb := BW.out.size
        have BL := Lib.hid (show Below rb w W from B0.out.trans (BW.out.mono (by omega)))
        have OL := Lib.hid (World.ownsRow_lit (base := rb) (e := 70) (size := 4) W #[] 0 (by omega) (by simp [maxLen]) (by simp))
        have HLT := Lib.hid (show (zs.take k).length = k from by rw [List.length_take]; omega)
        have HLD := Lib.hid (show (zs.drop k).length = zs.length - k from List.length_drop)
        have SL := Lib.hid (show Src (W.alloc (.cells #[] 70)) (.slice (some ⟨b, off, none⟩) k cap) (zs.take k) from by
          have := src_of (cap := cap) (rows_take ((HZ.out.below BW.out).below ((Below.refl _ _).alloc (Nat.le_refl _) (.cells #[] 70))) k) (fun h => by cases h)
          rwa [HLT.out] at this)
        have SDF := Lib.hid (show ∀ w2 : World, Below rb w w2 → Src w2 (.slice (some ⟨b, off + k * 4, none⟩) (zs.length - k) (cap - k)) (zs.drop k) from fun w2 h2 => by
          have := src_of (w := w2) (cap := cap - k) (rows_drop (HW.out.below (by rw [HRB.out]; exact h2)) k) (fun h => by cases h)
          rwa [HLD.out] at this)
        have QQ : ∀ o v, W.cell? ⟨rb, o, none⟩ = some v → ∀ w1 : World, (W.alloc (.cells #[] 70)).grownBy w1 (Value.ownBlock (.slice (some ⟨W.heap.size, 0, none⟩) 0 0)) → w1.cell? ⟨rb, o, none⟩ = some v := fun o v hc w1 hg => by
          have := World.cell?_of_block (a := ⟨rb, o, none⟩) (hg.block rb (by simp; omega) (by simp [Value.ownBlock]; omega))
          exact this.trans ((World.cell?_alloc_lt _ _ _ (by exact lrb')).trans hc)
        have Q0 := Lib.hid (QQ 0 _ q0)
        have Q1 := Lib.hid (QQ 1 _ q1)
        have Q2 := Lib.hid (QQ 2 _ q2)
        have Q3 := Lib.hid (QQ 3 _ q3)
        clear QQ r0 r1 r2 r3 q0 q1 q2 q3
        go_wp2_with (at_builtin; first
          | (refine wpList_append_src _ rfl _ _ 23 rfl rb 70 i0 _ 48 Try.underlying23 Hi.out Hz0.out Hz1.out Hz2.out rfl _ (k + 1) (zs.take k ++ [r]) rfl O2.out _ (zs.drop k) rfl SD.out (by rw [HLD.out]; unfold maxLen; omega) (by rw [HLD.out]; omega) (by omega) ?_; intro v3 w3 ho3 hg3; obtain ⟨A3, k3, rfl⟩ := owns_formN ho3; have O3 := Lib.hid ho3; have B3 := Lib.hid (B2.out.grown hg3 (by omega) (fun i e => (O2.out.lt i e).1)); clear ho3 hg3)
          | (refine wpList_append_own _ rfl _ _ 23 rfl rb 70 i0 _ 4 48 Try.underlying23 Hi.out Hz0.out Hz1.out Hz2.out rfl (by decide) _ k (flatOf rowC (zs.take k)) rfl (O1.out.alloc _) ⟨w1.heap.size, 0, none⟩ 1 1 [.string r.k, .string r.t, .int .i64 r.f, .int .i64 r.e] rfl rfl (newsFour (by simp) (by simp) (by simp) (by simp)) (by simp [Value.oneCell']) (by unfold maxLen; omega) (by omega) (by simp; omega) ?_; intro v2 w2 ho2 hg2 hn2; obtain ⟨A2, k2, rfl⟩ := owns_formN ho2; have O2 := Lib.hid (show w2.ownsRow rb 70 4 (.slice A2 (k + 1) k2) (k + 1) (flatOf rowC (zs.take k ++ [r])) from by rw [flatOf_append, flatOf_one]; exact ho2); have B2 := Lib.hid ((B1.out.alloc (by omega) _).grown hg2 (by simp; omega) (fun i e => (O1.out.lt i e).1)); have l2 : rb ≤ w2.heap.size := (by have := B2.out.size; have h := HRB.out; omega); have SD := Lib.hid (SDF.out w2 B2.out); clear ho2 hg2 hn2)
          | (refine wpList_append_src _ rfl _ _ 23 rfl rb 70 i0 _ 48 Try.underlying23 Hi.out Hz0.out Hz1.out Hz2.out rfl (.slice (some ⟨W.heap.size, 0, none⟩) 0 0) 0 [] rfl OL.out _ (zs.take k) rfl SL.out (by rw [HLT.out]; unfold maxLen; omega) (by rw [HLT.out]; omega) (by simp; omega) ?_; rw [HLT.out, List.nil_append, Nat.zero_add]; intro v1 w1 ho1 hg1; obtain ⟨A1, k1, rfl⟩ := owns_formN ho1; have O1 := Lib.hid ho1; have B1 := Lib.hid ((BL.out.alloc (by omega) _).grown hg1 (by simp; omega) (fun i e => (OL.out.lt i e).1)); have l1 : rb ≤ w1.heap.size := (by have := B1.out.size; have h := HRB.out; omega); have q0' : w1.cell? ⟨rb, 0, none⟩ = some (.string r.k) := Q0.out w1 hg1; have q1' : w1.cell? ⟨rb, 1, none⟩ = some (.string r.t) := Q1.out w1 hg1; have q2' : w1.cell? ⟨rb, 2, none⟩ = some (.int .i64 r.f) := Q2.out w1 hg1; have q3' : w1.cell? ⟨rb, 3, none⟩ = some (.int .i64 r.e) := Q3.out w1 hg1; clear ho1 hg1))
        go_ret
        rw [HP.out]
        have hlen : (zs.take k ++ r :: zs.drop k).length = k + 1 + (zs.length - k) := by rw [List.length_append, List.length_cons, HLT.out, HLD.out]; omega
        refine ⟨A3, k3, ?_, ?_, by rw [HRB.out]; exact B3.out⟩
        · rw [hlen, ← HLD.out]; rfl
        · have := O3.out
          rw [HLD.out, List.append_assoc] at this
          rw [hlen, HRB.out]
          exact this
      · go_wp2
        go_roundw
        case rel => exact ⟨k + 1, by omega, by go_num, fun j y hj hy => by
          by_cases e : j = k
          · subst e
            have := hy.symm.trans HX.out
            injection this with this
            rw [this]; exact HLB.out
          · exact Hall.out j y (by omega) hy, BW.out⟩
        case measure => simp [intOf]; omega
    · have HKN := Lib.hid (show k = zs.length from by omega)
      have hkd : decide ((k : Int) < (zs.length : Int)) = false := by simp; omega
      have hkn : ¬ (k : Int) < (zs.length : Int) := by omega
      have HP := Lib.hid (put_at hk Hall.out (fun y hy => by rw [List.getElem?_eq_none (by omega)] at hy; cases hy))
      clear Hall
      go_wp2_with fail
      go_quiet (fail)
      have BW := Lib.hid (show Below W0.heap.size W0 (wr.drewN nq) from below_drewN hbr _)
      replace q0 : (wr.drewN nq).cell? ⟨rb, 0, none⟩ = some (.string r.k) := q0
      replace q1 : (wr.drewN nq).cell? ⟨rb, 1, none⟩ = some (.string r.t) := q1
      replace q2 : (wr.drewN nq).cell? ⟨rb, 2, none⟩ = some (.int .i64 r.f) := q2
      replace q3 : (wr.drewN nq).cell? ⟨rb, 3, none⟩ = some (.int .i64 r.e) := q3
      replace lrb' : rb < (wr.drewN nq).heap.size := lrb'
      clear hbr
      generalize wr.drewN nq = W at *
      by_cases hz0 : 0 < zs.length
      · obtain ⟨b, off, rfl, -, -⟩ := HZ.out hz0
        have hsb := BW.out.size
        have BL := Lib.hid (show Below rb w W from B0.out.trans (BW.out.mono (by omega)))
        have OL := Lib.hid (World.ownsRow_lit (base := rb) (e := 70) (size := 4) W #[] 0 (by omega) (by simp [maxLen]) (by simp))
        have HLT := Lib.hid (show (zs.take k).length = k from by rw [List.length_take]; omega)
        have HLD := Lib.hid (show (zs.drop k).length = zs.length - k from List.length_drop)
        have SL := Lib.hid (show Src (W.alloc (.cells #[] 70)) (.slice (some ⟨b, off, none⟩) k cap) (zs.take k) from by
          have := src_of (cap := cap) (rows_take ((HZ.out.below BW.out).below ((Below.refl _ _).alloc (Nat.le_refl _) (.cells #[] 70))) k) (fun h => by cases h)
          rwa [HLT.out] at this)
        have SDE := Lib.hid (show ∀ (a : Addr) (c : Nat) (w2 : World), Src w2 (.slice (some a) (zs.length - k) c) (zs.drop k) from fun a c w2 => by
          have h1 : zs.drop k = [] := List.drop_of_length_le (by omega)
          have h2 : zs.length - k = 0 := by omega
          rw [h1, h2]
          exact .inr ⟨a, c, rfl, fun j x hx => by simp [flatOf] at hx⟩)
        have QQ : ∀ o v, W.cell? ⟨rb, o, none⟩ = some v → ∀ w1 : World, (W.alloc (.cells #[] 70)).grownBy w1 (Value.ownBlock (.slice (some ⟨W.heap.size, 0, none⟩) 0 0)) → w1.cell? ⟨rb, o, none⟩ = some v := fun o v hc w1 hg => by
          have := World.cell?_of_block (a := ⟨rb, o, none⟩) (hg.block rb (by simp; omega) (by simp [Value.ownBlock]; omega))
          exact this.trans ((World.cell?_alloc_lt _ _ _ (by exact lrb')).trans hc)
        have Q0 := Lib.hid (QQ 0 _ q0)
        have Q1 := Lib.hid (QQ 1 _ q1)
        have Q2 := Lib.hid (QQ 2 _ q2)
        have Q3 := Lib.hid (QQ 3 _ q3)
        clear QQ r0 r1 r2 r3 q0 q1 q2 q3
        by_cases hck : k = cap
        · have hck1 : cap - k = 0 := by omega
          clear hck
          go_wp2_with (at_builtin; first
            | (refine wpList_append_src _ rfl _ _ 23 rfl rb 70 i0 _ 48 Try.underlying23 Hi.out Hz0.out Hz1.out Hz2.out rfl _ (k + 1) (zs.take k ++ [r]) rfl O2.out _ (zs.drop k) rfl (SDE.out _ _ _) (by rw [HLD.out]; unfold maxLen; omega) (by rw [HLD.out]; omega) (by omega) ?_; intro v3 w3 ho3 hg3; obtain ⟨A3, k3, rfl⟩ := owns_formN ho3; have O3 := Lib.hid ho3; have B3 := Lib.hid (B2.out.grown hg3 (by omega) (fun i e => (O2.out.lt i e).1)); clear ho3 hg3)
            | (refine wpList_append_own _ rfl _ _ 23 rfl rb 70 i0 _ 4 48 Try.underlying23 Hi.out Hz0.out Hz1.out Hz2.out rfl (by decide) _ k (flatOf rowC (zs.take k)) rfl (O1.out.alloc _) ⟨w1.heap.size, 0, none⟩ 1 1 [.string r.k, .string r.t, .int .i64 r.f, .int .i64 r.e] rfl rfl (newsFour (by simp) (by simp) (by simp) (by simp)) (by simp [Value.oneCell']) (by unfold maxLen; omega) (by omega) (by simp; omega) ?_; intro v2 w2 ho2 hg2 hn2; obtain ⟨A2, k2, rfl⟩ := owns_formN ho2; have O2 := Lib.hid (show w2.ownsRow rb 70 4 (.slice A2 (k + 1) k2) (k + 1) (flatOf rowC (zs.take k ++ [r])) from by rw [flatOf_append, flatOf_one]; exact ho2); have B2 := Lib.hid ((B1.out.alloc (by omega) _).grown hg2 (by simp; omega) (fun i e => (O1.out.lt i e).1)); have l2 : rb ≤ w2.heap.size := (by have := B2.out.size; have h := HRB.out; omega); clear ho2 hg2 hn2)
            | (refine wpList_append_src _ rfl _ _ 23 rfl rb 70 i0 _ 48 Try.underlying23 Hi.out Hz0.out Hz1.out Hz2.out rfl (.slice (some ⟨W.heap.size, 0, none⟩) 0 0) 0 [] rfl OL.out _ (zs.take k) rfl SL.out (by rw [HLT.out]; unfold maxLen; omega) (by rw [HLT.out]; omega) (by simp; omega) ?_; rw [HLT.out, List.nil_append, Nat.zero_add]; intro v1 w1 ho1 hg1; obtain ⟨A1, k1, rfl⟩ := owns_formN ho1; have O1 := Lib.hid ho1; have B1 := Lib.hid ((BL.out.alloc (by omega) _).grown hg1 (by simp; omega) (fun i e => (OL.out.lt i e).1)); have l1 : rb ≤ w1.heap.size := (by have := B1.out.size; have h := HRB.out; omega); have q0' : w1.cell? ⟨rb, 0, none⟩ = some (.string r.k) := Q0.out w1 hg1; have q1' : w1.cell? ⟨rb, 1, none⟩ = some (.string r.t) := Q1.out w1 hg1; have q2' : w1.cell? ⟨rb, 2, none⟩ = some (.int .i64 r.f) := Q2.out w1 hg1; have q3' : w1.cell? ⟨rb, 3, none⟩ = some (.int .i64 r.e) := Q3.out w1 hg1; clear ho1 hg1))
          all_goals (
            go_ret
            rw [HP.out]
            have hlen : (zs.take k ++ r :: zs.drop k).length = k + 1 + (zs.length - k) := by rw [List.length_append, List.length_cons, HLT.out, HLD.out]; omega
            refine ⟨A3, k3, ?_, ?_, by rw [HRB.out]; exact B3.out⟩
            · rw [hlen, ← HLD.out]; rfl
            · have := O3.out
              rw [HLD.out, List.append_assoc] at this
              rw [hlen, HRB.out]
              exact this)
        · have hck1 : ¬ cap - k = 0 := by omega
          have hck2 : ¬ cap = k := by omega
          go_wp2_with (at_builtin; first
            | (refine wpList_append_src _ rfl _ _ 23 rfl rb 70 i0 _ 48 Try.underlying23 Hi.out Hz0.out Hz1.out Hz2.out rfl _ (k + 1) (zs.take k ++ [r]) rfl O2.out _ (zs.drop k) rfl (SDE.out _ _ _) (by rw [HLD.out]; unfold maxLen; omega) (by rw [HLD.out]; omega) (by omega) ?_; intro v3 w3 ho3 hg3; obtain ⟨A3, k3, rfl⟩ := owns_formN ho3; have O3 := Lib.hid ho3; have B3 := Lib.hid (B2.out.grown hg3 (by omega) (fun i e => (O2.out.lt i e).1)); clear ho3 hg3)
            | (refine wpList_append_own _ rfl _ _ 23 rfl rb 70 i0 _ 4 48 Try.underlying23 Hi.out Hz0.out Hz1.out Hz2.out rfl (by decide) _ k (flatOf rowC (zs.take k)) rfl (O1.out.alloc _) ⟨w1.heap.size, 0, none⟩ 1 1 [.string r.k, .string r.t, .int .i64 r.f, .int .i64 r.e] rfl rfl (newsFour (by simp) (by simp) (by simp) (by simp)) (by simp [Value.oneCell']) (by unfold maxLen; omega) (by omega) (by simp; omega) ?_; intro v2 w2 ho2 hg2 hn2; obtain ⟨A2, k2, rfl⟩ := owns_formN ho2; have O2 := Lib.hid (show w2.ownsRow rb 70 4 (.slice A2 (k + 1) k2) (k + 1) (flatOf rowC (zs.take k ++ [r])) from by rw [flatOf_append, flatOf_one]; exact ho2); have B2 := Lib.hid ((B1.out.alloc (by omega) _).grown hg2 (by simp; omega) (fun i e => (O1.out.lt i e).1)); have l2 : rb ≤ w2.heap.size := (by have := B2.out.size; have h := HRB.out; omega); clear ho2 hg2 hn2)
            | (refine wpList_append_src _ rfl _ _ 23 rfl rb 70 i0 _ 48 Try.underlying23 Hi.out Hz0.out Hz1.out Hz2.out rfl (.slice (some ⟨W.heap.size, 0, none⟩) 0 0) 0 [] rfl OL.out _ (zs.take k) rfl SL.out (by rw [HLT.out]; unfold maxLen; omega) (by rw [HLT.out]; omega) (by simp; omega) ?_; rw [HLT.out, List.nil_append, Nat.zero_add]; intro v1 w1 ho1 hg1; obtain ⟨A1, k1, rfl⟩ := owns_formN ho1; have O1 := Lib.hid ho1; have B1 := Lib.hid ((BL.out.alloc (by omega) _).grown hg1 (by simp; omega) (fun i e => (OL.out.lt i e).1)); have l1 : rb ≤ w1.heap.size := (by have := B1.out.size; have h := HRB.out; omega); have q0' : w1.cell? ⟨rb, 0, none⟩ = some (.string r.k) := Q0.out w1 hg1; have q1' : w1.cell? ⟨rb, 1, none⟩ = some (.string r.t) := Q1.out w1 hg1; have q2' : w1.cell? ⟨rb, 2, none⟩ = some (.int .i64 r.f) := Q2.out w1 hg1; have q3' : w1.cell? ⟨rb, 3, none⟩ = some (.int .i64 r.e) := Q3.out w1 hg1; clear ho1 hg1))
          all_goals (
            go_ret
            rw [HP.out]
            have hlen : (zs.take k ++ r :: zs.drop k).length = k + 1 + (zs.length - k) := by rw [List.length_append, List.length_cons, HLT.out, HLD.out]; omega
            refine ⟨A3, k3, ?_, ?_, by rw [HRB.out]; exact B3.out⟩
            · rw [hlen, ← HLD.out]; rfl
            · have := O3.out
              rw [HLD.out, List.append_assoc] at this
              rw [hlen, HRB.out]
              exact this)
      · obtain rfl : zs = [] := List.length_eq_zero_iff.1 (by omega)
        have hk0 : k = 0 := HKN.out
        subst hk0
        rw [List.take_nil, List.drop_nil, List.nil_append] at HP
        have hsb := BW.out.size
        have BL := Lib.hid (show Below rb w W from B0.out.trans (BW.out.mono (by omega)))
        have OL := Lib.hid (World.ownsRow_lit (base := rb) (e := 70) (size := 4) W #[] 0 (by omega) (by simp [maxLen]) (by simp))
        have SE := Lib.hid (show ∀ w2 : World, Src w2 (.slice A 0 cap) [] from fun w2 => by
          cases A with
          | none => rw [HNn.out rfl]; exact .inl ⟨rfl, rfl⟩
          | some a => exact .inr ⟨a, cap, rfl, fun j x hx => by simp [flatOf] at hx⟩)
        have QQ : ∀ o v, W.cell? ⟨rb, o, none⟩ = some v → ∀ w1 : World, (W.alloc (.cells #[] 70)).grownBy w1 (Value.ownBlock (.slice (some ⟨W.heap.size, 0, none⟩) 0 0)) → w1.cell? ⟨rb, o, none⟩ = some v := fun o v hc w1 hg => by
          have := World.cell?_of_block (a := ⟨rb, o, none⟩) (hg.block rb (by simp; omega) (by simp [Value.ownBlock]; omega))
          exact this.trans ((World.cell?_alloc_lt _ _ _ (by exact lrb')).trans hc)
        have Q0 := Lib.hid (QQ 0 _ q0)
        have Q1 := Lib.hid (QQ 1 _ q1)
        have Q2 := Lib.hid (QQ 2 _ q2)
        have Q3 := Lib.hid (QQ 3 _ q3)
        clear QQ r0 r1 r2 r3 q0 q1 q2 q3
        cases A
        all_goals (
          try (have h0 : cap = 0 := HNn.out rfl
               subst h0)
          go_wp2_with (at_builtin; first
            | (refine wpList_append_src _ rfl _ _ 23 rfl rb 70 i0 _ 48 Try.underlying23 Hi.out Hz0.out Hz1.out Hz2.out rfl _ 1 [r] rfl O2.out _ [] rfl (SE.out w2) (by simp [maxLen]) (by simp) (by omega) ?_; intro v3 w3 ho3 hg3; obtain ⟨A3, k3, rfl⟩ := owns_formN ho3; have O3 := Lib.hid ho3; have B3 := Lib.hid (B2.out.grown hg3 (by omega) (fun i e => (O2.out.lt i e).1)); clear ho3 hg3)
            | (refine wpList_append_own _ rfl _ _ 23 rfl rb 70 i0 _ 4 48 Try.underlying23 Hi.out Hz0.out Hz1.out Hz2.out rfl (by decide) _ 0 (flatOf rowC []) rfl (O1.out.alloc _) ⟨w1.heap.size, 0, none⟩ 1 1 [.string r.k, .string r.t, .int .i64 r.f, .int .i64 r.e] rfl rfl (newsFour (by simp) (by simp) (by simp) (by simp)) (by simp [Value.oneCell']) (by unfold maxLen; omega) (by omega) (by simp; omega) ?_; intro v2 w2 ho2 hg2 hn2; obtain ⟨A2, k2, rfl⟩ := owns_formN ho2; have O2 := Lib.hid (show w2.ownsRow rb 70 4 (.slice A2 (0 + 1) k2) 1 (flatOf rowC [r]) from ho2); have B2 := Lib.hid ((B1.out.alloc (by omega) _).grown hg2 (by simp; omega) (fun i e => (O1.out.lt i e).1)); have l2 : rb ≤ w2.heap.size := (by have := B2.out.size; have h := HRB.out; omega); clear ho2 hg2 hn2)
            | (refine wpList_append_src _ rfl _ _ 23 rfl rb 70 i0 _ 48 Try.underlying23 Hi.out Hz0.out Hz1.out Hz2.out rfl (.slice (some ⟨W.heap.size, 0, none⟩) 0 0) 0 [] rfl OL.out _ [] rfl (SE.out _) (by simp [maxLen]) (by simp) (by simp; omega) ?_; intro v1 w1 ho1 hg1; obtain ⟨A1, k1, rfl⟩ := owns_formN ho1; have O1 := Lib.hid (show w1.ownsRow rb 70 4 (.slice A1 0 k1) 0 (flatOf rowC []) from ho1); have B1 := Lib.hid ((BL.out.alloc (by omega) _).grown hg1 (by simp; omega) (fun i e => (OL.out.lt i e).1)); have l1 : rb ≤ w1.heap.size := (by have := B1.out.size; have h := HRB.out; omega); have q0' : w1.cell? ⟨rb, 0, none⟩ = some (.string r.k) := Q0.out w1 hg1; have q1' : w1.cell? ⟨rb, 1, none⟩ = some (.string r.t) := Q1.out w1 hg1; have q2' : w1.cell? ⟨rb, 2, none⟩ = some (.int .i64 r.f) := Q2.out w1 hg1; have q3' : w1.cell? ⟨rb, 3, none⟩ = some (.int .i64 r.e) := Q3.out w1 hg1; clear ho1 hg1))
          go_ret
          rw [HP.out]
          refine ⟨A3, k3, rfl, ?_, by rw [HRB.out]; exact B3.out⟩
          rw [HRB.out]
          exact O3.out)
end Go.Proofs.Ytphinkcfmdnpfaa
