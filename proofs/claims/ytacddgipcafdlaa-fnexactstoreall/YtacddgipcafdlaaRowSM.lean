/-
  Walks: slices of slices of rows: copies that a call makes, marks.
-/
import Derived.Test.YtacddgipcafdlaaRowSS
import Derived.Test.YtacddgipcafdlaaRowM
namespace Go.Proofs.Ytacddgipcafdlaa
open Go.RowKit Go.Lib

theorem Try.infoRR58 : (Try.prog.info? 58).map (fun i => (i.zero, i.size, i.bytes)) = some (some (.slice none 0 0), 1, 24) := by kernel_rfl

/-- Tables that a call has made: the slice lies in the block base, each table in a block of its own behind it, below hi. -/
def TabsM (w : World) (base hi : Nat) (tts : List (List RowV)) : Prop :=
  ∃ sl : List Value, sl.length = tts.length ∧ w.ownsRow base 58 1 (.slice (some ⟨base, 0, none⟩) tts.length tts.length) tts.length sl ∧
    (∀ (i : Nat) (t : List RowV), tts[i]? = some t → ∃ (At : Option Addr) (ct : Nat), sl[i]? = some (Value.slice At t.length ct) ∧ w.ownsRow (base + 1) 72 4 (.slice At t.length ct) t.length (flatOf rowC t) ∧ ∀ b, (Value.slice At t.length ct).ownBlock = some b → b < hi) ∧
    ∀ (i j : Nat) (u u' : Value), i < j → sl[i]? = some u → sl[j]? = some u' → ∀ b b', u.ownBlock = some b → u'.ownBlock = some b' → b < b'
theorem TabsM.tabs {w : World} {base hi : Nat} {tts : List (List RowV)} (h : TabsM w base hi tts) : TabsA w (some ⟨base, 0, none⟩) tts := fun i t ht => by
  obtain ⟨sl, hl, ho, hi', _⟩ := h
  obtain ⟨At, ct, h1, h2, _⟩ := hi' i t ht
  have hit : i < tts.length := (List.getElem?_eq_some_iff.1 ht).1
  refine ⟨base, 0, At, ct, rfl, (ho.lt base rfl).2, ?_, el_of_owns rowC_len h2⟩
  rw [Nat.zero_add, ho.cellAt i (by omega), h1]
theorem TabsM.keep {w w' : World} {base hi : Nat} {tts : List (List RowV)} (h : TabsM w base hi tts) (hb : Below w.heap.size w w') : TabsM w' base hi tts := by
  obtain ⟨sl, hl, ho, hi', hp⟩ := h
  refine ⟨sl, hl, ownsKeep ho hb, fun i t ht => ?_, hp⟩
  obtain ⟨At, ct, h1, h2, h3⟩ := hi' i t ht
  exact ⟨At, ct, h1, ownsKeep h2 hb, h3⟩

set_option maxRecDepth 100000 in
set_option maxHeartbeats 4000000 in
theorem toRowSS_any (A : Option Addr) (cap : Nat) (tts : List (List RowV)) (w : World) (hz : TabsA w A tts) (hl : tts.length ≤ 1048577) (hs : ∀ t ∈ tts, t.length ≤ 1048577) :
    Calls Try.prog 17 #[.slice A tts.length cap] w fun e w' => e = .returned (.slice (some ⟨w.heap.size, 0, none⟩) tts.length tts.length) ∧ TabsM w' w.heap.size w'.heap.size tts ∧ Below w.heap.size w w' := by
  obtain ⟨i0, hi, hz0, hz1, hz2⟩ := info_parts Try.infoRR58
  have hi16 : i0.bytes * tts.length ≤ 281474976710656 := by rw [hz2]; omega
  have hml : tts.length ≤ maxLen := by unfold maxLen; omega
  have HZ := Lib.hid hz
  have HS := Lib.hid hs
  clear hz hs
  go_enter Try.func17, Try.ntmps17
  go_wp2_with (at_make; refine wpList_make_full _ rfl _ _ 29 rfl w.heap.size 58 i0 _ 1 Try.underlying29 hi hz0 hz1 .i64 .i64 _ _ tts.length rfl rfl rfl rfl hi16 hml (Nat.le_refl _) ?_; intro w1 hown hgrow)
  obtain ⟨g, hg⟩ : ∃ g, w.heap.size = g := ⟨_, rfl⟩
  have HGG := Lib.hid hg
  have HB := Lib.hid ((Below.refl w.heap.size w).grown hgrow (Nat.le_refl _) (fun k hk => by cases hk))
  have HO := Lib.hid hown
  rw [hg] at HB HO
  rw [hg]
  clear hown hgrow hi hz0 hz1 hz2 hi16 hg
  go_loopw [4] (fun i wr => ∃ k : Nat, k ≤ tts.length ∧ i = .int .i64 k ∧ (∃ sl : List Value, sl.length = tts.length ∧ wr.ownsRow g 58 1 (.slice (some ⟨g, 0, none⟩) tts.length tts.length) tts.length sl ∧
      (∀ (i : Nat) (t : List RowV), i < k → tts[i]? = some t → ∃ (At : Option Addr) (ct : Nat), sl[i]? = some (Value.slice At t.length ct) ∧ wr.ownsRow (g + 1) 72 4 (.slice At t.length ct) t.length (flatOf rowC t)) ∧
      ∀ (i j : Nat) (u u' : Value), i < j → j < k → sl[i]? = some u → sl[j]? = some u' → ∀ b b', u.ownBlock = some b → u'.ownBlock = some b' → b < b') ∧ Below g w wr) (fun i _ => tts.length - (intOf i).toNat)
  case atStart => exact ⟨0, Nat.zero_le _, rfl, ⟨_, by have := HO.out.1; omega, HO.out, fun i t h => absurd h (Nat.not_lt_zero _), fun i j u u' _ h => absurd h (Nat.not_lt_zero _)⟩, HB.out⟩
  case round =>
    obtain ⟨k, hk, rfl, ⟨sl, hsl, hown, hin, hp⟩, hbr⟩ := hrel
    have hgl : g < wr.heap.size := (hown.lt g rfl).2
    have Hown := Lib.hid hown
    have HIN := Lib.hid hin
    have HP := Lib.hid hp
    have BR := Lib.hid hbr
    clear hown hin hp HO HB
    by_cases hlt : k < tts.length
    · obtain ⟨b, off, t, At, ct, rfl, hb, ht, c0, hr⟩ := (HZ.out.below (show Below w.heap.size w wr from by rw [HGG.out]; exact BR.out)).at_ hlt
      have hm := HS.out t (List.mem_of_getElem? ht)
      have HT := Lib.hid ht
      have HR := Lib.hid hr
      have hkz : (k : Int) < (tts.length : Int) := by omega
      have hkz0 : (0 : Int) ≤ (k : Int) := by omega
      obtain ⟨old, hold⟩ : ∃ old, sl[k]? = some old := ⟨_, List.getElem?_eq_getElem (by omega)⟩
      clear ht hr hbr
      go_wp2_with fail
      refine (toRowS_any At ct t wr HR.out hm).mono ?_
      rintro e w2 ⟨A', c', rfl, ho, hb2⟩
      have hown2 := ownsKeep Hown.out hb2
      have e0 : w2.cell? ⟨g, k, none⟩ = some old := by rw [hown2.cellAt k (by omega)]; exact hold
      have f0 := hown2.frozenAt k
      have O3 := Lib.hid (hown2.stored k (.slice A' t.length c')).1
      have I3 := Lib.hid (show (w2.setCell ⟨g, k, none⟩ (.slice A' t.length c')).ownsRow (g + 1) 72 4 (.slice A' t.length c') t.length (flatOf rowC t) from owns_set_farV (ownsBase ho (by omega)) (Nat.lt_succ_self g))
      have HLT := Lib.hid (fun b' (e : (Value.slice A' t.length c').ownBlock = some b') => (ho.lt b' e).1)
      have HIN3 := Lib.hid (show ∀ (i : Nat) (u : List RowV), i < k → tts[i]? = some u → ∃ (At : Option Addr) (ct : Nat), sl[i]? = some (Value.slice At u.length ct) ∧ wr.ownsRow (g + 1) 72 4 (.slice At u.length ct) u.length (flatOf rowC u) ∧ (w2.setCell ⟨g, k, none⟩ (.slice A' t.length c')).ownsRow (g + 1) 72 4 (.slice At u.length ct) u.length (flatOf rowC u) from fun i u hi hu => by
        obtain ⟨A1, c1, h1, h2⟩ := HIN.out i u hi hu
        exact ⟨A1, c1, h1, h2, owns_set_farV (ownsKeep h2 hb2) (Nat.lt_succ_self g)⟩)
      have B3 := Lib.hid ((BR.out.trans (hb2.mono (by omega))).setCell (p := ⟨g, k, none⟩) (Nat.le_refl _) (.slice A' t.length c'))
      clear ho hb2 hown2 c0
      go_wp2
      go_roundw
      case rel =>
        refine ⟨k + 1, by omega, by go_num, ⟨sl.set k (.slice A' t.length c'), by rw [List.length_set]; exact hsl, O3.out, fun i u hi hu => ?_, fun i j u u' hij hj hu hu' b1 b2 h1 h2 => ?_⟩, B3.out⟩
        · by_cases hik : i = k
          · subst hik
            rw [HT.out] at hu
            injection hu with hu
            subst hu
            exact ⟨A', c', List.getElem?_set_self (by omega), I3.out⟩
          · obtain ⟨A1, c1, g1, _, g3⟩ := HIN3.out i u (by omega) hu
            exact ⟨A1, c1, by rw [List.getElem?_set_ne (fun e => hik e.symm)]; exact g1, g3⟩
        · rw [List.getElem?_set_ne (by omega)] at hu
          by_cases hjk : j = k
          · subst hjk
            rw [List.getElem?_set_self (by omega)] at hu'
            injection hu' with hu'
            subst hu'
            have hb2' := HLT.out b2 h2
            have hi' : i < tts.length := by omega
            obtain ⟨A1, c1, g1, g2, _⟩ := HIN3.out i _ hij (List.getElem?_eq_getElem hi')
            rw [hu] at g1
            injection g1 with g1
            subst g1
            have := (g2.lt b1 h1).2
            omega
          · rw [List.getElem?_set_ne (fun e => hjk e.symm)] at hu'
            exact HP.out i j u u' hij (by omega) hu hu' b1 b2 h1 h2
      case measure => simp [intOf]; omega
    · obtain rfl : k = tts.length := by omega
      go_wp2
      go_ret
      rw [HGG.out]
      refine ⟨rfl, ⟨sl, hsl, Hown.out, fun i t ht => ?_, fun i j u u' hij hu hu' => HP.out i j u u' hij (by have := (List.getElem?_eq_some_iff.1 hu').1; omega) hu hu'⟩, BR.out⟩
      obtain ⟨A1, c1, g1, g2⟩ := HIN.out i t (List.getElem?_eq_some_iff.1 ht).1 ht
      exact ⟨A1, c1, g1, g2, fun b' e => (g2.lt b' e).2⟩

/-- Blocks outside an interval lie as they lay. -/
structure FrameI (lo hi : Nat) (w w' : World) : Prop where
  os : w'.os = w.os
  tape : w'.tape = w.tape
  output : w'.output = w.output
  size : w.heap.size ≤ w'.heap.size
  same : ∀ k, k < w.heap.size → (k < lo ∨ hi ≤ k) → w'.heap[k]? = w.heap[k]?
theorem FrameI.refl (lo hi : Nat) (w : World) : FrameI lo hi w w := ⟨rfl, rfl, rfl, Nat.le_refl _, fun _ _ _ => rfl⟩
theorem FrameI.grown {lo hi : Nat} {w w1 w2 : World} {r : Option Nat} (h : FrameI lo hi w w1) (hg : w1.grownBy w2 r) (hr : ∀ k, r = some k → lo ≤ k ∧ k < hi) : FrameI lo hi w w2 :=
  ⟨hg.os.trans h.os, hg.tape.trans h.tape, hg.output.trans h.output, Nat.le_trans h.size hg.size, fun k hk ho => (hg.block k (Nat.lt_of_lt_of_le hk h.size) (fun e => by have := hr k e.symm; omega)).trans (h.same k hk ho)⟩
theorem FrameI.below {lo hi : Nat} {w w' : World} (h : FrameI lo hi w w') (hn : lo ≤ w.heap.size) : Below lo w w' :=
  ⟨h.os, h.tape, h.output, h.size, fun k hk => h.same k (by omega) (.inl hk)⟩

set_option maxRecDepth 100000 in
set_option maxHeartbeats 4000000 in
theorem markRowSS_any (base hi : Nat) (tts : List (List RowV)) (k0 : Int) (w : World) (h : TabsM w base hi tts) (hk : 1 ≤ k0) (hk' : k0 + 4 * (rowsSum tts : Int) ≤ 1000000000) (hl : tts.length ≤ 1048577) (hs : ∀ t ∈ tts, t.length ≤ 4194304) :
    Calls Try.prog 21 #[.slice (some ⟨base, 0, none⟩) tts.length tts.length, .int .i64 k0] w fun e w' => e = .returned (.int .i64 (k0 + 4 * (rowsSum tts : Int))) ∧ FrameI base hi w w' := by
  obtain ⟨sl, hsl, ho, hin, hp⟩ := h
  have HO := Lib.hid ho
  have HIN := Lib.hid hin
  have HP := Lib.hid hp
  have HS := Lib.hid hs
  clear ho hin hp hs
  go_enter Try.func21, Try.ntmps21
  go_wp2
  go_loopw [1, 5] (fun v i wr => ∃ k : Nat, k ≤ tts.length ∧ i = .int .i64 k ∧ v = .int .i64 (k0 + 4 * (rowsSum (tts.take k) : Int)) ∧ wr.ownsRow base 58 1 (.slice (some ⟨base, 0, none⟩) tts.length tts.length) tts.length sl ∧
      (∀ (i : Nat) (t : List RowV), k ≤ i → tts[i]? = some t → ∃ (At : Option Addr) (ct : Nat), sl[i]? = some (Value.slice At t.length ct) ∧ wr.ownsRow (base + 1) 72 4 (.slice At t.length ct) t.length (flatOf rowC t) ∧ ∀ b, (Value.slice At t.length ct).ownBlock = some b → b < hi) ∧ FrameI base hi w wr) (fun _ i _ => tts.length - (intOf i).toNat)
  case atStart => exact ⟨0, Nat.zero_le _, rfl, by simp [rowsSum], HO.out, fun i t _ ht => HIN.out i t ht, FrameI.refl _ _ _⟩
  case round =>
    obtain ⟨k, hk2, rfl, rfl, hown, hrest, hfr⟩ := hrel
    have Hown := Lib.hid hown
    have HRest := Lib.hid hrest
    have HF := Lib.hid hfr
    clear hown hrest hfr
    by_cases hlt : k < tts.length
    · obtain ⟨t, ht⟩ : ∃ t, tts[k]? = some t := ⟨_, List.getElem?_eq_getElem hlt⟩
      obtain ⟨At, ct, h1, h2, h3⟩ := HRest.out k t (Nat.le_refl _) ht
      have c0 : wr.cell? ⟨base, k, none⟩ = some (.slice At t.length ct) := by rw [Hown.out.cellAt k (by omega)]; exact h1
      have hsum := rowsSum_take ht
      have hpart := rowsSum_part tts (k + 1)
      have hm := HS.out t (List.mem_of_getElem? ht)
      have H1 := Lib.hid h1
      have H2 := Lib.hid h2
      have H3 := Lib.hid h3
      have hkz : (k : Int) < (tts.length : Int) := by omega
      have hkz0 : (0 : Int) ≤ (k : Int) := by omega
      obtain ⟨q, hq⟩ : ∃ q : Int, k0 + 4 * (rowsSum (tts.take k) : Int) = q := ⟨_, rfl⟩
      have HQ := Lib.hid hq
      rw [hq]
      have hq1 : 1 ≤ q := by omega
      have hq2 : q ≤ 1000000000 := by omega
      clear ht h1 h2 h3 hq
      go_wp2_with fail
      refine (markRowS_any (base + 1) (.slice At t.length ct) t q wr H2.out hq1 hq2 hm).mono ?_
      rintro e w2 ⟨rfl, hmk, hg⟩
      have O2 := Lib.hid (Hown.out.kept hg (.inr fun e => by have := (H2.out.lt base e.symm).1; omega))
      have F2 := Lib.hid (HF.out.grown hg (fun b e => ⟨by have := (H2.out.lt b e).1; omega, H3.out b e⟩))
      have R2 := Lib.hid (show ∀ (i : Nat) (u : List RowV), k + 1 ≤ i → tts[i]? = some u → ∃ (At : Option Addr) (ct : Nat), sl[i]? = some (Value.slice At u.length ct) ∧ w2.ownsRow (base + 1) 72 4 (.slice At u.length ct) u.length (flatOf rowC u) ∧ ∀ b, (Value.slice At u.length ct).ownBlock = some b → b < hi from fun i u hi' hu => by
        obtain ⟨A1, c1, g1, g2, g3⟩ := HRest.out i u (by omega) hu
        refine ⟨A1, c1, g1, g2.kept hg ?_, g3⟩
        cases hb1 : (Value.slice A1 u.length c1).ownBlock with
        | none => exact .inl rfl
        | some b1 =>
          refine .inr fun e => ?_
          have := HP.out k i _ _ (by omega) H1.out g1 b1 b1 e.symm hb1
          omega)
      clear hmk hg c0
      go_wp2
      go_roundw
      case rel => exact ⟨k + 1, by omega, by go_num, by rw [hsum, ← HQ.out]; go_num, O2.out, R2.out, F2.out⟩
      case measure => simp [intOf]; omega
    · obtain rfl : k = tts.length := by omega
      rw [List.take_length]
      go_wp2
      go_ret
      exact ⟨rfl, HF.out⟩
end Go.Proofs.Ytacddgipcafdlaa
