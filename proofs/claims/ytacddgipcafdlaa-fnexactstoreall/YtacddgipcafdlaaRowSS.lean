/-
  Walks: slices of slices of rows: sizes, equality.
-/
import Derived.Test.YtacddgipcafdlaaStoAs
import Derived.Test.YtacddgipcafdlaaRowS
namespace Go.Proofs.Ytacddgipcafdlaa
open Go.RowKit Go.Lib

def rowsSum : List (List RowV) → Nat
  | [] => 0
  | t :: l => t.length + rowsSum l
theorem rowsSum_append : ∀ l m : List (List RowV), rowsSum (l ++ m) = rowsSum l + rowsSum m
  | [], m => by simp [rowsSum]
  | t :: l, m => by simp [rowsSum, rowsSum_append l m]; omega
theorem rowsSum_take {tts : List (List RowV)} {k : Nat} {t : List RowV} (h : tts[k]? = some t) : rowsSum (tts.take (k + 1)) = rowsSum (tts.take k) + t.length := by
  obtain ⟨hk, rfl⟩ := List.getElem?_eq_some_iff.1 h
  rw [List.take_succ_eq_append_getElem hk, rowsSum_append]
  simp [rowsSum]
theorem rowsSum_part (tts : List (List RowV)) (k : Nat) : rowsSum (tts.take k) ≤ rowsSum tts := by
  have h : rowsSum tts = rowsSum (tts.take k) + rowsSum (tts.drop k) := by rw [← rowsSum_append, List.take_append_drop]
  omega
theorem rowsSum_mem {tts : List (List RowV)} {k : Nat} {t : List RowV} (h : tts[k]? = some t) : t.length ≤ rowsSum tts := by
  have h1 := rowsSum_take h
  have h2 := rowsSum_part tts (k + 1)
  omega
theorem TabsA.at_ {w : World} {A : Option Addr} {tts : List (List RowV)} (h : TabsA w A tts) {i : Nat} (hi : i < tts.length) : ∃ b off t At ct, A = some ⟨b, off, none⟩ ∧ b < w.heap.size ∧ tts[i]? = some t ∧ w.cell? ⟨b, off + i, none⟩ = some (.slice At t.length ct) ∧ RowsA w At t := by
  obtain ⟨b, off, At, ct, h1, h2, h3, h4⟩ := h i _ (List.getElem?_eq_getElem hi)
  exact ⟨b, off, _, At, ct, h1, h2, List.getElem?_eq_getElem hi, h3, h4⟩

set_option maxRecDepth 100000 in
set_option maxHeartbeats 1000000 in
theorem szRowS_sum (A : Option Addr) (cap : Nat) (zs : List RowV) (left : Int) (w : World) (h0 : 0 ≤ left) (h1 : left ≤ 1048576) (hz : RowsA w A zs) (hn : zs.length ≤ maxLen) (hs : ∀ r ∈ zs, r.k.size ≤ maxLen ∧ r.t.size ≤ maxLen) :
    Calls Try.prog 61 #[.slice A zs.length cap, .int .i64 left] w fun e w' => ∃ v : Int, e = .returned (.int .i64 v) ∧ (v = -1 ∨ (0 ≤ v ∧ v + zs.length ≤ left)) ∧ Below w.heap.size w w' := by
  unfold maxLen at hn
  have HZ := Lib.hid hz
  have HS := Lib.hid hs
  clear hz hs
  by_cases h : left - zs.length < 0
  · go_enter Try.func61, Try.ntmps61
    go_wp2
    go_ret
    exact ⟨-1, rfl, .inl rfl, Below.refl _ _⟩
  · go_enter Try.func61, Try.ntmps61
    go_wp2
    go_loopw [1, 5] (fun lv i wr => ∃ (k : Nat) (v : Int), k ≤ zs.length ∧ i = .int .i64 k ∧ lv = .int .i64 v ∧ 0 ≤ v ∧ v + zs.length ≤ left ∧ Below w.heap.size w wr) (fun _ i _ => zs.length - (intOf i).toNat)
    case atStart => exact ⟨0, _, Nat.zero_le _, rfl, rfl, by omega, by omega, Below.refl _ _⟩
    case round =>
      obtain ⟨k, v, hk, rfl, rfl, hv0, hv1, hbr⟩ := hrel
      by_cases hlt : k < zs.length
      · obtain ⟨b, off, x, rfl, hb, hx, c0, c1, c2, c3⟩ := (HZ.out.below hbr).at_ hlt
        have hm := HS.out x (List.mem_of_getElem? hx)
        clear hx
        go_wp2_with fail
        refine (szRow_any x _ _ (by omega) (by omega) hm.1 hm.2).mono ?_
        rintro e w2 ⟨rfl, hb2⟩
        have B2 := Lib.hid (hbr.trans (hb2.mono hbr.size))
        clear hb2 hbr c0 c1 c2 c3
        generalize hleft : (if v - (x.k.size : Int) < 0 then (-1 : Int) else if v - (x.k.size : Int) - x.t.size < 0 then -1 else v - x.k.size - x.t.size) = u
        have hu : u = -1 ∨ (0 ≤ u ∧ u ≤ v) := by
          subst hleft
          split
          · exact .inl rfl
          · split
            · exact .inl rfl
            · exact .inr ⟨by omega, by omega⟩
        clear hleft
        rcases hu with rfl | ⟨hu0, hu1⟩
        · go_wp2
          go_ret
          exact ⟨-1, rfl, .inl rfl, B2.out⟩
        · go_wp2
          go_roundw
          case rel => exact ⟨k + 1, u, by omega, by go_num, rfl, hu0, by omega, B2.out⟩
          case measure => simp [intOf]; omega
      · go_wp2
        go_ret
        exact ⟨v, rfl, .inr ⟨hv0, hv1⟩, hbr⟩

set_option maxRecDepth 100000 in
set_option maxHeartbeats 1000000 in
theorem szRowSS_any (A : Option Addr) (cap : Nat) (tts : List (List RowV)) (left : Int) (w : World) (h0 : 0 ≤ left) (h1 : left ≤ 1048576) (hz : TabsA w A tts) (hn : tts.length ≤ maxLen) (hs : ∀ t ∈ tts, t.length ≤ maxLen ∧ ∀ r ∈ t, r.k.size ≤ maxLen ∧ r.t.size ≤ maxLen) :
    Calls Try.prog 15 #[.slice A tts.length cap, .int .i64 left] w fun e w' => ∃ v : Int, e = .returned (.int .i64 v) ∧ (v = -1 ∨ (0 ≤ v ∧ v + tts.length + rowsSum tts ≤ left)) ∧ Below w.heap.size w w' := by
  unfold maxLen at hn
  have HZ := Lib.hid hz
  have HS := Lib.hid hs
  clear hz hs
  by_cases h : left - tts.length < 0
  · go_enter Try.func15, Try.ntmps15
    go_wp2
    go_ret
    exact ⟨-1, rfl, .inl rfl, Below.refl _ _⟩
  · go_enter Try.func15, Try.ntmps15
    go_wp2
    go_loopw [1, 5] (fun lv i wr => ∃ (k : Nat) (v : Int), k ≤ tts.length ∧ i = .int .i64 k ∧ lv = .int .i64 v ∧ 0 ≤ v ∧ v + tts.length + rowsSum (tts.take k) ≤ left ∧ Below w.heap.size w wr) (fun _ i _ => tts.length - (intOf i).toNat)
    case atStart => exact ⟨0, _, Nat.zero_le _, rfl, rfl, by omega, by simp [rowsSum], Below.refl _ _⟩
    case round =>
      obtain ⟨k, v, hk, rfl, rfl, hv0, hv1, hbr⟩ := hrel
      by_cases hlt : k < tts.length
      · obtain ⟨b, off, t, At, ct, rfl, hb, ht, c0, hr⟩ := (HZ.out.below hbr).at_ hlt
        have hm := HS.out t (List.mem_of_getElem? ht)
        have hsum := rowsSum_take ht
        have HR := Lib.hid hr
        have hkz : (k : Int) < (tts.length : Int) := by omega
        have hkz0 : (0 : Int) ≤ (k : Int) := by omega
        clear ht hr
        go_wp2_with fail
        refine (szRowS_sum At ct t v wr hv0 (by omega) HR.out hm.1 hm.2).mono ?_
        rintro e w2 ⟨u, rfl, hu, hb2⟩
        have B2 := Lib.hid (hbr.trans (hb2.mono hbr.size))
        clear hb2 hbr c0
        rcases hu with rfl | ⟨hu0, hu1⟩
        · go_wp2
          go_ret
          exact ⟨-1, rfl, .inl rfl, B2.out⟩
        · have hdu : decide (u < 0) = false := decide_eq_false (by omega)
          go_wp2
          go_roundw
          case rel => exact ⟨k + 1, u, by omega, by go_num, rfl, hu0, by omega, B2.out⟩
          case measure => simp [intOf]; omega
      · obtain rfl : k = tts.length := by omega
        rw [List.take_length] at hv1
        go_wp2
        go_ret
        exact ⟨v, rfl, .inr ⟨hv0, hv1⟩, hbr⟩

set_option maxRecDepth 100000 in
set_option maxHeartbeats 1000000 in
theorem eqRowSS_same (A B : Option Addr) (cap cap' : Nat) (tts : List (List RowV)) (w : World) (hz : TabsA w A tts) (hz' : TabsA w B tts) (hl : tts.length ≤ maxLen) (hs : ∀ t ∈ tts, t.length ≤ maxLen) :
    Calls Try.prog 20 #[.slice A tts.length cap, .slice B tts.length cap'] w fun e w' => e = .returned (.bool true) ∧ Below w.heap.size w w' := by
  unfold maxLen at hl
  have HZ := Lib.hid hz
  have HZ' := Lib.hid hz'
  have HS := Lib.hid hs
  clear hz hz' hs
  go_enter Try.func20, Try.ntmps20
  go_wp2
  go_loopw [5] (fun i wr => ∃ k : Nat, k ≤ tts.length ∧ i = .int .i64 k ∧ Below w.heap.size w wr) (fun i _ => tts.length - (intOf i).toNat)
  case atStart => exact ⟨0, Nat.zero_le _, rfl, Below.refl _ _⟩
  case round =>
    obtain ⟨k, hk, rfl, hbr⟩ := hrel
    by_cases hlt : k < tts.length
    · obtain ⟨b, off, t, At, ct, rfl, hb, ht, c0, hr⟩ := (HZ.out.below hbr).at_ hlt
      obtain ⟨b', off', t', At', ct', rfl, hb', ht', c0', hr'⟩ := (HZ'.out.below hbr).at_ hlt
      obtain rfl : t = t' := by rw [ht] at ht'; injection ht'
      have hm := HS.out t (List.mem_of_getElem? ht)
      have HR := Lib.hid hr
      have HR' := Lib.hid hr'
      have BR := Lib.hid hbr
      have hkz : (k : Int) < (tts.length : Int) := by omega
      have hkz0 : (0 : Int) ≤ (k : Int) := by omega
      clear ht ht' hr hr' hbr
      go_upto_region 6 with fail
      refine wp_region_later (by kernel_rfl) (by kernel_rfl) ?_
      intro f hf1 hf2 hfc
      repeat (go_big_quiet_step (first | (go_at_call 65; exact calls_later hf1 hf2 (eqRowS_same At At' ct ct' t _ (HR.out.below (hf1.out _)) (HR'.out.below (hf1.out _)) hm))))
      refine wpQuiet_nil ?_
      rintro _ ⟨vv, rfl⟩
      have B2 := Lib.hid (BR.out.trans ((hf1.out vv).mono BR.out.size))
      clear hfc hf1 hf2 c0 c0'
      generalize f vv = w2 at *
      clear vv f
      go_wp2
      go_roundw
      case rel => exact ⟨k + 1, by omega, by go_num, B2.out⟩
      case measure => simp [intOf]; omega
    · go_wp2
      go_ret
      exact ⟨rfl, hbr⟩
end Go.Proofs.Ytacddgipcafdlaa
