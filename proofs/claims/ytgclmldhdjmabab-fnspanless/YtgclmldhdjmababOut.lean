/-
  Walks: the spans of all points that a set lacks.
-/
import Derived.Test.YtgclmldhdjmababCanon
import Derived.Test.YtgclmldhdjmababCommonN
namespace Go.Proofs.Ytgclmldhdjmabab
open Go.RowKit Go.Shelf

attribute [local go_sem] Oper.semAt_some

def outTo (zs : List (Int × Int)) : Nat → List (Int × Int) × Int
  | 0 => ([], 0)
  | k + 1 => ((outTo zs k).1 ++ (if (outTo zs k).2 < (zs.getD k (0, 0)).1 then [((outTo zs k).2, (zs.getD k (0, 0)).1)] else []), (zs.getD k (0, 0)).2)
def outL (zs : List (Int × Int)) : List (Int × Int) := (outTo zs zs.length).1 ++ (if (outTo zs zs.length).2 ≤ 99 then [((outTo zs zs.length).2, 100)] else [])
theorem outTo_pre (zs : List (Int × Int)) (k : Nat) : ∀ d, (outTo zs k).1 <+: (outTo zs (k + d)).1
  | 0 => List.prefix_refl _
  | d + 1 => (outTo_pre zs k d).trans ⟨_, rfl⟩
theorem outTo_all (zs : List (Int × Int)) (k : Nat) (hk : k ≤ zs.length) : (outTo zs k).1 <+: outL zs := by
  have := outTo_pre zs k (zs.length - k)
  rw [show k + (zs.length - k) = zs.length from by omega] at this
  exact this.trans ⟨_, rfl⟩
theorem outTo_len (zs : List (Int × Int)) : ∀ k, (outTo zs k).1.length ≤ k
  | 0 => by simp [outTo]
  | k + 1 => by
    have := outTo_len zs k
    simp only [outTo, List.length_append]
    split <;> simp <;> omega
theorem outL_len (zs : List (Int × Int)) : (outL zs).length ≤ zs.length + 1 := by
  have := outTo_len zs zs.length
  simp only [outL, List.length_append]
  split <;> simp <;> omega

theorem outTo_room (zs : List (Int × Int)) (k : Nat) (hk : k < zs.length) (h : (outTo zs k).2 < (zs.getD k (0, 0)).1) : (outTo zs k).1.length < (outL zs).length := by
  have h1 := (outTo_all zs (k + 1) hk).length_le
  simp only [outTo, if_pos h, List.length_append, List.length_cons, List.length_nil] at h1
  omega
theorem outL_room (zs : List (Int × Int)) (h : (outTo zs zs.length).2 ≤ 99) : (outTo zs zs.length).1.length < (outL zs).length := by
  simp [outL, if_pos h]

set_option maxRecDepth 100000 in
set_option maxHeartbeats 4000000 in
theorem out1_all (n : Nat) (hn : 1 ≤ n) (Bs n₀ cap : Nat) (A : Option Addr) (zs : List (Int × Int)) (hl : zs.length ≤ 4194304) (w : World) (hBs : Bs < w.heap.size) (hn₀ : n₀ ≤ w.heap.size)
    (hc : w.cell? ⟨Bs, 0, none⟩ = some (.slice A zs.length cap)) (hz : Spans w A zs) (hb : ∀ b off, A = some ⟨b, off, none⟩ → b < n₀) :
    SeqAll n Try.prog 121 #[.pointer (some ⟨Bs, 0, none⟩)] encS n₀ (outL zs) (outL zs).length w := by
  intro l J Φ0 W hW hJ hF hU hY h0
  have cS := (hW.cell (p := ⟨Bs, 0, none⟩) hBs).trans hc
  have hzW := hz.below hW
  have HZ := Lib.hid hzW
  have hnW : n₀ ≤ W.heap.size := Nat.le_trans hn₀ hW.size
  have HJ := Lib.hid hJ
  have HF := Lib.hid hF
  have HY := Lib.hid hY
  clear hJ hF hU hY hz hzW hc hW hBs hn₀
  refine callsIn_of_wp Try.func121 rfl trivial ?_ rfl
  simp only [Try.ntmps121, List.size_toArray, List.length_cons, List.length_nil, Nat.reduceAdd, Nat.reduceSub, Array.replicate_succ, Array.replicate_zero, List.push_toArray, List.append_toArray, List.nil_append, List.cons_append]
  gi_wp2
  gi_loopw [3, 8] (fun f i wr => ∃ k : Nat, k ≤ zs.length ∧ i = .int .i64 k ∧ f = .int .i64 (outTo zs k).2 ∧ (∃ Φ, J (outTo zs k).1 Φ wr) ∧ Below n₀ W wr)
    (fun _ i _ => zs.length - (intOf i).toNat)
  case atStart => exact ⟨0, Nat.zero_le _, rfl, by simp [outTo], ⟨Φ0, by simpa [outTo] using h0⟩, Below.refl _ _⟩
  case round =>
    obtain ⟨k, hk, rfl, rfl, ⟨Φ, hj⟩, hnx⟩ := hrel
    by_cases hlt : k < zs.length
    · obtain ⟨b, off, rfl, hcells⟩ := HZ.out (by omega)
      have hbn := hb b off rfl
      obtain ⟨c0, c1⟩ := hcells k hlt
      have hst := Lib.hid (show outTo zs (k + 1) = ((outTo zs k).1 ++ (if (outTo zs k).2 < (zs.getD k (0, 0)).1 then [((outTo zs k).2, (zs.getD k (0, 0)).1)] else []), (zs.getD k (0, 0)).2) from rfl)
      have hroom := Lib.hid (outTo_room zs k hlt)
      obtain ⟨x, hx⟩ : ∃ x, (zs.getD k (0, 0)).1 = x := ⟨_, rfl⟩
      obtain ⟨y, hy⟩ : ∃ x, (zs.getD k (0, 0)).2 = x := ⟨_, rfl⟩
      obtain ⟨o, ho⟩ : ∃ x, (outTo zs k).1 = x := ⟨_, rfl⟩
      obtain ⟨f, hf⟩ : ∃ x, (outTo zs k).2 = x := ⟨_, rfl⟩
      rw [hx] at c0 hst hroom
      rw [hy] at c1 hst
      rw [ho] at hj hst hroom
      rw [hf] at hst hroom ⊢
      have c0r : wr.cell? ⟨b, off + k * 2, none⟩ = some (.int .i64 x) := cell_below hnx hbn c0
      have c1r : wr.cell? ⟨b, off + k * 2 + 1, none⟩ = some (.int .i64 y) := cell_below hnx hbn c1
      have hsz := hnx.size
      have hfr : ¬ Φ wr.heap.size := fun h => by
        obtain ⟨_, o, ho, _⟩ := HF.out _ _ _ hj _ h
        rw [Array.getElem?_eq_none (Nat.le_refl _)] at ho
        cases ho
      have hj1 := (HJ.out Φ).alloc (.cells #[.int .i64 x, .int .i64 y] 24) hj
      have bx := Boxed2.new wr (x, y)
      have hF1 := HF.out _ _ _ hj1
      clear hcells c0 c1 hx hy ho hf
      by_cases hfx : f < x
      · have d1 : decide (f < x) = true := by simpa using hfx
        obtain ⟨fn, tmps, assign, body, hy, hR⟩ := HY.out _ Φ (f, x) _ hj1 (hroom.out hfx)
        have Hfx := Lib.hid hfx
        clear hfx
        simp only [encS] at hy
        gi_wp2
        refine hR.mono ?_
        rintro e W3 ⟨rfl, Φ3, hj3, hf3⟩
        have hB3 : Below n₀ W W3 := (hnx.alloc (by omega) _).trans (hf3.below (fun j hj => (hF1 j hj).1) (by simp; omega))
        have b3 : Boxed2 W3 wr.heap.size (x, y) := (hf3.same _ bx.lt hfr).trans bx
        have e1 := b3.cell1
        clear hR hy hf3 hF1 hj1 hj bx b3 hfr
        gi_wp2
        go_roundw
        case rel =>
          refine ⟨k + 1, by omega, by go_num, ?_, ⟨Φ3, ?_⟩, hB3⟩
          · rw [hst.out]
          · rw [hst.out, if_pos Hfx.out]; exact hj3
        case measure => simp [intOf]; omega
      · have d1 : decide (f < x) = false := decide_eq_false hfx
        have Hfx := Lib.hid hfx
        have e1 := bx.cell1
        have hB3 : Below n₀ W (wr.alloc (.cells #[.int .i64 x, .int .i64 y] 24)) := hnx.alloc (by omega) _
        clear hfx
        gi_wp2
        refine ⟨(fun f e => nomatch e), ?_⟩
        gi_wp2
        go_roundw
        case rel =>
          refine ⟨k + 1, by omega, by go_num, ?_, ⟨Φ, ?_⟩, hB3⟩
          · rw [hst.out]
          · rw [hst.out, if_neg (by have := Hfx.out; omega), List.append_nil]; exact hj1
        case measure => simp [intOf]; omega
    · obtain rfl : k = zs.length := by omega
      have hroom := Lib.hid (outL_room zs)
      have hst := Lib.hid (show outL zs = (outTo zs zs.length).1 ++ (if (outTo zs zs.length).2 ≤ 99 then [((outTo zs zs.length).2, 100)] else []) from rfl)
      obtain ⟨o, ho⟩ : ∃ x, (outTo zs zs.length).1 = x := ⟨_, rfl⟩
      obtain ⟨f, hf⟩ : ∃ x, (outTo zs zs.length).2 = x := ⟨_, rfl⟩
      rw [ho] at hj hst hroom
      rw [hf] at hst hroom ⊢
      clear ho hf
      by_cases hfx : f ≤ 99
      · have d1 : decide (f ≤ 99) = true := by simpa using hfx
        obtain ⟨fn, tmps, assign, body, hy, hR⟩ := HY.out _ Φ (f, 100) _ hj (hroom.out hfx)
        have Hfx := Lib.hid hfx
        clear hfx
        simp only [encS] at hy
        gi_wp2
        refine hR.mono ?_
        rintro e W3 ⟨rfl, Φ3, hj3, hf3⟩
        clear hR hy hf3
        gi_wp2
        go_end0
        refine ⟨⟨_, rfl⟩, Φ3, ?_⟩
        rw [hst.out, if_pos Hfx.out]
        exact hj3
      · have d1 : decide (f ≤ 99) = false := decide_eq_false hfx
        have Hfx := Lib.hid hfx
        clear hfx
        gi_wp2
        go_end0
        refine ⟨⟨_, rfl⟩, Φ, ?_⟩
        rw [hst.out, if_neg (by have := Hfx.out; omega), List.append_nil]
        exact hj
end Go.Proofs.Ytgclmldhdjmabab
