/-
  Plain: both of two moved tables is both of them, moved.
-/
import Derived.Test.YtphinkcfmdnpfaaCombF
import Derived.Test.YtphinkcfmdnpfaaDmlM
namespace Go.Proofs.Ytphinkcfmdnpfaa
open Go.RowKit

theorem held_span {zs : List RowV} (h : relOk zs = true) {k t : ByteArray} {c : Int} (hh : held zs k t c) : 0 ≤ c ∧ c < 100 := by
  obtain ⟨x, hx, _, _, h1, h2⟩ := hh
  obtain ⟨g1, g2, g3⟩ := (tight_rel h).1 x hx
  omega
theorem held_move {zs : List RowV} {n : Int} (h : relOk zs = true) {k t : ByteArray} {c : Int} : held (moveL zs n) k t c ↔ (0 ≤ c ∧ c < 100) ∧ held zs k t (c - n) := by
  by_cases hc : 0 ≤ c ∧ c < 100
  · rw [← mem_at, ← mem_at]
    unfold atR
    rw [at_move hc.1 hc.2 zs]
    exact ⟨fun x => ⟨hc, x⟩, fun x => x.2⟩
  · exact ⟨fun x => absurd (held_span (move_ok n h) x) hc, fun x => absurd x.1 hc⟩
theorem held_both {a b : List RowV} (ha : relOk a = true) (hb : relOk b = true) {k t : ByteArray} {c : Int} : held (lessAll a (lessAll a b)) k t c ↔ held a k t c ∧ ∃ u, held b k u c := by
  have hr := ((relOk_iff a).1 ha).2
  have hy := rel_len hb
  have hl := relAll_span (lessAll_rel b a hy hr)
  rw [held_lessAll (lessAll a b) a hl hr]
  constructor
  · rintro ⟨h1, h2⟩
    refine ⟨h1, Classical.byContradiction fun hn => h2 t ?_⟩
    rw [held_lessAll b a hy hr]
    exact ⟨h1, fun u hu => hn ⟨u, hu⟩⟩
  · rintro ⟨h1, u, hu⟩
    refine ⟨h1, fun v hv => ?_⟩
    rw [held_lessAll b a hy hr] at hv
    exact hv.2 u hu
theorem slice_facts {a b xs : List RowV} {n : Int} (h : relBothS a b = (xs, true)) (h1 : -99 ≤ n) (h2 : n ≤ 99) : relBothS (moveS a n) (moveS b n) = (moveS xs n, true) := by
  obtain ⟨ha, hb, e, hX⟩ := comb_true h
  have ma : moveS a n = moveL a n := if_pos ⟨ha, h1, h2⟩
  have mb : moveS b n = moveL b n := if_pos ⟨hb, h1, h2⟩
  have hx : relOk xs = true := by rw [e]; exact hX
  have mx : moveS xs n = moveL xs n := if_pos ⟨hx, h1, h2⟩
  have oa := move_ok n ha
  have ob := move_ok n hb
  have ox := move_ok n hx
  rw [ma, mb, mx]
  have hr := ((relOk_iff _).1 oa).2
  have hl := relAll_span (lessAll_rel (moveL b n) (moveL a n) (rel_len ob) hr)
  obtain ⟨s1, t1⟩ := tight_all (lessAll_rel _ _ hl hr)
  obtain ⟨s2, t2⟩ := tight_all ((relOk_iff _).1 ox).2
  have he : lessAll (moveL a n) (lessAll (moveL a n) (moveL b n)) = moveL xs n := by
    refine known _ _ s1 s2 t1 t2 fun k t c => ?_
    rw [held_both oa ob, held_move ha, held_move hx, e, held_both ha hb]
    constructor
    · rintro ⟨⟨hc, g1⟩, u, hu⟩
      exact ⟨hc, g1, u, ((held_move hb).1 hu).2⟩
    · rintro ⟨hc, g1, u, hu⟩
      exact ⟨⟨hc, g1⟩, u, (held_move hb).2 ⟨hc, hu⟩⟩
  unfold relBothS combS
  rw [if_pos oa, if_pos ob]
  show fullL (lessAll (moveL a n) (lessAll (moveL a n) (moveL b n))) = _
  rw [he]
  unfold fullL
  rw [if_pos ox]
end Go.Proofs.Ytphinkcfmdnpfaa
