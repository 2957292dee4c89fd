/-
  Walks: what is drawn of a code: lists of spans.
-/
import Derived.Test.YtgclmldhdjmabaaDrawB
import Derived.Test.YtgclmldhdjmabaaAdd
namespace Go.Proofs.Ytgclmldhdjmabaa
open Go.RowKit

theorem grown_new {w a b : World} {R g : Nat} (h : w.grownBy a (some R)) (k : a.grownBy b (some g)) (hg : w.heap.size ≤ g) : w.grownBy b (some R) :=
  ⟨k.os.trans h.os, k.tape.trans h.tape, k.output.trans h.output, Nat.le_trans h.size k.size, fun j hj hne => (k.block j (Nat.lt_of_lt_of_le hj h.size) (fun e => by injection e with e; omega)).trans (h.block j hj hne)⟩
theorem rd_grown {a b : World} {R g : Nat} {zs : List Int} {p : Int} (h : Rd a R zs p) (k : a.grownBy b (some g)) (hg : R < g) : Rd b R zs p := by
  have hR := h.lt
  obtain ⟨A, cap, h0, h1, h2, h3, h4, h5⟩ := h
  refine ⟨A, cap, grown_cell k (by omega) h0, grown_cell k (by omega) h1, (World.frozen?_of_block (a := ⟨R, 1, none⟩) (k.block R hR (fun e => by injection e with e; omega))).trans h2, h3, h4, fun hn => ?_⟩
  obtain ⟨b, off, e, hlt, hc⟩ := h5 hn
  exact ⟨b, off, e, hlt, fun i hi => grown_cell k (by omega) (hc i hi)⟩

def DrawnList (w : World) (R : Nat) (bs : List Int) (p c : Int) (n : Nat) (e : Ending) (w' : World) : Prop :=
  ∃ zs g cap, e = .returned (.slice (some ⟨g, 0, none⟩) zs.length cap) ∧ zs.length ≤ n ∧ w'.ownsRow w.heap.size 32 2 (.slice (some ⟨g, 0, none⟩) zs.length cap) zs.length (flat zs) ∧
    ∃ p', p ≤ p' ∧ p' ≤ p + c ∧ Rd w' R bs p' ∧ w.grownBy w' (some R)

/-- Between two rounds. -/
def RelS (w : World) (R : Nat) (bs : List Int) (p : Int) (m : Nat) (v : Value) (wr : World) : Prop :=
  ∃ zs p', zs.length + m ≤ 6 ∧ wr.ownsRow w.heap.size 32 2 v zs.length (flat zs) ∧ v ≠ .slice none 0 0 ∧ p ≤ p' ∧ p' + 3 * m ≤ p + 19 ∧ Rd wr R bs p' ∧ w.grownBy wr (some R)

set_option maxHeartbeats 2000000 in
theorem l20Spans_any (R : Nat) (bs : List Int) (p : Int) (w : World) (h : Rd w R bs p) (hp0 : 0 ≤ p) (hp1 : p ≤ 700000) :
    Calls Try.prog 114 #[.pointer (some ⟨R, 0, none⟩)] w (DrawnList w R bs p 19 6) := by
  obtain ⟨i0, hi, hz0, hz1, hz2⟩ := info_parts Try.info32
  have Hi := Lib.hid hi
  have Hz0 := Lib.hid hz0
  have Hz1 := Lib.hid hz1
  have Hz2 := Lib.hid hz2
  clear hi hz0 hz1 hz2
  have hR := h.lt
  go_enter Try.func114, Try.ntmps114
  go_wp2_with fail
  refine (pick_any R bs p _ _ (rd_alloc h _) hp0 (by omega) (by omega) (by omega)).mono ?_
  rintro e w1 ⟨v, rfl, v0, v1, hrd, hgr⟩
  obtain ⟨m, rfl⟩ := Int.eq_ofNat_of_zero_le v0
  have hm : m ≤ 6 := by omega
  have ho0 : (w.alloc (Obj.cells #[] 32)).ownsRow w.heap.size 32 2 (.slice (some ⟨w.heap.size, 0, none⟩) 0 0) 0 (flat []) := by
    have := World.ownsRow_lit (base := w.heap.size) (e := 32) (size := 2) w #[] 0 (Nat.le_refl _) (by simp [maxLen]) (by simp)
    simpa [flat] using this
  have ho1 := Lib.hid (ho0.kept hgr (.inr (by simp [Value.ownBlock]; omega)))
  have HG := Lib.hid (grown_trans (grown_alloc (grown_refl w (some R)) _) hgr)
  have HR := Lib.hid hrd
  clear ho0 hgr hrd h
  go_wp2
  go_loopw [3, 4] (fun v i wr => ∃ m : Nat, m ≤ 6 ∧ i = .int .i64 m ∧ RelS w R bs p m v wr) (fun _ i _ => (intOf i).toNat)
  case atStart => exact ⟨m, hm, rfl, [], p + 1, by simpa using hm, ho1.out, by simp, by omega, by omega, HR.out, HG.out⟩
  case round =>
    obtain ⟨j, hj, rfl, zs, p', hzl, hown, hnn, hpa, hpb, hrd, hgr⟩ := hrel
    obtain ⟨g, c, rfl, hg1, hg2⟩ := owns_form hown hnn
    have Hown := Lib.hid hown
    clear hown hnn ho1 HG HR
    by_cases hj0 : 0 < j
    · go_wp2_with fail
      refine (l20Span_any R bs p' _ hrd (by omega) (by omega)).mono ?_
      rintro e w2 ⟨a, b, rfl, _, p2, hp2a, hp2b, hrd2, hgr2⟩
      have Hown2 := Lib.hid (Hown.out.kept hgr2 (.inr (by simp [Value.ownBlock]; omega)))
      have hgr3 := grown_trans hgr hgr2
      have hg3 := hgr2.size
      have hs3 := hgr3.size
      clear hgr hgr2 hrd Hown
      go_wp2_with (at_builtin; refine wpList_append_own _ rfl _ _ 35 rfl w.heap.size 32 i0 _ 2 16 Try.underlying35 Hi.out Hz0.out Hz1.out Hz2.out rfl (by decide) _ zs.length (flat zs) rfl (Hown2.out.alloc _) ⟨w2.heap.size, 0, none⟩ 1 1 [.int .i64 a, .int .i64 b] rfl rfl (news_two (by simp) (by simp)) (by simp [Value.oneCell']) (by unfold maxLen; omega) (by omega) (by simp; omega) ?_; intro v' w3 hown' hgrow hnil)
      have hgrow' : w2.grownBy w3 (some g) := grown_trans (grown_alloc (grown_refl w2 (some g)) _) hgrow
      have k7 := Lib.hid (owns_snoc (f := a) (t := b) hown' rfl)
      have k8 := Lib.hid (show v' ≠ .slice none 0 0 from fun h => by have := (hnil.1 h).2; omega)
      have HG := Lib.hid (grown_new hgr3 hgrow' hg1)
      have HR := Lib.hid (rd_grown hrd2 hgrow' (by omega))
      clear hgrow hgrow' hnil hown' hgr3 hrd2 Hown2
      go_wp2
      go_roundw
      case rel => exact ⟨j - 1, by omega, by go_num, zs ++ [(a, b)], p2, by simp; omega, k7.out, k8.out, by omega, by omega, HR.out, HG.out⟩
      case measure => simp [intOf]; omega
    · go_wp2
      go_ret
      exact ⟨zs, g, c, rfl, by omega, Hown.out, p', by omega, by omega, hrd, hgr⟩

/-- Between two rounds of l20Set. -/
def RelT (w : World) (R : Nat) (bs : List Int) (p : Int) (k : Nat) (v : Value) (wr : World) : Prop :=
  ∃ zs, zs.length + 1 ≤ 2 ^ k ∧ wr.ownsRow w.heap.size 32 2 v zs.length (flat zs) ∧ v ≠ .slice none 0 0 ∧ Rd wr R bs p ∧ w.grownBy wr (some R)

theorem pow_step {k : Nat} (h : k < 6) : 2 ^ (k + 1) ≤ 64 := by
  have := Nat.pow_le_pow_right (show 0 < 2 by omega) (show k + 1 ≤ 6 by omega)
  simpa using this

set_option maxHeartbeats 2000000 in
theorem l20Set_any (R : Nat) (bs : List Int) (p : Int) (w : World) (h : Rd w R bs p) (hp0 : 0 ≤ p) (hp1 : p ≤ 600000) :
    Calls Try.prog 153 #[.pointer (some ⟨R, 0, none⟩)] w (DrawnList w R bs p 19 63) := by
  have hR := h.lt
  go_enter Try.func153, Try.ntmps153
  go_wp2_with fail
  refine (l20Spans_any R bs p _ (rd_alloc h _) hp0 (by omega)).mono ?_
  rintro e w1 ⟨ls, g, c, rfl, hll, hol, p', hpa, hpb, hrd, hgr⟩
  have ho0 : (w.alloc (Obj.cells #[] 32)).ownsRow w.heap.size 32 2 (.slice (some ⟨w.heap.size, 0, none⟩) 0 0) 0 (flat []) := by
    have := World.ownsRow_lit (base := w.heap.size) (e := 32) (size := 2) w #[] 0 (Nat.le_refl _) (by simp [maxLen]) (by simp)
    simpa [flat] using this
  have ho1 := Lib.hid (ho0.kept hgr (.inr (by simp [Value.ownBlock]; omega)))
  have HG := Lib.hid (grown_trans (grown_alloc (grown_refl w (some R)) _) hgr)
  have HR := Lib.hid hrd
  have HL := Lib.hid (spans_of_owns hol rfl)
  clear ho0 hgr hrd h hol
  go_wp2
  go_loopw [3, 5] (fun v i wr => ∃ k : Nat, k ≤ ls.length ∧ i = .int .i64 k ∧ RelT w R bs p' k v wr ∧ Below w1.heap.size w1 wr) (fun _ i _ => ls.length - (intOf i).toNat)
  case atStart => exact ⟨0, Nat.zero_le _, rfl, ⟨[], by simp, ho1.out, by simp, HR.out, HG.out⟩, Below.refl _ _⟩
  case round =>
    obtain ⟨k, hk, rfl, ⟨zs, hzl, hown, hnn, hrd, hgr⟩, hbr⟩ := hrel
    obtain ⟨g', c', rfl, hg1, hg2⟩ := owns_form hown hnn
    have Hown := Lib.hid hown
    clear hown hnn ho1 HG HR
    by_cases hlt : k < ls.length
    · have hpw := pow_step (show k < 6 by omega)
      have hpk : 2 ^ (k + 1) = 2 * 2 ^ k := by rw [Nat.pow_succ]; omega
      obtain ⟨b0, off, e0, hcells⟩ := HL.out (by omega)
      obtain ⟨rfl, rfl⟩ : g = b0 ∧ off = 0 := by injection e0 with e0; injection e0 with e1 e2; exact ⟨e1, e2.symm⟩
      obtain ⟨c0, c1⟩ := hcells k hlt
      generalize (ls.getD k (0, 0)).1 = f at c0
      generalize (ls.getD k (0, 0)).2 = t at c1
      have c0r : wr.cell? ⟨g, k * 2, none⟩ = some (.int .i64 f) := by simpa using cell_below hbr (World.block_lt_of_cell? _ _ c0) c0
      have c1r : wr.cell? ⟨g, k * 2 + 1, none⟩ = some (.int .i64 t) := by simpa using cell_below hbr (World.block_lt_of_cell? _ _ c1) c1
      have Hpk := Lib.hid hpk
      have hzl' : 2 * zs.length + 1 + 1 ≤ 2 ^ (k + 1) := by omega
      have hz64 : zs.length ≤ 64 := by omega
      have Hzl := Lib.hid hzl'
      clear hcells c0 c1 hpk hpw hzl hzl' e0
      go_wp2_with fail
      refine (l1Add_any _ _ zs f t _ (spans_of_owns Hown.out rfl) (by omega)).mono ?_
      rintro e w2 ⟨g2, c2, rfl, ho2, hb2⟩
      have ho2' := Lib.hid (owns_base ho2 hgr.size)
      have hal := addL_len zs (f, t)
      generalize addL zs (f, t) = zs2 at *
      have HG := Lib.hid (grown_trans hgr (grown_of_below hb2))
      have HR := Lib.hid (hrd.kept hb2)
      have HB := Lib.hid (hbr.trans (hb2.mono hbr.size))
      clear hgr hrd hb2 ho2 Hown
      go_wp2
      go_roundw
      case rel => exact ⟨k + 1, by omega, by go_num, ⟨zs2, by have := Hzl.out; omega, ho2'.out, by simp, HR.out, HG.out⟩, HB.out⟩
      case measure => simp [intOf]; omega
    · go_wp2
      go_ret
      obtain rfl : k = ls.length := by omega
      have hp6 : 2 ^ ls.length ≤ 64 := by
        have := Nat.pow_le_pow_right (show 0 < 2 by omega) hll
        simpa using this
      exact ⟨zs, g', c', rfl, by omega, Hown.out, p', by omega, by omega, hrd, hgr⟩

set_option maxHeartbeats 2000000 in
theorem l20AnySet_any (R : Nat) (bs : List Int) (p : Int) (w : World) (h : Rd w R bs p) (hp0 : 0 ≤ p) (hp1 : p ≤ 500000) :
    Calls Try.prog 144 #[.pointer (some ⟨R, 0, none⟩)] w (DrawnList w R bs p 30 64) := by
  obtain ⟨i0, hi, hz0, hz1, hz2⟩ := info_parts Try.info32
  have Hi := Lib.hid hi
  have Hz0 := Lib.hid hz0
  have Hz1 := Lib.hid hz1
  have Hz2 := Lib.hid hz2
  clear hi hz0 hz1 hz2
  have hR := h.lt
  go_enter Try.func144, Try.ntmps144
  go_wp2_with fail
  refine (l20Set_any R bs p _ h hp0 (by omega)).mono ?_
  rintro e w1 ⟨zs, g, c, rfl, hll, hol, p', hpa, hpb, hrd, hgr⟩
  have hg1 := (hol.lt g rfl)
  have Hol := Lib.hid hol
  clear hol h
  by_cases hn : 0 < zs.length
  · have hd : decide ((0 : Int) < (zs.length : Int)) = true := by simp; omega
    have hi' : (0 : Int) < (zs.length : Int) := by omega
    go_wp2_with fail
    refine (pick_any R bs p' _ _ hrd (by omega) (by omega) (by omega) (by omega)).mono ?_
    rintro e w2 ⟨v, rfl, v0, v1, hrd2, hgr2⟩
    have Hol2 := Lib.hid (Hol.out.kept hgr2 (.inr (by simp [Value.ownBlock]; omega)))
    have hgr3 := grown_trans hgr hgr2
    clear hgr hgr2 hrd Hol
    by_cases hv : v = 0
    · subst hv
      go_wp2_with fail
      refine (l20AnySpan_any R bs (p' + 1) _ hrd2 (by omega) (by omega)).mono ?_
      rintro e w3 ⟨a, b, rfl, _, p3, hp3a, hp3b, hrd3, hgr4⟩
      have Hol3 := Lib.hid (Hol2.out.kept hgr4 (.inr (by simp [Value.ownBlock]; omega)))
      have hgr5 := grown_trans hgr3 hgr4
      have hs5 := hgr5.size
      clear hgr3 hgr4 hrd2 Hol2
      go_wp2_with (at_builtin; refine wpList_append_own _ rfl _ _ 35 rfl w.heap.size 32 i0 _ 2 16 Try.underlying35 Hi.out Hz0.out Hz1.out Hz2.out rfl (by decide) _ zs.length (flat zs) rfl (Hol3.out.alloc _) ⟨w3.heap.size, 0, none⟩ 1 1 [.int .i64 a, .int .i64 b] rfl rfl (news_two (by simp) (by simp)) (by simp [Value.oneCell']) (by unfold maxLen; omega) (by omega) (by simp; omega) ?_; intro v' w4 hown' hgrow hnil)
      have hgrow' : w3.grownBy w4 (some g) := grown_trans (grown_alloc (grown_refl w3 (some g)) _) hgrow
      have hnn : v' ≠ .slice none 0 0 := fun h => by have := (hnil.1 h).2; omega
      have k7 := owns_snoc (f := a) (t := b) hown' rfl
      obtain ⟨g', c', rfl, hga, hgb⟩ := owns_form k7 hnn
      have K7 := Lib.hid k7
      have HG := Lib.hid (grown_new hgr5 hgrow' hg1.1)
      have HR := Lib.hid (rd_grown hrd3 hgrow' (by omega))
      clear hgrow hgrow' hnil hown' hgr5 hrd3 Hol3 k7 hnn
      go_wp2
      go_ret
      exact ⟨zs ++ [(a, b)], g', c', rfl, by simp; omega, K7.out, p3, by omega, by omega, HR.out, HG.out⟩
    · have hvb : (v == 0) = false := by simpa using hv
      clear hv
      go_wp2
      go_ret
      exact ⟨zs, g, c, rfl, by omega, Hol2.out, p' + 1, by omega, by omega, hrd2, hgr3⟩
  · have hd : decide ((0 : Int) < (zs.length : Int)) = false := decide_eq_false (by omega)
    have hd' : decide (0 < zs.length) = false := decide_eq_false (by omega)
    have Hn := Lib.hid hn
    clear hn
    go_wp2
    go_ret
    exact ⟨zs, g, c, rfl, by omega, Hol.out, p', by omega, by omega, hrd, hgr⟩
end Go.Proofs.Ytgclmldhdjmabaa
