/-
  Walks: slices of versions, and stores by value: marks.
-/
import Derived.Test.YtacddgipcafdlaaStoS
import Derived.Test.YtacddgipcafdlaaRowM
namespace Go.Proofs.Ytacddgipcafdlaa
open Go.RowKit Go.Lib

def verMk (c : Int) : VerV := ⟨rowMk c, c + 4, c + 5⟩

set_option maxRecDepth 100000 in
set_option maxHeartbeats 4000000 in
theorem markVerS_some (g cap base : Nat) (zs : List VerV) (k0 : Int) (w : World) (h : w.ownsRow base 74 6 (.slice (some ⟨g, 0, none⟩) zs.length cap) zs.length (flatOf verC zs)) (hk : 1 ≤ k0) (hk' : k0 ≤ 1000000000) (hl : zs.length ≤ 4194304) :
    Calls Try.prog 67 #[.slice (some ⟨g, 0, none⟩) zs.length cap, .int .i64 k0] w fun e w' => e = .returned (.int .i64 (k0 + 6 * zs.length)) ∧ w'.ownsRow base 74 6 (.slice (some ⟨g, 0, none⟩) zs.length cap) zs.length (flatOf verC (markE verMk 6 k0 zs.length)) ∧ w.grownBy w' (some g) := by
  have H := Lib.hid h
  clear h
  go_enter Try.func67, Try.ntmps67
  go_wp2
  go_loopw [1, 5] (fun kv i wr => ∃ j : Nat, j ≤ zs.length ∧ i = .int .i64 j ∧ kv = .int .i64 (k0 + 6 * (j : Int)) ∧ wr.ownsRow base 74 6 (.slice (some ⟨g, 0, none⟩) zs.length cap) zs.length (flatOf verC (markToE verMk 6 zs k0 j)) ∧ w.grownBy wr (some g)) (fun _ i _ => zs.length - (intOf i).toNat)
  case atStart => exact ⟨0, Nat.zero_le _, rfl, by simp, by rw [markToE_zero]; exact H.out, ⟨rfl, rfl, rfl, Nat.le_refl _, fun k hk _ => rfl⟩⟩
  case round =>
    obtain ⟨j, hj, rfl, rfl, hown, hgr⟩ := hrel
    have Hown := Lib.hid hown
    have Hgr := Lib.hid hgr
    clear hown hgr
    by_cases hlt : j < zs.length
    · have Hget := Lib.hid (markToE_get (mk := verMk) (d := 6) zs k0 j hlt)
      have Hset := Lib.hid (markToE_set (mk := verMk) (d := 6) zs k0 j hlt)
      have Hlen := Lib.hid (markToE_length (mk := verMk) (d := 6) zs k0 j hj)
      have hgl : g < wr.heap.size := (Hown.out.lt g rfl).2
      go_wp2_with fail
      refine (markText_any _ _ (by omega) (by omega)).mono ?_
      rintro e w0 ⟨rfl, hb0⟩
      have O0 := Lib.hid (ownsKeep Hown.out hb0)
      have G0 := Lib.hid (grownTrans Hgr.out (belowGrown hb0 (some g)))
      clear hb0
      have e0 : (w0 : World).cell? ⟨g, j * 6, none⟩ = some (.string zs[j].r.k) := by
        rw [O0.out.cellAt (j * 6) (by omega)]; exact flatOf_get verC_len _ j _ 0 Hget.out (by omega)
      have f0 := O0.out.frozenAt (j * 6)
      have s0 := O0.out.stored (j * 6) (.string (markT (k0 + 6 * (j : Int))))
      have P0 := Lib.hid s0.1
      have Q0 := Lib.hid (grownTrans G0.out s0.2)
      clear s0
      go_wp2_with fail
      refine (markText_any _ _ (by omega) (by omega)).mono ?_
      rintro e w1 ⟨rfl, hb1⟩
      have O1 := Lib.hid (ownsKeep P0.out hb1)
      have G1 := Lib.hid (grownTrans Q0.out (belowGrown hb1 (some g)))
      clear hb1 P0 Q0 e0 f0
      have e1 : (w1 : World).cell? ⟨g, j * 6 + 1, none⟩ = some (.string zs[j].r.t) := by
        rw [O1.out.cellAt (j * 6 + 1) (by omega)]; rw [List.getElem?_set_ne (by omega)]; exact flatOf_get verC_len _ j _ 1 Hget.out (by omega)
      have f1 := O1.out.frozenAt (j * 6 + 1)
      have e2 : (w1 : World).cell? ⟨g, j * 6 + 2, none⟩ = some (.int .i64 zs[j].r.f) := by
        rw [O1.out.cellAt (j * 6 + 2) (by omega)]; rw [List.getElem?_set_ne (by omega)]; exact flatOf_get verC_len _ j _ 2 Hget.out (by omega)
      have f2 := O1.out.frozenAt (j * 6 + 2)
      have e3 : (w1 : World).cell? ⟨g, j * 6 + 3, none⟩ = some (.int .i64 zs[j].r.e) := by
        rw [O1.out.cellAt (j * 6 + 3) (by omega)]; rw [List.getElem?_set_ne (by omega)]; exact flatOf_get verC_len _ j _ 3 Hget.out (by omega)
      have f3 := O1.out.frozenAt (j * 6 + 3)
      have e4 : (w1 : World).cell? ⟨g, j * 6 + 4, none⟩ = some (.int .i64 zs[j].i) := by
        rw [O1.out.cellAt (j * 6 + 4) (by omega)]; rw [List.getElem?_set_ne (by omega)]; exact flatOf_get verC_len _ j _ 4 Hget.out (by omega)
      have f4 := O1.out.frozenAt (j * 6 + 4)
      have e5 : (w1 : World).cell? ⟨g, j * 6 + 5, none⟩ = some (.int .i64 zs[j].o) := by
        rw [O1.out.cellAt (j * 6 + 5) (by omega)]; rw [List.getElem?_set_ne (by omega)]; exact flatOf_get verC_len _ j _ 5 Hget.out (by omega)
      have f5 := O1.out.frozenAt (j * 6 + 5)
      have s1 := O1.out.stored (j * 6 + 1) (.string (markT (k0 + 6 * (j : Int) + 1)))
      have P1 := Lib.hid s1.1
      have Q1 := Lib.hid (grownTrans G1.out s1.2)
      clear s1
      have s2 := P1.out.stored (j * 6 + 2) (.int .i64 (k0 + 6 * (j : Int) + 2))
      have P2 := Lib.hid s2.1
      have Q2 := Lib.hid (grownTrans Q1.out s2.2)
      clear s2
      have s3 := P2.out.stored (j * 6 + 3) (.int .i64 (k0 + 6 * (j : Int) + 3))
      have P3 := Lib.hid s3.1
      have Q3 := Lib.hid (grownTrans Q2.out s3.2)
      clear s3
      have s4 := P3.out.stored (j * 6 + 4) (.int .i64 (k0 + 6 * (j : Int) + 4))
      have P4 := Lib.hid s4.1
      have Q4 := Lib.hid (grownTrans Q3.out s4.2)
      clear s4
      have s5 := P4.out.stored (j * 6 + 5) (.int .i64 (k0 + 6 * (j : Int) + 5))
      have P5 := Lib.hid s5.1
      have Q5 := Lib.hid (grownTrans Q4.out s5.2)
      clear s5
      have hset : ((((((flatOf verC (markToE verMk 6 zs k0 j)).set (j * 6) (.string (markT (k0 + 6 * (j : Int))))).set (j * 6 + 1) (.string (markT (k0 + 6 * (j : Int) + 1)))).set (j * 6 + 2) (.int .i64 (k0 + 6 * (j : Int) + 2))).set (j * 6 + 3) (.int .i64 (k0 + 6 * (j : Int) + 3))).set (j * 6 + 4) (.int .i64 (k0 + 6 * (j : Int) + 4))).set (j * 6 + 5) (.int .i64 (k0 + 6 * (j : Int) + 5)) = flatOf verC (markToE verMk 6 zs k0 (j + 1)) := by
        have := flatOf_set verC_len (verMk (k0 + 6 * (j : Int))) (markToE verMk 6 zs k0 j) j (by rw [Hlen.out]; omega)
        rw [Hset.out] at this
        skip
        exact this
      have HS := Lib.hid (show (((((((((((w1 : World).setCell ⟨g, j * 6 + 1, none⟩ (.string (markT (k0 + 6 * (j : Int) + 1)))) : World).setCell ⟨g, j * 6 + 2, none⟩ (.int .i64 (k0 + 6 * (j : Int) + 2))) : World).setCell ⟨g, j * 6 + 3, none⟩ (.int .i64 (k0 + 6 * (j : Int) + 3))) : World).setCell ⟨g, j * 6 + 4, none⟩ (.int .i64 (k0 + 6 * (j : Int) + 4))) : World).setCell ⟨g, j * 6 + 5, none⟩ (.int .i64 (k0 + 6 * (j : Int) + 5))) : World).ownsRow base 74 6 (.slice (some ⟨g, 0, none⟩) zs.length cap) zs.length (flatOf verC (markToE verMk 6 zs k0 (j + 1))) from by rw [← hset]; exact P5.out)
      have HG := Lib.hid Q5.out
      clear hset
      go_wp2
      go_roundw
      case rel => exact ⟨j + 1, by omega, by go_num, by go_num, (by have := HS.out; simp only [Int.add_assoc, Nat.add_assoc, Int.reduceAdd, Nat.reduceAdd] at this ⊢; exact this), (by have := HG.out; simp only [Int.add_assoc, Nat.add_assoc, Int.reduceAdd, Nat.reduceAdd] at this ⊢; exact this)⟩
      case measure => simp [intOf]; omega
    · obtain rfl : j = zs.length := by omega
      go_wp2
      go_ret
      have := Hown.out
      rw [markToE_all] at this
      exact ⟨rfl, this, Hgr.out⟩

set_option maxHeartbeats 1000000 in
theorem markVerS_nil (k0 : Int) (w : World) : Calls Try.prog 67 #[.slice none 0 0, .int .i64 k0] w fun e w' => e = .returned (.int .i64 k0) ∧ w' = w := by
  go_enter Try.func67, Try.ntmps67
  go_wp2
  go_loopw [1, 5] (fun kv i wr => i = .int .i64 0 ∧ kv = .int .i64 k0 ∧ wr = w) (fun _ i _ => 0)
  case atStart => exact ⟨rfl, rfl, rfl⟩
  case round =>
    obtain ⟨rfl, rfl, rfl⟩ := hrel
    go_wp2
    go_ret
    exact ⟨rfl, rfl⟩

theorem markVerS_any (base : Nat) (v : Value) (zs : List VerV) (k0 : Int) (w : World) (h : w.ownsRow base 74 6 v zs.length (flatOf verC zs)) (hk : 1 ≤ k0) (hk' : k0 ≤ 1000000000) (hl : zs.length ≤ 4194304) :
    Calls Try.prog 67 #[v, .int .i64 k0] w fun e w' => e = .returned (.int .i64 (k0 + 6 * zs.length)) ∧ w'.ownsRow base 74 6 v zs.length (flatOf verC (markE verMk 6 k0 zs.length)) ∧ w.grownBy w' v.ownBlock := by
  rcases h.2 with ⟨hv, h0⟩ | ⟨g, c, cur, hv, _⟩
  · obtain rfl : zs = [] := List.length_eq_zero_iff.1 h0
    subst hv
    exact (markVerS_nil k0 w).mono fun e w' ⟨h1, h2⟩ => by subst h2; exact ⟨by simpa using h1, h, ⟨rfl, rfl, rfl, Nat.le_refl _, fun k hk _ => rfl⟩⟩
  · subst hv
    exact markVerS_some g c base zs k0 w h hk hk' hl

set_option maxRecDepth 100000 in
set_option maxHeartbeats 4000000 in
theorem heldVerS_any (A : Option Addr) (n cap : Nat) (k0 : Int) (w : World) (hz : VersA w A (markE verMk 6 k0 n)) (hk : 1 ≤ k0) (hk' : k0 ≤ 1000000000) (hl : n ≤ 4194304) :
    Calls Try.prog 68 #[.slice A n cap, .int .i64 k0] w fun e w' => e = .returned (.int .i64 (k0 + 6 * n)) ∧ Below w.heap.size w w' := by
  have HZ := Lib.hid hz
  clear hz
  go_enter Try.func68, Try.ntmps68
  go_wp2
  go_loopw [1, 5] (fun kv i wr => ∃ j : Nat, j ≤ n ∧ i = .int .i64 j ∧ kv = .int .i64 (k0 + 6 * (j : Int)) ∧ Below w.heap.size w wr) (fun _ i _ => n - (intOf i).toNat)
  case atStart => exact ⟨0, Nat.zero_le _, rfl, by simp, Below.refl _ _⟩
  case round =>
    obtain ⟨j, hj, rfl, rfl, hbr⟩ := hrel
    by_cases hlt : j < n
    · obtain ⟨b, off, x, rfl, hb, hx, c0, c1, c2, c3, c4, c5⟩ := (HZ.out.below hbr).at_ (show j < (markE verMk 6 k0 n).length by rw [markE_length]; exact hlt)
      rw [markE_get k0 n j hlt] at hx
      injection hx with hx
      subst hx
      have d0 : wr.cell? ⟨b, off + j * 6, none⟩ = some (.string (markT (k0 + 6 * (j : Int)))) := c0
      have d1 : wr.cell? ⟨b, off + j * 6 + 1, none⟩ = some (.string (markT (k0 + 6 * (j : Int) + 1))) := c1
      have d2 : wr.cell? ⟨b, off + j * 6 + 2, none⟩ = some (.int .i64 (k0 + 6 * (j : Int) + 2)) := c2
      have d3 : wr.cell? ⟨b, off + j * 6 + 3, none⟩ = some (.int .i64 (k0 + 6 * (j : Int) + 3)) := c3
      have d4 : wr.cell? ⟨b, off + j * 6 + 4, none⟩ = some (.int .i64 (k0 + 6 * (j : Int) + 4)) := c4
      have d5 : wr.cell? ⟨b, off + j * 6 + 5, none⟩ = some (.int .i64 (k0 + 6 * (j : Int) + 5)) := c5
      have B0 := Lib.hid hbr
      clear hbr c0 c1 c2 c3 c4 c5
      go_wp2_with fail
      refine wp_region_later (by kernel_rfl) (by kernel_rfl) ?_
      intro f hf1 hf2 hfc
      repeat (go_big_quiet_step ((go_at_call 83; exact calls_later hf1 hf2 (markText_any _ _ (by omega) (by omega)))))
      refine wpQuiet_nil ?_
      rintro _ ⟨v, rfl⟩
      replace d1 := cellBelow (hf1.out v) hb d1
      replace d2 := cellBelow (hf1.out v) hb d2
      replace d3 := cellBelow (hf1.out v) hb d3
      replace d4 := cellBelow (hf1.out v) hb d4
      replace d5 := cellBelow (hf1.out v) hb d5
      have B1 := Lib.hid (B0.out.trans ((hf1.out v).mono B0.out.size))
      replace hb := Nat.lt_of_lt_of_le hb (hf1.out v).size
      clear d0
      clear hfc B0 hf1 hf2
      generalize f v = w0 at *
      clear v f
      go_wp2_with fail
      refine wp_region_later (by kernel_rfl) (by kernel_rfl) ?_
      intro f hf1 hf2 hfc
      repeat (go_big_quiet_step ((go_at_call 83; exact calls_later hf1 hf2 (markText_any _ _ (by omega) (by omega)))))
      refine wpQuiet_nil ?_
      rintro _ ⟨v, rfl⟩
      replace d2 := cellBelow (hf1.out v) hb d2
      replace d3 := cellBelow (hf1.out v) hb d3
      replace d4 := cellBelow (hf1.out v) hb d4
      replace d5 := cellBelow (hf1.out v) hb d5
      have B2 := Lib.hid (B1.out.trans ((hf1.out v).mono B1.out.size))
      replace hb := Nat.lt_of_lt_of_le hb (hf1.out v).size
      clear d1
      clear hfc B1 hf1 hf2
      generalize f v = w1 at *
      clear v f
      go_wp2
      go_roundw
      case rel => exact ⟨j + 1, by omega, by go_num, by go_num, B2.out⟩
      case measure => simp [intOf]; omega
    · obtain rfl : j = n := by omega
      go_wp2
      go_ret
      exact ⟨rfl, hbr⟩

set_option maxHeartbeats 1000000 in
theorem markStore_any (base : Nat) (A : Option Addr) (cap : Nat) (now : Int) (zs : List VerV) (k0 : Int) (w : World) (h : w.ownsRow base 74 6 (.slice A zs.length cap) zs.length (flatOf verC zs)) (hk : 1 ≤ k0) (hk' : k0 ≤ 1000000000) (hl : zs.length ≤ 4194304) :
    Calls Try.prog 22 #[.agg #[.int .i64 now, .slice A zs.length cap], .int .i64 k0] w fun e w' => e = .returned (.int .i64 (k0 + 6 * zs.length)) ∧ w'.ownsRow base 74 6 (.slice A zs.length cap) zs.length (flatOf verC (markE verMk 6 k0 zs.length)) ∧ w.grownBy w' (Value.slice A zs.length cap).ownBlock := by
  have H := Lib.hid h
  clear h
  go_enter Try.func22, Try.ntmps22
  go_wp2_with fail
  generalize hW : w.alloc _ = W0
  have hB : Below w.heap.size w W0 := by rw [← hW]; exact (Below.refl _ _).alloc (Nat.le_refl _) _
  have H0 := Lib.hid (ownsKeep H.out hB)
  have G0 := Lib.hid (belowGrown hB (Value.slice A zs.length cap).ownBlock)
  clear hW hB H
  refine (markVerS_any base _ zs k0 _ H0.out hk hk' hl).mono ?_
  rintro e w1 ⟨rfl, ho, hg⟩
  have H1 := Lib.hid ho
  have G1 := Lib.hid (grownTrans G0.out hg)
  clear ho hg H0 G0
  go_wp2
  go_ret
  exact ⟨rfl, H1.out, G1.out⟩

set_option maxHeartbeats 1000000 in
theorem heldStore_any (A : Option Addr) (n cap : Nat) (now : Int) (k0 : Int) (w : World) (hz : VersA w A (markE verMk 6 k0 n)) (hk : 1 ≤ k0) (hk' : k0 ≤ 1000000000) (hl : n ≤ 4194304) :
    Calls Try.prog 23 #[.agg #[.int .i64 now, .slice A n cap], .int .i64 k0] w fun e w' => e = .returned (.int .i64 (k0 + 6 * n)) ∧ Below w.heap.size w w' := by
  have HZ := Lib.hid hz
  clear hz
  go_enter Try.func23, Try.ntmps23
  go_wp2_with fail
  generalize hW : w.alloc _ = W0
  have hB : Below w.heap.size w W0 := by rw [← hW]; exact (Below.refl _ _).alloc (Nat.le_refl _) _
  clear hW
  refine (heldVerS_any A n cap k0 _ (HZ.out.below hB) hk hk' hl).mono ?_
  rintro e w1 ⟨rfl, hb⟩
  have B1 := Lib.hid (hB.trans (hb.mono hB.size))
  clear hb hB
  go_wp2
  go_ret
  exact ⟨rfl, B1.out⟩
end Go.Proofs.Ytacddgipcafdlaa
