/-
  Walks: what was known of a key at a point, stamp by stamp: the program's.
-/
import Derived.Test.YtkalanjgjeijbaaTrcB
import Derived.Test.YtkalanjgjeijbaaTrcC
import Derived.Test.YtkalanjgjeijbaaStoreO
namespace Go.Proofs.Ytkalanjgjeijbaa
open Go.Shelf Go.RowKit Go.Lib Go.Sort

set_option maxRecDepth 100000 in
set_option maxHeartbeats 4000000 in
theorem tells_any (x : VerV) (n : Int) (key : ByteArray) (c : Int) (w : World) :
    Calls Try.prog 31 #[.agg #[.string x.r.k, .string x.r.t, .int .i64 x.r.f, .int .i64 x.r.e, .int .i64 x.i, .int .i64 x.o], .int .i64 n, .string key, .int .i64 c] w fun e w' => e = .returned (.bool (tellB n key c x)) ∧ Below w.heap.size w w' := by
  unfold tellB
  obtain ⟨lb, hlb⟩ : ∃ lb, liveB n x = lb := ⟨_, rfl⟩
  have HLB := Lib.hid hlb
  obtain ⟨kb, hkb⟩ : ∃ kb, (x.r.k.toList == key.toList) = kb := ⟨_, rfl⟩
  obtain ⟨hb', hhb⟩ : ∃ hb', hasB x.r.f x.r.e c = hb' := ⟨_, rfl⟩
  have HH := Lib.hid hhb
  rw [hlb, hkb, hhb]
  clear hlb hhb
  go_enter Try.func31, Try.ntmps31
  go_wp2_with fail
  generalize hW : w.alloc _ = W0
  have v0 : W0.cell? ⟨w.heap.size, 0, none⟩ = some (.string x.r.k) := by rw [← hW]; simp [go_sem]
  have v2 : W0.cell? ⟨w.heap.size, 2, none⟩ = some (.int .i64 x.r.f) := by rw [← hW]; simp [go_sem]
  have v3 : W0.cell? ⟨w.heap.size, 3, none⟩ = some (.int .i64 x.r.e) := by rw [← hW]; simp [go_sem]
  have lW : w.heap.size < W0.heap.size := by rw [← hW]; simp
  have B0 := Lib.hid (show Below w.heap.size w W0 from by rw [← hW]; exact (Below.refl _ _).alloc (Nat.le_refl _) _)
  clear hW
  refine (verLive_any x n W0).mono ?_
  rw [HLB.out]
  rintro e w1 ⟨rfl, hb⟩
  replace v0 := cellBelow hb lW v0
  replace v2 := cellBelow hb lW v2
  replace v3 := cellBelow hb lW v3
  have B1 := Lib.hid (B0.out.trans (hb.mono B0.out.size))
  clear hb B0 lW
  cases lb
  · go_wp2
    go_ret
    exact ⟨rfl, B1.out⟩
  · cases kb
    · go_wp2
      go_ret
      exact ⟨rfl, B1.out⟩
    · go_wp2_with fail
      refine (has_val x.r.f x.r.e c w1 hb' HH.out).mono ?_
      rintro e w2 ⟨rfl, hb⟩
      have B2 := Lib.hid (B1.out.trans (hb.mono B1.out.size))
      clear hb
      go_wp2
      go_ret
      exact ⟨by simp, B2.out⟩

theorem newsTr {w : World} {g : Nat} {a b : Value} (h0 : w.cell? ⟨g, 0, none⟩ = some a) (h1 : w.cell? ⟨g, 1, none⟩ = some b) : ∀ j u, [a, b][j]? = some u → w.cell? ((⟨g, 0, none⟩ : Addr).add j) = some u := by
  intro j u hu
  match j, hu with
  | 0, hu => simp at hu; subst hu; simpa [Addr.add] using h0
  | 1, hu => simp at hu; subst hu; simpa [Addr.add] using h1
theorem gT_trans {a b c : World} {r : Option Nat} (h : a.grownBy b r) (k : b.grownBy c r) : a.grownBy c r :=
  ⟨k.os.trans h.os, k.tape.trans h.tape, k.output.trans h.output, Nat.le_trans h.size k.size, fun j hj hn => (k.block j (Nat.lt_of_lt_of_le hj h.size) hn).trans (h.block j hj hn)⟩
theorem gT_below {a b : World} {r : Option Nat} (h : Below a.heap.size a b) : a.grownBy b r := ⟨h.os, h.tape, h.output, h.size, fun k hk _ => h.block k hk⟩

set_option maxRecDepth 100000 in
set_option maxHeartbeats 8000000 in
theorem noted_any (base : Nat) (A : Option Addr) (cap : Nat) (l : List TraV) (x : TraV) (w : World) (ho : w.ownsRow base 40 2 (.slice A l.length cap) l.length (flatOf traC l)) (hbw : base ≤ w.heap.size) (hl : l.length ≤ 1048576) :
    Calls Try.prog 32 #[.slice A l.length cap, .agg #[.int .i64 x.k, .string x.t]] w fun e w' => ∃ (A' : Option Addr) (c' : Nat), e = .returned (.slice A' (noteL l x).length c') ∧ w'.ownsRow base 40 2 (.slice A' (noteL l x).length c') (noteL l x).length (flatOf traC (noteL l x)) ∧ w.grownBy w' (Value.slice A l.length cap).ownBlock := by
  obtain ⟨i0, hi, hz0, hz1, hz2⟩ := info_parts Try.infoR40
  have Hi := Lib.hid hi
  have Hz0 := Lib.hid hz0
  have Hz1 := Lib.hid hz1
  have Hz2 := Lib.hid hz2
  clear hi hz0 hz1 hz2
  have HO := Lib.hid ho
  obtain ⟨ta, hta⟩ : ∃ ta, traAt l x.k = ta := ⟨_, rfl⟩
  have HT := Lib.hid hta
  obtain ⟨nl, hnl⟩ : ∃ nl, noteL l x = nl := ⟨_, rfl⟩
  have HN := Lib.hid hnl
  rw [hnl]
  clear ho hta hnl
  go_enter Try.func32, Try.ntmps32
  go_upto_region 1 with fail
  generalize hW : w.alloc _ = W0
  have b0 : W0.cell? ⟨w.heap.size, 0, none⟩ = some (.int .i64 x.k) := by rw [← hW]; simp [go_sem]
  have b1 : W0.cell? ⟨w.heap.size, 1, none⟩ = some (.string x.t) := by rw [← hW]; simp [go_sem]
  have lW : w.heap.size < W0.heap.size := by rw [← hW]; simp
  have hB0 : Below w.heap.size w W0 := by rw [← hW]; exact (Below.refl _ _).alloc (Nat.le_refl _) _
  have O0 := Lib.hid (ownsKeep HO.out hB0)
  have B0 := Lib.hid hB0
  obtain ⟨G, hG⟩ : ∃ G, w.heap.size = G := ⟨_, rfl⟩
  have HG := Lib.hid hG
  rw [hG] at b0 b1 lW ⊢
  clear hW hB0 HO hG
  have CT := Lib.hid (show ∀ W, Below W0.heap.size W0 W → Calls Try.prog 15 #[.slice A l.length cap, .int .i64 x.k] W fun e w' => e = .returned (.string ta) ∧ Below W.heap.size W w' from fun W hW => by
    have := TraceAt_any A cap l x.k W ((show TrasA W0 A l from el_of_owns traC_len O0.out).below hW) (by omega)
    rwa [HT.out] at this)
  cases hq : (ta.toList == x.t.toList)
  · have hne : nl = l ++ [x] := by rw [← HN.out, noteL, HT.out, if_neg (by rw [hq]; simp)]
    have HNE := Lib.hid hne
    refine wp_region_later (by kernel_rfl) (by kernel_rfl) ?_
    intro f hf1 hf2 hfc
    repeat (go_big_quiet_step (first | (go_at_call 15; exact calls_later hf1 hf2 (CT.out _ (hf1.out _)))))
    refine wpQuiet_nil ?_
    rintro _ ⟨vv, rfl⟩
    have hb := hf1.out vv
    have g0 := cellBelow hb lW b0
    have g1 := cellBelow hb lW b1
    have O1 := Lib.hid (ownsKeep O0.out hb)
    have G1 := Lib.hid (gT_below (r := (Value.slice A l.length cap).ownBlock) (B0.out.trans (hb.mono B0.out.size)))
    have hbw1 : base ≤ (f vv).heap.size := by have := B0.out.size; have := hb.size; omega
    clear hfc hb hf1 hf2 b0 b1 lW hne
    generalize f vv = w1 at *
    clear vv f
    go_wp2_with (at_builtin; refine wpList_append_own _ rfl _ _ 37 rfl base 40 i0 _ 2 24 Try.underlying37 Hi.out Hz0.out Hz1.out Hz2.out rfl (by decide) _ l.length (flatOf traC l) rfl (O1.out.alloc _) ⟨w1.heap.size, 0, none⟩ 1 1 [.int .i64 x.k, .string x.t] rfl rfl (newsTr (by simp) (by simp)) (by simp [Value.oneCell']) (by unfold maxLen; omega) (by omega) (by simp; omega) ?_; intro v' w3 hown' hgrow hnil; obtain ⟨A6, c6, rfl⟩ := owns_formN hown'; have O3 := Lib.hid hown'; have G3 := Lib.hid (gT_trans G1.out (gT_trans (World.grownBy_alloc w1 _ _) hgrow)); clear hown' hgrow hnil)
    go_ret
    refine ⟨A6, c6, by rw [HNE.out]; simp, ?_, G3.out⟩
    rw [HNE.out, List.length_append, flatOf_append]
    exact O3.out
  · have hne : nl = l := by rw [← HN.out, noteL, HT.out, if_pos hq]
    subst hne
    refine wp_region_later (by kernel_rfl) (by kernel_rfl) ?_
    intro f hf1 hf2 hfc
    repeat (go_big_quiet_step (first | (go_at_call 15; exact calls_later hf1 hf2 (CT.out _ (hf1.out _)))))
    refine wpQuiet_nil ?_
    rintro _ ⟨vv, rfl⟩
    have hb := hf1.out vv
    have O1 := Lib.hid (ownsKeep O0.out hb)
    have G1 := Lib.hid (gT_below (r := (Value.slice A nl.length cap).ownBlock) (B0.out.trans (hb.mono B0.out.size)))
    clear hfc hb hf1 hf2 b0 b1 lW
    generalize f vv = w1 at *
    clear vv f
    go_wp2
    go_ret
    exact ⟨A, cap, rfl, O1.out, G1.out⟩
end Go.Proofs.Ytkalanjgjeijbaa
