/-
  Walks: the model's store without versions that nobody sees any more.
-/
import Derived.Test.YtacddgipcafdlaaPruC
import Derived.Test.YtacddgipcafdlaaStoSt
import Derived.Test.YtacddgipcafdlaaStoreM
namespace Go.Proofs.Ytacddgipcafdlaa
open Go.Shelf Go.RowKit Go.Lib Go.Sort

set_option maxRecDepth 100000 in
set_option maxHeartbeats 4000000 in
theorem l11Keeps_any (x : VerV) (m : Int) (w : World) :
    Calls Try.prog 74 #[.agg #[.string x.r.k, .string x.r.t, .int .i64 x.r.f, .int .i64 x.r.e, .int .i64 x.i, .int .i64 x.o], .int .i64 m] w fun e w' => e = .returned (.bool (keepB m x)) ∧ Below w.heap.size w w' := by
  go_enter Try.func74, Try.ntmps74
  go_wp2
  go_ret
  exact ⟨rfl, (Below.refl _ _).alloc (Nat.le_refl _) _⟩

set_option maxRecDepth 100000 in
set_option maxHeartbeats 8000000 in
theorem sStorePrune_any (A : Option Addr) (cap : Nat) (zs : List VerV) (now st : Int) (w : World) (hz : VersA w A zs) (_hA : A = none ∨ ∃ b off, A = some ⟨b, off, none⟩) (_hN : A = none → cap = 0) (hl : zs.length ≤ 1048576) (hs : ShortV zs) :
    Calls Try.prog 28 #[.agg #[.int .i64 now, .slice A zs.length cap], .int .i64 st] w (GetsSp w (pruneP zs now st)) := by
  obtain ⟨i0, hi, hz0, hz1, hz2⟩ := info_parts Try.infoV74
  have Hi := Lib.hid hi
  have Hz0 := Lib.hid hz0
  have Hz1 := Lib.hid hz1
  have Hz2 := Lib.hid hz2
  clear hi hz0 hz1 hz2
  have HS := Lib.hid hs
  have HZ := Lib.hid hz
  clear hs hz
  obtain ⟨sb, hsb⟩ : ∃ sb, storeB zs now = sb := ⟨_, rfl⟩
  have HSB := Lib.hid hsb
  clear hsb
  obtain ⟨p, hp⟩ : ∃ p, pruneP zs now st = p := ⟨_, rfl⟩
  have HPP := Lib.hid hp
  rw [hp]
  clear hp
  go_enter Try.func28, Try.ntmps28
  go_wp2_with fail
  generalize hW : (w.alloc _).alloc _ = Wa
  have s0 : Wa.cell? ⟨w.heap.size, 0, none⟩ = some (.int .i64 now) := by rw [← hW]; simp [go_sem]
  have s1 : Wa.cell? ⟨w.heap.size, 1, none⟩ = some (.slice A zs.length cap) := by rw [← hW]; simp [go_sem]
  have r0 : Wa.cell? ⟨w.heap.size + 1, 0, none⟩ = some (.int .i64 0) := by rw [← hW]; simp [go_sem]
  have r1 : Wa.cell? ⟨w.heap.size + 1, 1, none⟩ = some (.slice none 0 0) := by rw [← hW]; simp [go_sem]
  have rf : ∀ q, Wa.frozen? ⟨w.heap.size + 1, q, none⟩ = false := fun q => by rw [← hW]; simp [go_sem]
  have la : Wa.heap.size = w.heap.size + 2 := by rw [← hW]; simp
  have B0 := Lib.hid (show Below w.heap.size w Wa from by rw [← hW]; exact ((Below.refl _ _).alloc (Nat.le_refl _) _).alloc (by simp) _)
  clear hW
  have ZA := Lib.hid (HZ.out.below B0.out)
  have bx0 : BoxN Wa (w.heap.size + 1 + 1) now [] (Wa.alloc (Obj.cells #[Value.int IntKind.i64 now, Value.slice none 0 0] 26)) := by
    rw [show w.heap.size + 1 + 1 = Wa.heap.size from by omega]
    exact ⟨none, 0, by simp [go_sem], by simp [go_sem], fun q => by simp [go_sem], World.ownsRow_nil _ _ _ _, (Below.refl _ _).alloc (Nat.le_refl _) _⟩
  obtain ⟨G, hG⟩ : ∃ G, w.heap.size = G := ⟨_, rfl⟩
  have HG := Lib.hid hG
  rw [hG] at s0 s1 r0 r1 rf la bx0
  rw [hG]
  obtain ⟨N, hN⟩ : ∃ N, G + 1 + 1 = N := ⟨_, rfl⟩
  rw [hN] at bx0 ⊢
  have hNa : Wa.heap.size ≤ N := by omega
  have lN : G + 1 < N := by omega
  have hGw := HG.out
  have hG1 : w.heap.size ≤ G + 1 := by omega
  have hNw0 : w.heap.size ≤ N := by omega
  have laN : Wa.heap.size = N := by omega
  clear hG hN la
  have S0 := Lib.hid s0
  have S1 := Lib.hid s1
  have R0 := Lib.hid r0
  have R1 := Lib.hid r1
  have RF := Lib.hid rf
  clear s0 s1 r0 r1 rf
  generalize hW : Wa.alloc _ = W0 at *
  have hbW := bx0.choose_spec.choose_spec.2.2.2.2
  refine (l5Ok_any A cap zs now W0 (ZA.out.below hbW) hl HS.out).mono ?_
  rw [HSB.out]
  rintro e w1 ⟨rfl, hb⟩
  obtain ⟨Ab, cb, n0, n1, nf, hown, _⟩ := bx0
  have lNW : N < W0.heap.size := World.block_lt_of_cell? _ _ n0
  have bx := Lib.hid (show BoxN Wa N now [] w1 from ⟨Ab, cb, cellBelow hb lNW n0, cellBelow hb lNW n1, fun q => ((bcell hb).2 _ _ lNW).trans (nf q), ownsKeep hown hb, hbW.trans (hb.mono hbW.size)⟩)
  have B1 := Lib.hid (hbW.trans (hb.mono hbW.size))
  clear hbW hb n0 n1 nf hown lNW hW
  have g0 := cellBelow B1.out (by omega) S0.out
  have g1 := cellBelow B1.out (by omega) S1.out
  have t0 := cellBelow B1.out (by omega) R0.out
  have t1 := cellBelow B1.out (by omega) R1.out
  have tf : ∀ q, w1.frozen? ⟨G + 1, q, none⟩ = false := fun q => ((bcell B1.out).2 _ _ (by omega)).trans (RF.out q)
  cases sb
  · have e : p = (0, []) := HPP.out.symm.trans (if_neg (by rw [HSB.out]; simp))
    subst e
    go_wp2
    refine bodyPost_ret (v := .agg #[.int .i64 0, .slice none 0 0]) (by simp [results, Try.results28, go_sem, t0, t1]) rfl ?_
    refine ⟨none, 0, rfl, World.ownsRow_nil _ _ _ _, ?_⟩
    have BB := B0.out.trans (B1.out.mono B0.out.size)
    repeat (first | exact BB | refine Below.setCell ?_ hG1 _)
  · have e : p = (now, keepL (min st now) zs) := HPP.out.symm.trans (if_pos HSB.out)
    obtain ⟨m, hm⟩ : ∃ m, min st now = m := ⟨_, rfl⟩
    have HM := Lib.hid hm
    rw [hm] at e
    subst e
    clear HPP hm
    go_wp2
    clear g0 g1 t0 t1 tf
    go_loopw [6] (fun i wr => ∃ k : Nat, k ≤ zs.length ∧ i = .int .i64 k ∧ BoxN Wa N now (keepL m (zs.take k)) wr) (fun i _ => zs.length - (intOf i).toNat)
    case atStart => exact ⟨0, Nat.zero_le _, rfl, bx.out⟩
    case round =>
      obtain ⟨k, hk, rfl, A5, c5, n0, n1, nf, hown, hbr⟩ := hrel
      have Hown := Lib.hid hown
      clear hown bx
      have g0 := cellBelow hbr (by omega) S0.out
      have g1 := cellBelow hbr (by omega) S1.out
      have hNw : N < wr.heap.size := World.block_lt_of_cell? _ _ n0
      have hyl : (keepL m (zs.take k)).length ≤ 1048576 := by have := keepL_len m (zs.take k); rw [List.length_take] at this; omega
      by_cases hlz : k < zs.length
      · obtain ⟨b, off, x, e1, hb, hx, c0, c1, c2, c3, c4, c5'⟩ := (ZA.out.below hbr).at_ hlz
        have HT := Lib.hid (keepL_take (m := m) hx)
        obtain ⟨ys, hys⟩ : ∃ ys, keepL m (zs.take k) = ys := ⟨_, rfl⟩
        rw [hys] at Hown HT n1 hyl
        subst e1
        have hkz : (k : Int) < (zs.length : Int) := by omega
        have hkz0 : (0 : Int) ≤ (k : Int) := by omega
        clear hx hys
        obtain ⟨kb, hkb⟩ : ∃ kb, keepB m x = kb := ⟨_, rfl⟩
        have HKB := Lib.hid hkb
        rw [hkb] at HT
        clear hkb
        have CK := Lib.hid (show ∀ W, Calls Try.prog 74 #[.agg #[.string x.r.k, .string x.r.t, .int .i64 x.r.f, .int .i64 x.r.e, .int .i64 x.i, .int .i64 x.o], .int .i64 m] W fun e w' => e = .returned (.bool kb) ∧ Below W.heap.size W w' from fun W => by have := l11Keeps_any x m W; rwa [HKB.out] at this)
        have CC := Lib.hid (show ∀ W, Calls Try.prog 72 #[.agg #[.int .i64 now, .slice (some ⟨b, off, none⟩) zs.length cap], .int .i64 st] W fun e w' => e = .returned (.int .i64 m) ∧ Below W.heap.size W w' from fun W => by have := l5Clamp_any (some ⟨b, off, none⟩) zs.length cap now st W; rwa [HM.out] at this)
        have lGw : G < wr.heap.size := by omega
        go_upto_region 7 with fail
        refine wp_region_later (by kernel_rfl) (by kernel_rfl) ?_
        intro f hf1 hf2 hfc
        repeat (go_big_quiet_step (first
          | (go_at_call 72; exact calls_later hf1 hf2 (CC.out _))
          | (go_at_call 74; exact calls_later hf1 hf2 (CK.out _))))
        refine wpQuiet_nil ?_
        rintro _ ⟨vv, rfl⟩
        have hb2 := hf1.out vv
        clear hfc
        replace c0 := cellBelow hb2 hb c0
        replace c1 := cellBelow hb2 hb c1
        replace c2 := cellBelow hb2 hb c2
        replace c3 := cellBelow hb2 hb c3
        replace c4 := cellBelow hb2 hb c4
        replace c5' := cellBelow hb2 hb c5'
        replace g0 := cellBelow hb2 (by omega) g0
        replace g1 := cellBelow hb2 (by omega) g1
        replace n0 := cellBelow hb2 hNw n0
        replace n1 := cellBelow hb2 hNw n1
        replace nf : ∀ q, (f vv).frozen? ⟨N, q, none⟩ = false := fun q => ((bcell hb2).2 _ _ hNw).trans (nf q)
        have O2 := Lib.hid (ownsKeep Hown.out hb2)
        have hB1 := hbr.trans (hb2.mono hbr.size)
        clear hb2 hbr Hown hNw hf1 hf2 lGw
        generalize f vv = w2 at *
        clear vv f
        cases kb
        · rw [if_neg (by simp), List.append_nil] at HT
          have BB := Lib.hid hB1
          clear hB1
          go_wp2
          go_roundw
          case rel => exact ⟨k + 1, by omega, by go_num, by rw [HT.out]; exact ⟨A5, c5, n0, n1, nf, O2.out, BB.out⟩⟩
          case measure => simp [intOf]; omega
        · rw [if_pos rfl] at HT
          obtain ⟨uu, huu⟩ : ∃ uu, Value.slice A5 ys.length c5 = uu := ⟨_, rfl⟩
          rw [huu] at n1 O2
          clear huu
          go_upto_region 8 with fail
          have agN : uu.ownBlock ≠ some N := fun e => by have := (O2.out.lt N e).1; omega
          have hN2 : N < w2.heap.size := World.block_lt_of_cell? _ _ n0
          have hs2 := hB1.size
          go_region_law (refine step_append_lies _ (by rfl) _ _ _ (by rfl) (N + 1) 74 i0 _ 6 64 Try.underlying24 Hi.out Hz0.out Hz1.out Hz2.out rfl (by omega) uu ys.length (flatOf verC ys) (by rfl) ((O2.out.alloc _).drew) ⟨w2.heap.size, 0, none⟩ 1 1 [.string x.r.k, .string x.r.t, .int .i64 x.r.f, .int .i64 x.r.e, .int .i64 x.i, .int .i64 x.o] (by rfl) (by rfl) (World.news_of_block (cs := #[.string x.r.k, .string x.r.t, .int .i64 x.r.f, .int .i64 x.r.e, .int .i64 x.i, .int .i64 x.o]) (t := 74) (fr := (0, 0)) (heap_alloc_new w2 _)) (by simp [Value.oneCell']) (by omega) (by unfold maxLen; omega) (by omega) (by simp; omega) (w2.heap.size + 1) (by simp) ?_; intro gg cap1 w3 hown' hgrow hat hlt3; have hgw := (show (w2.drew.alloc (.cells #[.string x.r.k, .string x.r.t, .int .i64 x.r.f, .int .i64 x.r.e, .int .i64 x.i, .int .i64 x.o] 74)).grownBy w3 uu.ownBlock from hgrow); have qf := keptF (W := w2.drew) hN2 hgw (Ne.symm agN) nf; have q0 := keptC (W := w2.drew) hN2 hgw (Ne.symm agN) n0; have q1 := keptC (W := w2.drew) hN2 hgw (Ne.symm agN) n1)
          all_goals
            have O3 := Lib.hid hown'
            have B3 := Lib.hid (((hB1.drew).alloc hs2 _).grown hgw (by simp; omega) (fun i e => by have := (O2.out.lt i e).1; omega))
            have BN := Lib.hid (BoxN.more (y := x) hNa q0 qf (by rw [q1]; rfl) O3.out B3.out)
            clear hown' hgrow hgw hat O3 B3 q0 q1 qf
            generalize w3.setCell ⟨N, 1, none⟩ _ = Wz at *
            go_wp2
            go_roundw
            case rel => exact ⟨k + 1, by omega, by go_num, by rw [HT.out]; exact BN.out⟩
            case measure => simp [intOf]; omega
      · obtain rfl : k = zs.length := by omega
        rw [List.take_length] at Hown n1 hyl
        have t0 := cellBelow hbr (by omega) R0.out
        have t1 := cellBelow hbr (by omega) R1.out
        have tf : ∀ q, wr.frozen? ⟨G + 1, q, none⟩ = false := fun q => ((bcell hbr).2 _ _ (by omega)).trans (RF.out q)
        have BB := Lib.hid (B0.out.trans (hbr.mono B0.out.size))
        clear hbr
        go_wp2
        refine bodyPost_ret (v := .agg #[.int .i64 now, .slice A5 (keepL m zs).length c5]) (by simp [results, Try.results28, go_sem, t0, t1]) rfl ?_
        refine ⟨A5, c5, rfl, ?_, ?_⟩
        · exact ownsBase (base := N + 1) (owns_set_farV (owns_set_farV Hown.out (by omega)) (by omega)) (by omega)
        · repeat (first | exact BB.out | refine Below.setCell ?_ hG1 _)
end Go.Proofs.Ytacddgipcafdlaa
