/-
  Walks: a store with another table at the next stamp: the program's side.
-/
import Derived.Test.YtacddgipcafdlaaStoCp
import Derived.Test.YtacddgipcafdlaaStoDg
namespace Go.Proofs.Ytacddgipcafdlaa
open Go.Shelf Go.RowKit Go.Lib Go.Sort

/-- What a store becomes with another table: its stamp, its versions, and whether it went. -/
def nextL (zs : List VerV) (now : Int) (t : List RowV) : Int × List VerV × Bool := if relOk t = true ∧ ¬ now = 30 ∧ (setL zs now t).length ≤ 120 then (now + 1, setL zs now t, true) else (0, [], false)
/-- A store by value in new memory, and a truth. -/
def GetsSB (w : World) (p : Int × List VerV × Bool) (e : Ending) (w' : World) : Prop :=
  ∃ (A : Option Addr) (c : Nat), e = .returned (.tuple #[.agg #[.int .i64 p.1, .slice A p.2.1.length c], .bool p.2.2]) ∧ w'.ownsRow w.heap.size 74 6 (.slice A p.2.1.length c) p.2.1.length (flatOf verC p.2.1) ∧ Below w.heap.size w w'
/-- Between two rounds: the store in its box, and the rows that are still to come. -/
def BoxR (W : World) (N : Nat) (n : Int) (ys : List VerV) (bs : List RowV) (Ab : Option Addr) (cb : Nat) (wr : World) : Prop :=
  ∃ (A : Option Addr) (c : Nat), wr.cell? ⟨N, 0, none⟩ = some (.int .i64 n) ∧ wr.cell? ⟨N, 1, none⟩ = some (.slice A ys.length c) ∧ (∀ q, wr.frozen? ⟨N, q, none⟩ = false) ∧ wr.ownsRow (N + 1) 74 6 (.slice A ys.length c) ys.length (flatOf verC ys) ∧ wr.ownsRow (N + 1) 72 4 (.slice Ab bs.length cb) bs.length (flatOf rowC bs) ∧ ((Value.slice A ys.length c).ownBlock = none ∨ (Value.slice A ys.length c).ownBlock ≠ (Value.slice Ab bs.length cb).ownBlock) ∧ Below W.heap.size W wr
theorem BoxR.more {W w3 : World} {N c : Nat} {n : Int} {ys : List VerV} {y : VerV} {A : Option Addr} {bs : List RowV} {Ab : Option Addr} {cb : Nat} (hN : W.heap.size ≤ N) (n0 : w3.cell? ⟨N, 0, none⟩ = some (.int .i64 n)) (hf : ∀ q, w3.frozen? ⟨N, q, none⟩ = false) (hc : (w3.cell? ⟨N, 1, none⟩).isSome = true) (ho : w3.ownsRow (N + 1) 74 6 (.slice A (ys.length + 1) c) (ys.length + 1) (flatOf verC ys ++ verC y)) (hr : w3.ownsRow (N + 1) 72 4 (.slice Ab bs.length cb) bs.length (flatOf rowC bs)) (ha : (Value.slice A (ys.length + 1) c).ownBlock = none ∨ (Value.slice A (ys.length + 1) c).ownBlock ≠ (Value.slice Ab bs.length cb).ownBlock) (hb : Below W.heap.size W w3) : BoxR W N n (ys ++ [y]) bs Ab cb (w3.setCell ⟨N, 1, none⟩ (.slice A (ys.length + 1) c)) := by
  refine ⟨A, c, ?_, ?_, fun q => (World.frozen?_setCell ..).trans (hf q), ?_, owns_set_farV hr (by omega), ?_, hb.setCell hN _⟩
  · rw [← n0]; simp [go_sem]
  · rw [List.length_append, List.length_singleton]
    obtain ⟨u, hu⟩ := Option.isSome_iff_exists.1 hc
    simp [go_sem, hu]
  · rw [flatOf_append, flatOf_one, List.length_append, List.length_singleton]
    exact owns_set_farV ho (by omega)
  · rw [List.length_append, List.length_singleton]; exact ha

set_option maxRecDepth 100000 in
set_option maxHeartbeats 8000000 in
theorem next_any (A T : Option Addr) (cap capt : Nat) (zs : List VerV) (now : Int) (t : List RowV) (w : World) (hz : VersA w A zs) (ht : RowsA w T t) (hl : zs.length ≤ 1048576) (hlt : t.length ≤ 1048577) (hts : ∀ r ∈ t, r.k.size ≤ maxLen ∧ r.t.size ≤ maxLen) (hsb : storeB zs now = true) :
    Calls Try.prog 63 #[.agg #[.int .i64 now, .slice A zs.length cap], .slice T t.length capt] w (GetsSB w (nextL zs now t)) := by
  obtain ⟨i0, hi, hz0, hz1, hz2⟩ := info_parts Try.infoV74
  have Hi := Lib.hid hi
  have Hz0 := Lib.hid hz0
  have Hz1 := Lib.hid hz1
  have Hz2 := Lib.hid hz2
  clear hi hz0 hz1 hz2
  have hnow := (storeB_iff.1 hsb).1
  have HSB := Lib.hid hsb
  have HTS := Lib.hid hts
  have HZ := Lib.hid hz
  have HT := Lib.hid ht
  clear hz ht hsb hts
  obtain ⟨rk, hrk⟩ : ∃ rk, relOk t = rk := ⟨_, rfl⟩
  have HRK := Lib.hid hrk
  clear hrk
  go_enter Try.func63, Try.ntmps63
  go_wp2_with fail
  generalize hW : (w.alloc _).alloc _ = W0
  have s0 : W0.cell? ⟨w.heap.size, 0, none⟩ = some (.int .i64 now) := by rw [← hW]; simp [go_sem]
  have s1 : W0.cell? ⟨w.heap.size, 1, none⟩ = some (.slice A zs.length cap) := by rw [← hW]; simp [go_sem]
  have r0 : W0.cell? ⟨w.heap.size + 1, 0, none⟩ = some (.int .i64 0) := by rw [← hW]; simp [go_sem]
  have r1 : W0.cell? ⟨w.heap.size + 1, 1, none⟩ = some (.slice none 0 0) := by rw [← hW]; simp [go_sem]
  have rf : ∀ q, W0.frozen? ⟨w.heap.size + 1, q, none⟩ = false := fun q => by rw [← hW]; simp [go_sem]
  have ls : w.heap.size + 1 < W0.heap.size := by rw [← hW]; simp
  have B0 := Lib.hid (show Below w.heap.size w W0 from by rw [← hW]; exact ((Below.refl _ _).alloc (Nat.le_refl _) _).alloc (by simp) _)
  obtain ⟨G, hG⟩ : ∃ G, w.heap.size = G := ⟨_, rfl⟩
  have HG := Lib.hid hG
  rw [hG] at s0 s1 r0 r1 rf ls ⊢
  clear hW hG
  have hG1 : w.heap.size ≤ G + 1 := by have := HG.out; omega
  refine (RelOk_any T capt t _ (HT.out.below B0.out) hlt HTS.out).mono ?_
  rw [HRK.out]
  rintro e w1 ⟨rfl, hb⟩
  replace s0 := cellBelow hb (by omega) s0
  replace s1 := cellBelow hb (by omega) s1
  replace r0 := cellBelow hb ls r0
  replace r1 := cellBelow hb ls r1
  replace rf : ∀ q, w1.frozen? ⟨G + 1, q, none⟩ = false := fun q => ((bcell hb).2 _ _ ls).trans (rf q)
  replace ls := Nat.lt_of_lt_of_le ls hb.size
  have B1 := Lib.hid (B0.out.trans (hb.mono B0.out.size))
  have Z1 := Lib.hid (HZ.out.below B1.out)
  have T1 := Lib.hid (HT.out.below B1.out)
  clear hb B0 HZ HT
  cases rk
  · skip
    have HF := Lib.hid (show nextL zs now t = (0, [], false) from by rw [nextL, if_neg (by rw [HRK.out]; simp)])
    go_wp2
    rw [HF.out]
    refine bodyPost_ret (v := .tuple #[.agg #[.int .i64 0, .slice none 0 0], .bool false]) (by simp [results, Try.results63, go_sem, r0, r1]) rfl ?_
    exact ⟨none, 0, rfl, World.ownsRow_nil _ _ _ _, by repeat (first | exact B1.out | refine Below.setCell ?_ hG1 _)⟩
  · by_cases h30 : now = 30
    · have h30a : (now == 30) = true := by simpa using h30
      have HF := Lib.hid (show nextL zs now t = (0, [], false) from by rw [nextL, if_neg (fun h => h.2.1 h30)])
      go_wp2
      rw [HF.out]
      refine bodyPost_ret (v := .tuple #[.agg #[.int .i64 0, .slice none 0 0], .bool false]) (by simp [results, Try.results63, go_sem, r0, r1]) rfl ?_
      exact ⟨none, 0, rfl, World.ownsRow_nil _ _ _ _, by repeat (first | exact B1.out | refine Below.setCell ?_ hG1 _)⟩
    · have h30a : (now == 30) = false := by simpa using h30
      go_upto_region 4 with fail
      generalize hW : w1.alloc _ = W2
      have y1 : W2.cell? ⟨G, 1, none⟩ = some (.slice A zs.length cap) := by rw [← hW]; exact cell_alloc_far s1
      have bx := Lib.hid (show BoxN w1 w1.heap.size (now + 1) [] W2 from by
        rw [← hW]
        refine ⟨none, 0, by simp [go_sem], by simp [go_sem], fun q => by simp [go_sem], World.ownsRow_nil _ _ _ _, (Below.refl _ _).alloc (Nat.le_refl _) _⟩)
      clear hW
      have S0 := Lib.hid s0
      have S1 := Lib.hid s1
      have R0 := Lib.hid r0
      have R1 := Lib.hid r1
      have RF := Lib.hid rf
      obtain ⟨N, hN⟩ : ∃ N, w1.heap.size = N := ⟨_, rfl⟩
      have HN := Lib.hid hN
      have lN : G + 1 < N := by rw [← hN]; exact ls
      have hNle : w1.heap.size ≤ N := Nat.le_of_eq hN
      rw [hN] at bx ⊢
      clear s0 s1 r0 r1 rf hN
      obtain ⟨n, hn⟩ : ∃ n, now + 1 = n := ⟨_, rfl⟩
      have HNn := Lib.hid hn
      rw [hn] at bx ⊢
      have hnb : 1 ≤ n ∧ n ≤ 31 := by omega
      clear hn
      go_wp2
      clear y1
      go_loopw [27] (fun i wr => ∃ k : Nat, k ≤ zs.length ∧ i = .int .i64 k ∧ BoxN w1 N n ((zs.take k).map (endV t n)) wr) (fun i _ => zs.length - (intOf i).toNat)
      case atStart => exact ⟨0, Nat.zero_le _, rfl, bx.out⟩
      case round =>
        obtain ⟨k, hk, rfl, A5, c5, n0, n1, nf, hown, hbr⟩ := hrel
        have Hown := Lib.hid hown
        clear hown bx
        have hNw : N < wr.heap.size := World.block_lt_of_cell? _ _ n0
        have hyl : ((zs.take k).map (endV t n)).length ≤ 1048576 := by rw [List.length_map, List.length_take]; omega
        by_cases hlz : k < zs.length
        · obtain ⟨b, off, x, e1, hb, hx, c0, c1', c2, c3, c4, c5'⟩ := (Z1.out.below hbr).at_ hlz
          have HM := Lib.hid (map_take (f := endV t n) hx)
          obtain ⟨ys, hys⟩ : ∃ ys, (zs.take k).map (endV t n) = ys := ⟨_, rfl⟩
          rw [hys] at Hown HM n1 hyl
          subst e1
          have hkz : (k : Int) < (zs.length : Int) := by omega
          have hkz0 : (0 : Int) ≤ (k : Int) := by omega
          clear hx hys
          go_upto_region 7 with fail
          generalize hW1 : wr.alloc _ = W1
          have v0 : W1.cell? ⟨wr.heap.size, 0, none⟩ = some (.string x.r.k) := by rw [← hW1]; simp [go_sem]
          have v1 : W1.cell? ⟨wr.heap.size, 1, none⟩ = some (.string x.r.t) := by rw [← hW1]; simp [go_sem]
          have v2 : W1.cell? ⟨wr.heap.size, 2, none⟩ = some (.int .i64 x.r.f) := by rw [← hW1]; simp [go_sem]
          have v3 : W1.cell? ⟨wr.heap.size, 3, none⟩ = some (.int .i64 x.r.e) := by rw [← hW1]; simp [go_sem]
          have v4 : W1.cell? ⟨wr.heap.size, 4, none⟩ = some (.int .i64 x.i) := by rw [← hW1]; simp [go_sem]
          have v5 : W1.cell? ⟨wr.heap.size, 5, none⟩ = some (.int .i64 x.o) := by rw [← hW1]; simp [go_sem]
          have vf : ∀ q, W1.frozen? ⟨wr.heap.size, q, none⟩ = false := fun q => by rw [← hW1]; simp [go_sem]
          have hBW : Below wr.heap.size wr W1 := by rw [← hW1]; exact (Below.refl _ _).alloc (Nat.le_refl _) _
          have lV : wr.heap.size < W1.heap.size := by rw [← hW1]; simp
          replace n0 := cellBelow hBW hNw n0
          replace n1 := cellBelow hBW hNw n1
          replace nf : ∀ q, W1.frozen? ⟨N, q, none⟩ = false := fun q => ((bcell hBW).2 _ _ hNw).trans (nf q)
          have O1 := Lib.hid (ownsKeep Hown.out hBW)
          have hVo : ∀ i, (Value.slice A5 ys.length c5).ownBlock = some i → i < wr.heap.size := fun i e => (Hown.out.lt i e).2
          have hB1 := hbr.trans (hBW.mono hbr.size)
          obtain ⟨V, hV⟩ : ∃ V, wr.heap.size = V := ⟨_, rfl⟩
          rw [hV] at v0 v1 v2 v3 v4 v5 vf lV hVo hNw ⊢
          clear hW1 hBW hbr hV c0 c1' c2 c3 c4 c5' hb Hown
          go_wp2_with fail
          refine (current_any x _).mono ?_
          rintro e w2 ⟨rfl, hb2⟩
          replace v0 := cellBelow hb2 lV v0
          replace v1 := cellBelow hb2 lV v1
          replace v2 := cellBelow hb2 lV v2
          replace v3 := cellBelow hb2 lV v3
          replace v4 := cellBelow hb2 lV v4
          replace v5 := cellBelow hb2 lV v5
          replace vf : ∀ q, w2.frozen? ⟨V, q, none⟩ = false := fun q => ((bcell hb2).2 _ _ lV).trans (vf q)
          have lN1 : N < W1.heap.size := by omega
          replace n0 := cellBelow hb2 lN1 n0
          replace n1 := cellBelow hb2 lN1 n1
          replace nf : ∀ q, w2.frozen? ⟨N, q, none⟩ = false := fun q => ((bcell hb2).2 _ _ lN1).trans (nf q)
          have O2 := Lib.hid (ownsKeep O1.out hb2)
          replace hB1 := hB1.trans (hb2.mono hB1.size)
          replace lV := Nat.lt_of_lt_of_le lV hb2.size
          clear hb2 O1 lN1
          by_cases h9 : x.o = 999
          · rw [decide_eq_true h9]
            obtain ⟨lb, hlb⟩ : ∃ lb, hasR t x.r = lb := ⟨_, rfl⟩
            have HLB := Lib.hid hlb
            clear hlb
            go_wp2_with fail
            refine (contains_any T capt t x.r _ (T1.out.below hB1) hlt).mono ?_
            rw [HLB.out]
            rintro e w4 ⟨rfl, hb2⟩
            replace v0 := cellBelow hb2 lV v0
            replace v1 := cellBelow hb2 lV v1
            replace v2 := cellBelow hb2 lV v2
            replace v3 := cellBelow hb2 lV v3
            replace v4 := cellBelow hb2 lV v4
            replace v5 := cellBelow hb2 lV v5
            replace vf : ∀ q, w4.frozen? ⟨V, q, none⟩ = false := fun q => ((bcell hb2).2 _ _ lV).trans (vf q)
            have lN1 : N < w2.heap.size := by omega
            replace n0 := cellBelow hb2 lN1 n0
            replace n1 := cellBelow hb2 lN1 n1
            replace nf : ∀ q, w4.frozen? ⟨N, q, none⟩ = false := fun q => ((bcell hb2).2 _ _ lN1).trans (nf q)
            have O4 := Lib.hid (ownsKeep O2.out hb2)
            replace hB1 := hB1.trans (hb2.mono hB1.size)
            replace lV := Nat.lt_of_lt_of_le lV hb2.size
            clear hb2 O2 lN1
            cases lb
            · have HE := Lib.hid (show endV t n x = ⟨x.r, x.i, n⟩ from by rw [endV, if_pos ⟨h9, HLB.out⟩])
              clear h9
              go_upto_region 9 with fail
              have O3' := Lib.hid (show (w4.setCell ⟨V, 5, none⟩ (.int .i64 n)).ownsRow (N + 1) 74 6 (.slice A5 ys.length c5) ys.length (flatOf verC ys) from O4.out.kept (grown_setAtV w4 V 5 _) (.inr fun e => by have := hVo _ e; omega))
              have hB2 := hB1.setCell (show w1.heap.size ≤ (⟨V, 5, none⟩ : Addr).block from by show w1.heap.size ≤ V; omega) (.int .i64 n)
              have m0 := cell_set_far (g := V) (i := 5) (u := .int .i64 n) (show N ≠ V by omega) n0
              have m1 := cell_set_far (g := V) (i := 5) (u := .int .i64 n) (show N ≠ V by omega) n1
              have mf : ∀ q, (w4.setCell ⟨V, 5, none⟩ (.int .i64 n)).frozen? ⟨N, q, none⟩ = false := fun q => (World.frozen?_setCell ..).trans (nf q)
              generalize hW3 : w4.setCell ⟨V, 5, none⟩ (.int .i64 n) = W3 at *
              have u0 : W3.cell? ⟨V, 0, none⟩ = some (.string x.r.k) := by rw [← hW3]; simp [go_sem, v0]
              have u1 : W3.cell? ⟨V, 1, none⟩ = some (.string x.r.t) := by rw [← hW3]; simp [go_sem, v1]
              have u2 : W3.cell? ⟨V, 2, none⟩ = some (.int .i64 x.r.f) := by rw [← hW3]; simp [go_sem, v2]
              have u3 : W3.cell? ⟨V, 3, none⟩ = some (.int .i64 x.r.e) := by rw [← hW3]; simp [go_sem, v3]
              have u4 : W3.cell? ⟨V, 4, none⟩ = some (.int .i64 x.i) := by rw [← hW3]; simp [go_sem, v4]
              have u5 : W3.cell? ⟨V, 5, none⟩ = some (.int .i64 n) := by rw [← hW3]; simp [go_sem, v5]
              have lV3 : V < W3.heap.size := World.block_lt_of_cell? _ _ u0
              clear hW3 v0 v1 v2 v3 v4 v5 vf n0 n1 nf O4 hB1 lV
              have n0 := m0
              have n1 := m1
              have nf := mf
              clear m0 m1 mf
              have hsX := hB2.size
              have hNX : N < W3.heap.size := World.block_lt_of_cell? _ _ n0
              go_wp2_with (at_builtin; refine wpList_append_own _ rfl _ _ 24 rfl (N + 1) 74 i0 _ 6 64 Try.underlying24 Hi.out Hz0.out Hz1.out Hz2.out rfl (by decide) _ ys.length (flatOf verC ys) rfl (O3'.out.alloc _) ⟨W3.heap.size, 0, none⟩ 1 1 [.string x.r.k, .string x.r.t, .int .i64 x.r.f, .int .i64 x.r.e, .int .i64 x.i, .int .i64 n] rfl rfl (newsSix (by simp) (by simp) (by simp) (by simp) (by simp) (by simp)) (by simp [Value.oneCell']) (by unfold maxLen; omega) (by omega) (by simp; omega) ?_; intro v' w3 hown' hgrow hnil; obtain ⟨A6, c6, rfl⟩ := owns_formN hown'; have O3 := Lib.hid hown'; have B3 := Lib.hid ((hB2.alloc hsX _).grown hgrow (by simp; omega) (fun i e => by have := (O3'.out.lt i e).1; omega)); have hne : some N ≠ (Value.slice A5 ys.length c5).ownBlock := (fun e => by have := (O3'.out.lt N e.symm).1; omega); have q0 := keptC hNX hgrow hne n0; have q1 := keptC hNX hgrow hne n1; have qf := keptF hNX hgrow hne nf; clear hown' hgrow hnil)
              refine ⟨⟨k + 1, by omega, by go_num, ?_⟩, ?_⟩
              · rw [HM.out, HE.out]
                exact BoxN.more (by omega) q0 qf (by rw [q1]; rfl) O3.out B3.out
              · simp [intOf]; omega
            · have HE := Lib.hid (show endV t n x = x from by rw [endV, if_neg (by rw [HLB.out]; simp)])
              clear h9 vf
              have hsX := hB1.size
              have hNX : N < w4.heap.size := World.block_lt_of_cell? _ _ n0
              go_wp2_with (at_builtin; refine wpList_append_own _ rfl _ _ 24 rfl (N + 1) 74 i0 _ 6 64 Try.underlying24 Hi.out Hz0.out Hz1.out Hz2.out rfl (by decide) _ ys.length (flatOf verC ys) rfl (O4.out.alloc _) ⟨w4.heap.size, 0, none⟩ 1 1 [.string x.r.k, .string x.r.t, .int .i64 x.r.f, .int .i64 x.r.e, .int .i64 x.i, .int .i64 x.o] rfl rfl (newsSix (by simp) (by simp) (by simp) (by simp) (by simp) (by simp)) (by simp [Value.oneCell']) (by unfold maxLen; omega) (by omega) (by simp; omega) ?_; intro v' w3 hown' hgrow hnil; obtain ⟨A6, c6, rfl⟩ := owns_formN hown'; have O3 := Lib.hid hown'; have B3 := Lib.hid ((hB1.alloc hsX _).grown hgrow (by simp; omega) (fun i e => by have := (O4.out.lt i e).1; omega)); have hne : some N ≠ (Value.slice A5 ys.length c5).ownBlock := (fun e => by have := (O4.out.lt N e.symm).1; omega); have q0 := keptC hNX hgrow hne n0; have q1 := keptC hNX hgrow hne n1; have qf := keptF hNX hgrow hne nf; clear hown' hgrow hnil)
              refine ⟨⟨k + 1, by omega, by go_num, ?_⟩, ?_⟩
              · rw [HM.out, HE.out]
                exact BoxN.more (by omega) q0 qf (by rw [q1]; rfl) O3.out B3.out
              · simp [intOf]; omega
          · rw [decide_eq_false h9]
            have HE := Lib.hid (show endV t n x = x from by rw [endV, if_neg (fun h => h9 h.1)])
            clear h9 vf
            have hsX := hB1.size
            have hNX : N < w2.heap.size := World.block_lt_of_cell? _ _ n0
            go_wp2_with (at_builtin; refine wpList_append_own _ rfl _ _ 24 rfl (N + 1) 74 i0 _ 6 64 Try.underlying24 Hi.out Hz0.out Hz1.out Hz2.out rfl (by decide) _ ys.length (flatOf verC ys) rfl (O2.out.alloc _) ⟨w2.heap.size, 0, none⟩ 1 1 [.string x.r.k, .string x.r.t, .int .i64 x.r.f, .int .i64 x.r.e, .int .i64 x.i, .int .i64 x.o] rfl rfl (newsSix (by simp) (by simp) (by simp) (by simp) (by simp) (by simp)) (by simp [Value.oneCell']) (by unfold maxLen; omega) (by omega) (by simp; omega) ?_; intro v' w3 hown' hgrow hnil; obtain ⟨A6, c6, rfl⟩ := owns_formN hown'; have O3 := Lib.hid hown'; have B3 := Lib.hid ((hB1.alloc hsX _).grown hgrow (by simp; omega) (fun i e => by have := (O2.out.lt i e).1; omega)); have hne : some N ≠ (Value.slice A5 ys.length c5).ownBlock := (fun e => by have := (O2.out.lt N e.symm).1; omega); have q0 := keptC hNX hgrow hne n0; have q1 := keptC hNX hgrow hne n1; have qf := keptF hNX hgrow hne nf; clear hown' hgrow hnil)
            refine ⟨⟨k + 1, by omega, by go_num, ?_⟩, ?_⟩
            · rw [HM.out, HE.out]
              exact BoxN.more (by omega) q0 qf (by rw [q1]; rfl) O3.out B3.out
            · simp [intOf]; omega
        · obtain rfl : k = zs.length := by omega
          rw [List.take_length] at Hown n1 hyl
          obtain ⟨ys0, hy0⟩ : ∃ ys0, zs.map (endV t n) = ys0 := ⟨_, rfl⟩
          rw [hy0] at Hown n1 hyl
          have HY0 := Lib.hid hy0
          have hy0l : ys0.length ≤ 1048576 := hyl
          obtain ⟨w5, rfl⟩ : ∃ w5, w5 = wr := ⟨_, rfl⟩
          have g0 := cellBelow hbr (by omega) S0.out
          have g1 := cellBelow hbr (by omega) S1.out
          clear hy0 hyl hlz hk
          obtain ⟨old, hold⟩ : ∃ old, liveS zs now = old := ⟨_, rfl⟩
          have hol := liveS_len zs now
          rw [hold] at hol
          have HO := Lib.hid hold
          have HMN := Lib.hid (show liveS zs (min now now) = old from by rw [Int.min_self]; exact hold)
          clear hold
          go_wp2_with fail
          refine (storeAtV A cap zs now now old _ (Z1.out.below hbr) (by omega) HSB.out HMN.out).mono ?_
          rintro e w6 ⟨Ao, co, rfl, ho, hb⟩
          have RO := Lib.hid (show RowsA w6 Ao old from el_of_owns rowC_len ho)
          replace n0 := cellBelow hb hNw n0
          replace n1 := cellBelow hb hNw n1
          replace nf : ∀ q, w6.frozen? ⟨N, q, none⟩ = false := fun q => ((bcell hb).2 _ _ hNw).trans (nf q)
          have O6 := Lib.hid (ownsKeep Hown.out hb)
          have hb6 := hbr.trans (hb.mono hbr.size)
          replace hNw := Nat.lt_of_lt_of_le hNw hb.size
          clear ho hb hbr Hown g0 g1
          go_wp2_with fail
          refine (rowsBeside_any T Ao capt co t old _ (T1.out.below hb6) RO.out hlt (by omega)).mono ?_
          have hbl := besides_len t old
          obtain ⟨bs, hbs⟩ : ∃ bs, besides t old = bs := ⟨_, rfl⟩
          rw [hbs] at hbl ⊢
          have HBS := Lib.hid hbs
          clear hbs
          rintro e w7 ⟨Ab, cb, rfl, ho, hb⟩
          have OB := Lib.hid (owns_baseE (base' := N + 1) ho (by omega))
          have HAP0 := Lib.hid (ownsApart O6.out (Nat.le_refl _) (Nat.le_refl _) ho)
          replace n0 := cellBelow hb hNw n0
          replace n1 := cellBelow hb hNw n1
          replace nf : ∀ q, w7.frozen? ⟨N, q, none⟩ = false := fun q => ((bcell hb).2 _ _ hNw).trans (nf q)
          have O7 := Lib.hid (ownsKeep O6.out hb)
          have hb7 := hb6.trans (hb.mono hb6.size)
          have bx2 := Lib.hid (show BoxR w1 N n ys0 bs Ab cb w7 from ⟨A5, c5, n0, n1, nf, O7.out, OB.out, HAP0.out, hb7⟩)
          clear ho hb hb6 hb7 O6 O7 OB HAP0 RO n0 n1 nf hNw
          go_wp2
          go_loopw [57] (fun i wr => ∃ k : Nat, k ≤ bs.length ∧ i = .int .i64 k ∧ BoxR w1 N n (ys0 ++ (bs.take k).map (newV n)) bs Ab cb wr) (fun i _ => bs.length - (intOf i).toNat)
          case atStart => exact ⟨0, Nat.zero_le _, rfl, by simpa using bx2.out⟩
          case round =>
            obtain ⟨k, hk, rfl, A5, c5, n0, n1, nf, hown, hob, hap, hbr⟩ := hrel
            have Hown := Lib.hid hown
            have OB := Lib.hid hob
            have HAP := Lib.hid hap
            clear hown hob hap bx2
            have hNw : N < wr.heap.size := World.block_lt_of_cell? _ _ n0
            have hyl : (ys0 ++ (bs.take k).map (newV n)).length ≤ 2097153 := by
              rw [List.length_append, List.length_map, List.length_take]
              omega
            by_cases hlk : k < bs.length
            · obtain ⟨b, off, r, e1, hb, hx, c0, c1', c2, c3⟩ := RowsA.at_ (show RowsA wr Ab bs from el_of_owns rowC_len OB.out) hlk
              have HM := Lib.hid (show ys0 ++ (bs.take (k + 1)).map (newV n) = (ys0 ++ (bs.take k).map (newV n)) ++ [newV n r] from by rw [map_take hx, List.append_assoc])
              obtain ⟨ys, hys⟩ : ∃ ys, ys0 ++ (bs.take k).map (newV n) = ys := ⟨_, rfl⟩
              rw [hys] at HM Hown n1 hyl HAP
              subst e1
              have hkz : (k : Int) < (bs.length : Int) := by omega
              have hkz0 : (0 : Int) ≤ (k : Int) := by omega
              clear hx hys
              go_upto_region 14 with fail
              generalize hW1 : wr.alloc _ = W1
              have v0 : W1.cell? ⟨wr.heap.size, 0, none⟩ = some (.string r.k) := by rw [← hW1]; simp [go_sem]
              have v1 : W1.cell? ⟨wr.heap.size, 1, none⟩ = some (.string r.t) := by rw [← hW1]; simp [go_sem]
              have v2 : W1.cell? ⟨wr.heap.size, 2, none⟩ = some (.int .i64 r.f) := by rw [← hW1]; simp [go_sem]
              have v3 : W1.cell? ⟨wr.heap.size, 3, none⟩ = some (.int .i64 r.e) := by rw [← hW1]; simp [go_sem]
              have hBW : Below wr.heap.size wr W1 := by rw [← hW1]; exact (Below.refl _ _).alloc (Nat.le_refl _) _
              have lV : wr.heap.size < W1.heap.size := by rw [← hW1]; simp
              replace n0 := cellBelow hBW hNw n0
              replace n1 := cellBelow hBW hNw n1
              replace nf : ∀ q, W1.frozen? ⟨N, q, none⟩ = false := fun q => ((bcell hBW).2 _ _ hNw).trans (nf q)
              have O1 := Lib.hid (ownsKeep Hown.out hBW)
              have OB1 := Lib.hid (ownsKeep OB.out hBW)
              have hB1 := hbr.trans (hBW.mono hbr.size)
              obtain ⟨V, hV⟩ : ∃ V, wr.heap.size = V := ⟨_, rfl⟩
              rw [hV] at v0 v1 v2 v3 lV hNw ⊢
              clear hW1 hBW hbr hV c0 c1' c2 c3 hb Hown OB
              have hsX := hB1.size
              have hNX : N < W1.heap.size := World.block_lt_of_cell? _ _ n0
              go_wp2_with (at_builtin; refine wpList_append_own_at _ rfl _ _ 24 rfl (N + 1) 74 i0 _ 6 64 Try.underlying24 Hi.out Hz0.out Hz1.out Hz2.out rfl (by decide) _ ys.length (flatOf verC ys) rfl (O1.out.alloc _) ⟨W1.heap.size, 0, none⟩ 1 1 [.string r.k, .string r.t, .int .i64 r.f, .int .i64 r.e, .int .i64 n, .int .i64 999] rfl rfl (newsSix (by simp) (by simp) (by simp) (by simp) (by simp) (by simp)) (by simp [Value.oneCell']) (by unfold maxLen; omega) (by omega) (by simp; omega) ?_; intro v' w3 hown' hgrow hnil hat; obtain ⟨A6, c6, rfl⟩ := owns_formN hown'; have O3 := Lib.hid hown'; have B3 := Lib.hid ((hB1.alloc hsX _).grown hgrow (by simp; omega) (fun i e => by have := (O1.out.lt i e).1; omega)); have hne : some N ≠ (Value.slice A5 ys.length c5).ownBlock := (fun e => by have := (O1.out.lt N e.symm).1; omega); have q0 := keptC hNX hgrow hne n0; have q1 := keptC hNX hgrow hne n1; have qf := keptF hNX hgrow hne nf; have OB3 := Lib.hid ((OB1.out.alloc _).kept hgrow (apSym HAP.out)); have HAT := Lib.hid hat; clear hown' hgrow hnil)
              refine ⟨⟨k + 1, by omega, by go_num, ?_⟩, ?_⟩
              · rw [HM.out]
                refine BoxR.more (by omega) q0 qf (by rw [q1]; rfl) O3.out OB3.out ?_ B3.out
                rcases HAT.out with e | e
                · rw [e]; exact HAP.out
                · rw [e]
                  refine .inr fun e1 => ?_
                  have h2 := (OB1.out.lt _ e1.symm).2
                  simp at h2
                  omega
              · simp [intOf]; omega
            · obtain rfl : k = bs.length := by omega
              rw [List.take_length] at Hown n1 hyl
              have HSL := Lib.hid (show setL zs now t = ys0 ++ bs.map (newV n) from by rw [setL, HNn.out, HY0.out, HO.out, HBS.out])
              obtain ⟨ys, hys⟩ : ∃ ys, ys0 ++ bs.map (newV n) = ys := ⟨_, rfl⟩
              rw [hys] at HSL Hown n1 hyl
              clear hys
              have r0 := cellBelow hbr (by omega) R0.out
              have r1 := cellBelow hbr (by omega) R1.out
              have tf : ∀ q, wr.frozen? ⟨G + 1, q, none⟩ = false := fun q => ((bcell hbr).2 _ _ (by omega)).trans (RF.out q)
              have hGN : G + 1 ≠ N := by omega
              have hNG : N ≠ G + 1 := by omega
              have BR := Lib.hid (B1.out.trans (hbr.mono B1.out.size))
              clear hbr
              by_cases hlong : ys.length ≤ 120
              · have hli : (ys.length : Int) ≤ 120 := by omega
                have HF := Lib.hid (show nextL zs now t = (n, ys, true) from by rw [nextL, if_pos ⟨HRK.out, h30, by rw [HSL.out]; exact hlong⟩, HSL.out, HNn.out])
                go_wp2
                rw [HF.out]
                refine bodyPost_ret (v := .tuple #[.agg #[.int .i64 n, .slice A5 ys.length c5], .bool true]) (by simp [results, Try.results63, go_sem, r0, r1]) rfl ?_
                refine ⟨A5, c5, rfl, ?_, ?_⟩
                · refine ownsBase (base := N + 1) ?_ (by have := HG.out; omega)
                  repeat (first | exact Hown.out | refine owns_set_farV ?_ (by omega))
                · repeat (first | exact BR.out | refine Below.setCell ?_ hG1 _)
              · have hli : (120 : Int) < (ys.length : Int) := by omega
                have HF := Lib.hid (show nextL zs now t = (0, [], false) from by rw [nextL, if_neg (fun h => hlong (by rw [← HSL.out]; exact h.2.2))])
                go_wp2
                rw [HF.out]
                refine bodyPost_ret (v := .tuple #[.agg #[.int .i64 0, .slice none 0 0], .bool false]) (by simp [results, Try.results63, go_sem, r0, r1]) rfl ?_
                exact ⟨none, 0, rfl, World.ownsRow_nil _ _ _ _, by repeat (first | exact BR.out | refine Below.setCell ?_ hG1 _)⟩
end Go.Proofs.Ytacddgipcafdlaa
