/-
  Walks: a store with another table at the next stamp: the model's side.
-/
import Derived.Test.YtacddgipcafdlaaStoDf
import Derived.Test.YtacddgipcafdlaaStoS
import Derived.Deep.AppendLies
namespace Go.Proofs.Ytacddgipcafdlaa
open Go.Shelf Go.RowKit Go.Lib Go.Sort

/-- What becomes of a version: it ends if it is in the table no more. -/
def endV (t : List RowV) (n : Int) (x : VerV) : VerV := if x.o = 999 ∧ hasR t x.r = false then ⟨x.r, x.i, n⟩ else x
def newV (n : Int) (r : RowV) : VerV := ⟨r, n, 999⟩
def setL (zs : List VerV) (now : Int) (t : List RowV) : List VerV := zs.map (endV t (now + 1)) ++ (besides t (liveS zs now)).map (newV (now + 1))
theorem map_take {α β : Type} {f : α → β} {l : List α} {k : Nat} {x : α} (hx : l[k]? = some x) : (l.take (k + 1)).map f = (l.take k).map f ++ [f x] := by
  obtain ⟨hk, rfl⟩ := List.getElem?_eq_some_iff.1 hx
  rw [List.take_succ_eq_append_getElem hk, List.map_append]
  rfl
theorem setL_len (zs : List VerV) (now : Int) (t : List RowV) : (setL zs now t).length ≤ zs.length + t.length := by
  unfold setL
  rw [List.length_append, List.length_map, List.length_map]
  have := besides_len t (liveS zs now)
  omega
theorem newsSix {w : World} {g : Nat} {a b c d e f : Value} (h0 : w.cell? ⟨g, 0, none⟩ = some a) (h1 : w.cell? ⟨g, 1, none⟩ = some b) (h2 : w.cell? ⟨g, 2, none⟩ = some c) (h3 : w.cell? ⟨g, 3, none⟩ = some d) (h4 : w.cell? ⟨g, 4, none⟩ = some e) (h5 : w.cell? ⟨g, 5, none⟩ = some f) : ∀ j u, [a, b, c, d, e, f][j]? = some u → w.cell? ((⟨g, 0, none⟩ : Addr).add j) = some u := by
  intro j u h
  match j, h with
  | 0, h => simp at h; subst h; simpa [Addr.add] using h0
  | 1, h => simp at h; subst h; simpa [Addr.add] using h1
  | 2, h => simp at h; subst h; simpa [Addr.add] using h2
  | 3, h => simp at h; subst h; simpa [Addr.add] using h3
  | 4, h => simp at h; subst h; simpa [Addr.add] using h4
  | 5, h => simp at h; subst h; simpa [Addr.add] using h5
  | j + 6, h => simp at h
theorem keptF {W w3 : World} {N : Nat} {b : Option Nat} {al : Obj} (hN : N < W.heap.size) (hg : (W.alloc al).grownBy w3 b) (hne : some N ≠ b) (nf : ∀ q, W.frozen? ⟨N, q, none⟩ = false) : ∀ q, w3.frozen? ⟨N, q, none⟩ = false := fun q =>
  (World.frozen?_of_block (a := ⟨N, q, none⟩) (hg.block N (by simp; omega) hne)).trans ((((Below.refl W.heap.size W).alloc (Nat.le_refl _) al).frozen (p := ⟨N, q, none⟩) hN).trans (nf q))
theorem keptC {W w3 : World} {N i : Nat} {b : Option Nat} {al : Obj} {v : Value} (hN : N < W.heap.size) (hg : (W.alloc al).grownBy w3 b) (hne : some N ≠ b) (n0 : W.cell? ⟨N, i, none⟩ = some v) : w3.cell? ⟨N, i, none⟩ = some v :=
  (World.cell?_of_block (a := ⟨N, i, none⟩) (hg.block N (by simp; omega) hne)).trans (cell_alloc_far n0)
theorem cellSet1 {w : World} {N : Nat} {u v : Value} (h : w.cell? ⟨N, 0, none⟩ = some v) : (w.setCell ⟨N, 1, none⟩ u).cell? ⟨N, 0, none⟩ = some v := by
  rw [← h]; simp [go_sem]
/-- A store in a box: its stamp, and versions in memory made after the box. -/
def BoxN (W : World) (N : Nat) (n : Int) (ys : List VerV) (wr : World) : Prop :=
  ∃ (A : Option Addr) (c : Nat), wr.cell? ⟨N, 0, none⟩ = some (.int .i64 n) ∧ wr.cell? ⟨N, 1, none⟩ = some (.slice A ys.length c) ∧ (∀ q, wr.frozen? ⟨N, q, none⟩ = false) ∧ wr.ownsRow (N + 1) 74 6 (.slice A ys.length c) ys.length (flatOf verC ys) ∧ Below W.heap.size W wr
/-- One version more: behind the append and the store into the box. -/
theorem BoxN.more {W w3 : World} {N c : Nat} {n : Int} {ys : List VerV} {y : VerV} {A : Option Addr} (hN : W.heap.size ≤ N) (n0 : w3.cell? ⟨N, 0, none⟩ = some (.int .i64 n)) (hf : ∀ q, w3.frozen? ⟨N, q, none⟩ = false) (hc : (w3.cell? ⟨N, 1, none⟩).isSome = true) (ho : w3.ownsRow (N + 1) 74 6 (.slice A (ys.length + 1) c) (ys.length + 1) (flatOf verC ys ++ verC y)) (hb : Below W.heap.size W w3) : BoxN W N n (ys ++ [y]) (w3.setCell ⟨N, 1, none⟩ (.slice A (ys.length + 1) c)) := by
  refine ⟨A, c, ?_, ?_, fun q => (World.frozen?_setCell ..).trans (hf q), ?_, hb.setCell hN _⟩
  · rw [← n0]; simp [go_sem]
  · rw [List.length_append, List.length_singleton]
    obtain ⟨u, hu⟩ := Option.isSome_iff_exists.1 hc
    simp [go_sem, hu]
  · rw [flatOf_append, flatOf_one, List.length_append, List.length_singleton]
    exact owns_set_farV ho (by omega)

set_option maxRecDepth 100000 in
set_option maxHeartbeats 8000000 in
theorem l5Set_any (A T : Option Addr) (cap capt : Nat) (zs : List VerV) (now : Int) (t : List RowV) (w : World) (hz : VersA w A zs) (ht : RowsA w T t) (hl : zs.length ≤ 1048576) (hlt : t.length ≤ 1048577) (hn0 : 0 ≤ now) (hn1 : now ≤ 30) :
    Calls Try.prog 91 #[.agg #[.int .i64 now, .slice A zs.length cap], .slice T t.length capt] w (GetsS w (now + 1) (setL zs now t)) := by
  obtain ⟨i0, hi, hz0, hz1, hz2⟩ := info_parts Try.infoV74
  have Hi := Lib.hid hi
  have Hz0 := Lib.hid hz0
  have Hz1 := Lib.hid hz1
  have Hz2 := Lib.hid hz2
  clear hi hz0 hz1 hz2
  have HZ := Lib.hid hz
  have HT := Lib.hid ht
  clear hz ht
  go_enter Try.func91, Try.ntmps91
  go_wp2_with fail
  generalize hW : (w.alloc _).alloc _ = W0
  have s0 : W0.cell? ⟨w.heap.size, 0, none⟩ = some (.int .i64 now) := by rw [← hW]; simp [go_sem]
  have s1 : W0.cell? ⟨w.heap.size, 1, none⟩ = some (.slice A zs.length cap) := by rw [← hW]; simp [go_sem]
  have r0 : W0.cell? ⟨w.heap.size + 1, 0, none⟩ = some (.int .i64 0) := by rw [← hW]; simp [go_sem]
  have r1 : W0.cell? ⟨w.heap.size + 1, 1, none⟩ = some (.slice none 0 0) := by rw [← hW]; simp [go_sem]
  have rf : ∀ q, W0.frozen? ⟨w.heap.size + 1, q, none⟩ = false := fun q => by rw [← hW]; simp [go_sem]
  have ls : w.heap.size + 1 < W0.heap.size := by rw [← hW]; simp
  have B0 := Lib.hid (show Below w.heap.size w W0 from by rw [← hW]; exact ((Below.refl _ _).alloc (Nat.le_refl _) _).alloc (by simp) _)
  obtain ⟨G, hG⟩ : ∃ G, w.heap.size = G := ⟨_, rfl⟩
  have HG := Lib.hid hG
  rw [hG] at s0 s1 r0 r1 rf ls ⊢
  clear hW hG
  refine (l5Live_any A cap zs now _ (HZ.out.below B0.out) hl).mono ?_
  have hol := liveS_len zs now
  obtain ⟨old, hold⟩ : ∃ old, liveS zs now = old := ⟨_, rfl⟩
  have HO := Lib.hid hold
  rw [hold] at hol ⊢
  clear hold
  rintro e w1 ⟨A1, c1, rfl, ho, hb⟩
  have RO := Lib.hid (show RowsA w1 A1 old from el_of_owns rowC_len ho)
  replace s0 := cellBelow hb (by omega) s0
  replace s1 := cellBelow hb (by omega) s1
  replace r0 := cellBelow hb ls r0
  replace r1 := cellBelow hb ls r1
  obtain ⟨_, hfz⟩ := bcell hb
  replace rf : ∀ q, w1.frozen? ⟨G + 1, q, none⟩ = false := fun q => (hfz _ _ ls).trans (rf q)
  replace ls := Nat.lt_of_lt_of_le ls hb.size
  have B1 := Lib.hid (B0.out.trans (hb.mono B0.out.size))
  have Z1 := Lib.hid (HZ.out.below B1.out)
  have T1 := Lib.hid (HT.out.below B1.out)
  clear ho hb hfz B0 HZ HT
  go_wp2
  generalize hW : w1.alloc _ = W2
  have bx := Lib.hid (show BoxN w1 w1.heap.size (now + 1) [] W2 from by
    rw [← hW]
    refine ⟨none, 0, by simp [go_sem], by simp [go_sem], fun q => by simp [go_sem], World.ownsRow_nil _ _ _ _, (Below.refl _ _).alloc (Nat.le_refl _) _⟩)
  clear hW
  have S0 := Lib.hid s0
  have S1 := Lib.hid s1
  have R0 := Lib.hid r0
  have R1 := Lib.hid r1
  have RF := Lib.hid rf
  obtain ⟨N, hN⟩ : ∃ N, w1.heap.size = N := ⟨_, rfl⟩
  have HN := Lib.hid hN
  have lN : G + 1 < N := by rw [← hN]; exact ls
  have hNle : w1.heap.size ≤ N := Nat.le_of_eq hN
  rw [hN] at bx ⊢
  clear s0 s1 r0 r1 rf hN
  obtain ⟨n, hn⟩ : ∃ n, now + 1 = n := ⟨_, rfl⟩
  have HNn := Lib.hid hn
  rw [hn] at bx ⊢
  have hnb : 1 ≤ n ∧ n ≤ 31 := by omega
  clear hn
  go_loopw [7] (fun i wr => ∃ k : Nat, k ≤ zs.length ∧ i = .int .i64 k ∧ BoxN w1 N n ((zs.take k).map (endV t n)) wr) (fun i _ => zs.length - (intOf i).toNat)
  case atStart => exact ⟨0, Nat.zero_le _, rfl, bx.out⟩
  case round =>
    obtain ⟨k, hk, rfl, A5, c5, n0, n1, nf, hown, hbr⟩ := hrel
    have Hown := Lib.hid hown
    clear hown bx
    have g0 := cellBelow hbr (by omega) S0.out
    have g1 := cellBelow hbr (by omega) S1.out
    have hNw : N < wr.heap.size := World.block_lt_of_cell? _ _ n0
    have hyl : ((zs.take k).map (endV t n)).length ≤ 1048576 := by rw [List.length_map, List.length_take]; omega
    by_cases hlz : k < zs.length
    · obtain ⟨b, off, x, e1, hb, hx, c0, c1', c2, c3, c4, c5'⟩ := (Z1.out.below hbr).at_ hlz
      have HM := Lib.hid (map_take (f := endV t n) hx)
      obtain ⟨ys, hys⟩ : ∃ ys, (zs.take k).map (endV t n) = ys := ⟨_, rfl⟩
      rw [hys] at Hown HM n1 hyl
      subst e1
      have hkz : (k : Int) < (zs.length : Int) := by omega
      have hkz0 : (0 : Int) ≤ (k : Int) := by omega
      clear hx hys
      go_upto_region 7 with fail
      generalize hW1 : wr.alloc _ = W1
      have v0 : W1.cell? ⟨wr.heap.size, 0, none⟩ = some (.string x.r.k) := by rw [← hW1]; simp [go_sem]
      have v1 : W1.cell? ⟨wr.heap.size, 1, none⟩ = some (.string x.r.t) := by rw [← hW1]; simp [go_sem]
      have v2 : W1.cell? ⟨wr.heap.size, 2, none⟩ = some (.int .i64 x.r.f) := by rw [← hW1]; simp [go_sem]
      have v3 : W1.cell? ⟨wr.heap.size, 3, none⟩ = some (.int .i64 x.r.e) := by rw [← hW1]; simp [go_sem]
      have v4 : W1.cell? ⟨wr.heap.size, 4, none⟩ = some (.int .i64 x.i) := by rw [← hW1]; simp [go_sem]
      have v5 : W1.cell? ⟨wr.heap.size, 5, none⟩ = some (.int .i64 x.o) := by rw [← hW1]; simp [go_sem]
      have vf : ∀ q, W1.frozen? ⟨wr.heap.size, q, none⟩ = false := fun q => by rw [← hW1]; simp [go_sem]
      have hBW : Below wr.heap.size wr W1 := by rw [← hW1]; exact (Below.refl _ _).alloc (Nat.le_refl _) _
      have lV : wr.heap.size < W1.heap.size := by rw [← hW1]; simp
      replace n0 := cellBelow hBW hNw n0
      replace n1 := cellBelow hBW hNw n1
      replace nf : ∀ q, W1.frozen? ⟨N, q, none⟩ = false := fun q => ((bcell hBW).2 _ _ hNw).trans (nf q)
      have O1 := Lib.hid (ownsKeep Hown.out hBW)
      have hVo : ∀ i, (Value.slice A5 ys.length c5).ownBlock = some i → i < wr.heap.size := fun i e => (Hown.out.lt i e).2
      have hB1 := hbr.trans (hBW.mono hbr.size)
      obtain ⟨V, hV⟩ : ∃ V, wr.heap.size = V := ⟨_, rfl⟩
      rw [hV] at v0 v1 v2 v3 v4 v5 vf lV hVo hNw ⊢
      clear hW1 hBW hbr hV c0 c1' c2 c3 c4 c5' hb Hown g0 g1
      by_cases h9 : x.o = 999
      · have h9a : (x.o == 999) = true := by simpa using h9
        obtain ⟨lb, hlb⟩ : ∃ lb, hasR t x.r = lb := ⟨_, rfl⟩
        have HLB := Lib.hid hlb
        clear hlb
        go_wp2_with fail
        refine (l5Has_any T capt t x.r _ (T1.out.below hB1) hlt).mono ?_
        rw [HLB.out]
        rintro e w2 ⟨rfl, hb2⟩
        replace v0 := cellBelow hb2 lV v0
        replace v1 := cellBelow hb2 lV v1
        replace v2 := cellBelow hb2 lV v2
        replace v3 := cellBelow hb2 lV v3
        replace v4 := cellBelow hb2 lV v4
        replace v5 := cellBelow hb2 lV v5
        replace vf : ∀ q, w2.frozen? ⟨V, q, none⟩ = false := fun q => ((bcell hb2).2 _ _ lV).trans (vf q)
        have lN1 : N < W1.heap.size := by omega
        replace n0 := cellBelow hb2 lN1 n0
        replace n1 := cellBelow hb2 lN1 n1
        replace nf : ∀ q, w2.frozen? ⟨N, q, none⟩ = false := fun q => ((bcell hb2).2 _ _ lN1).trans (nf q)
        have O2 := Lib.hid (ownsKeep O1.out hb2)
        replace hB1 := hB1.trans (hb2.mono hB1.size)
        replace lV := Nat.lt_of_lt_of_le lV hb2.size
        clear hb2 O1 lN1
        cases lb
        · have HE := Lib.hid (show endV t n x = ⟨x.r, x.i, n⟩ from by rw [endV, if_pos ⟨h9, HLB.out⟩])
          clear h9
          go_upto_region 9 with fail
          have O3' := Lib.hid (show (w2.setCell ⟨V, 5, none⟩ (.int .i64 n)).ownsRow (N + 1) 74 6 (.slice A5 ys.length c5) ys.length (flatOf verC ys) from O2.out.kept (grown_setAtV w2 V 5 _) (.inr fun e => by have := hVo _ e; omega))
          have hB2 := hB1.setCell (show w1.heap.size ≤ (⟨V, 5, none⟩ : Addr).block from by show w1.heap.size ≤ V; omega) (.int .i64 n)
          have m0 := cell_set_far (g := V) (i := 5) (u := .int .i64 n) (show N ≠ V by omega) n0
          have m1 := cell_set_far (g := V) (i := 5) (u := .int .i64 n) (show N ≠ V by omega) n1
          have mf : ∀ q, (w2.setCell ⟨V, 5, none⟩ (.int .i64 n)).frozen? ⟨N, q, none⟩ = false := fun q => (World.frozen?_setCell ..).trans (nf q)
          generalize hW3 : w2.setCell ⟨V, 5, none⟩ (.int .i64 n) = W3 at *
          have u0 : W3.cell? ⟨V, 0, none⟩ = some (.string x.r.k) := by rw [← hW3]; simp [go_sem, v0]
          have u1 : W3.cell? ⟨V, 1, none⟩ = some (.string x.r.t) := by rw [← hW3]; simp [go_sem, v1]
          have u2 : W3.cell? ⟨V, 2, none⟩ = some (.int .i64 x.r.f) := by rw [← hW3]; simp [go_sem, v2]
          have u3 : W3.cell? ⟨V, 3, none⟩ = some (.int .i64 x.r.e) := by rw [← hW3]; simp [go_sem, v3]
          have u4 : W3.cell? ⟨V, 4, none⟩ = some (.int .i64 x.i) := by rw [← hW3]; simp [go_sem, v4]
          have u5 : W3.cell? ⟨V, 5, none⟩ = some (.int .i64 n) := by rw [← hW3]; simp [go_sem, v5]
          have lV3 : V < W3.heap.size := World.block_lt_of_cell? _ _ u0
          clear hW3 v0 v1 v2 v3 v4 v5 vf n0 n1 nf O2 hB1 lV
          have n0 := m0
          have n1 := m1
          have nf := mf
          clear m0 m1 mf
          have hsX := hB2.size
          have hNX : N < W3.heap.size := World.block_lt_of_cell? _ _ n0
          go_wp2_with (at_builtin; refine wpList_append_own _ rfl _ _ 24 rfl (N + 1) 74 i0 _ 6 64 Try.underlying24 Hi.out Hz0.out Hz1.out Hz2.out rfl (by decide) _ ys.length (flatOf verC ys) rfl (O3'.out.alloc _) ⟨W3.heap.size, 0, none⟩ 1 1 [.string x.r.k, .string x.r.t, .int .i64 x.r.f, .int .i64 x.r.e, .int .i64 x.i, .int .i64 n] rfl rfl (newsSix (by simp) (by simp) (by simp) (by simp) (by simp) (by simp)) (by simp [Value.oneCell']) (by unfold maxLen; omega) (by omega) (by simp; omega) ?_; intro v' w3 hown' hgrow hnil; obtain ⟨A6, c6, rfl⟩ := owns_formN hown'; have O3 := Lib.hid hown'; have B3 := Lib.hid ((hB2.alloc hsX _).grown hgrow (by simp; omega) (fun i e => by have := (O3'.out.lt i e).1; omega)); have hne : some N ≠ (Value.slice A5 ys.length c5).ownBlock := (fun e => by have := (O3'.out.lt N e.symm).1; omega); have q0 := keptC hNX hgrow hne n0; have q1 := keptC hNX hgrow hne n1; have qf := keptF hNX hgrow hne nf; clear hown' hgrow hnil)
          refine ⟨⟨k + 1, by omega, by go_num, ?_⟩, ?_⟩
          · rw [HM.out, HE.out]
            exact BoxN.more (by omega) q0 qf (by rw [q1]; rfl) O3.out B3.out
          · simp [intOf]; omega
        · have HE := Lib.hid (show endV t n x = x from by rw [endV, if_neg (by rw [HLB.out]; simp)])
          clear h9 vf
          have hsX := hB1.size
          have hNX : N < w2.heap.size := World.block_lt_of_cell? _ _ n0
          go_wp2_with (at_builtin; refine wpList_append_own _ rfl _ _ 24 rfl (N + 1) 74 i0 _ 6 64 Try.underlying24 Hi.out Hz0.out Hz1.out Hz2.out rfl (by decide) _ ys.length (flatOf verC ys) rfl (O2.out.alloc _) ⟨w2.heap.size, 0, none⟩ 1 1 [.string x.r.k, .string x.r.t, .int .i64 x.r.f, .int .i64 x.r.e, .int .i64 x.i, .int .i64 x.o] rfl rfl (newsSix (by simp) (by simp) (by simp) (by simp) (by simp) (by simp)) (by simp [Value.oneCell']) (by unfold maxLen; omega) (by omega) (by simp; omega) ?_; intro v' w3 hown' hgrow hnil; obtain ⟨A6, c6, rfl⟩ := owns_formN hown'; have O3 := Lib.hid hown'; have B3 := Lib.hid ((hB1.alloc hsX _).grown hgrow (by simp; omega) (fun i e => by have := (O2.out.lt i e).1; omega)); have hne : some N ≠ (Value.slice A5 ys.length c5).ownBlock := (fun e => by have := (O2.out.lt N e.symm).1; omega); have q0 := keptC hNX hgrow hne n0; have q1 := keptC hNX hgrow hne n1; have qf := keptF hNX hgrow hne nf; clear hown' hgrow hnil)
          refine ⟨⟨k + 1, by omega, by go_num, ?_⟩, ?_⟩
          · rw [HM.out, HE.out]
            exact BoxN.more (by omega) q0 qf (by rw [q1]; rfl) O3.out B3.out
          · simp [intOf]; omega
      · have h9a : (x.o == 999) = false := by simpa using h9
        have HE := Lib.hid (show endV t n x = x from by rw [endV, if_neg (fun h => h9 h.1)])
        clear h9 vf
        have hsX := hB1.size
        have hNX : N < W1.heap.size := World.block_lt_of_cell? _ _ n0
        go_wp2_with (at_builtin; refine wpList_append_own _ rfl _ _ 24 rfl (N + 1) 74 i0 _ 6 64 Try.underlying24 Hi.out Hz0.out Hz1.out Hz2.out rfl (by decide) _ ys.length (flatOf verC ys) rfl (O1.out.alloc _) ⟨W1.heap.size, 0, none⟩ 1 1 [.string x.r.k, .string x.r.t, .int .i64 x.r.f, .int .i64 x.r.e, .int .i64 x.i, .int .i64 x.o] rfl rfl (newsSix (by simp) (by simp) (by simp) (by simp) (by simp) (by simp)) (by simp [Value.oneCell']) (by unfold maxLen; omega) (by omega) (by simp; omega) ?_; intro v' w3 hown' hgrow hnil; obtain ⟨A6, c6, rfl⟩ := owns_formN hown'; have O3 := Lib.hid hown'; have B3 := Lib.hid ((hB1.alloc hsX _).grown hgrow (by simp; omega) (fun i e => by have := (O1.out.lt i e).1; omega)); have hne : some N ≠ (Value.slice A5 ys.length c5).ownBlock := (fun e => by have := (O1.out.lt N e.symm).1; omega); have q0 := keptC hNX hgrow hne n0; have q1 := keptC hNX hgrow hne n1; have qf := keptF hNX hgrow hne nf; clear hown' hgrow hnil)
        refine ⟨⟨k + 1, by omega, by go_num, ?_⟩, ?_⟩
        · rw [HM.out, HE.out]
          exact BoxN.more (by omega) q0 qf (by rw [q1]; rfl) O3.out B3.out
        · simp [intOf]; omega
    · obtain rfl : k = zs.length := by omega
      rw [List.take_length] at Hown n1 hyl
      obtain ⟨ys0, hy0⟩ : ∃ ys0, zs.map (endV t n) = ys0 := ⟨_, rfl⟩
      rw [hy0] at Hown n1 hyl
      have HY0 := Lib.hid hy0
      have hy0l : ys0.length ≤ 1048576 := hyl
      have bx2 := Lib.hid (show BoxN w1 N n ys0 wr from ⟨A5, c5, n0, n1, nf, Hown.out, hbr⟩)
      clear hy0 hyl n0 n1 nf Hown hbr hNw hlz hk
      go_wp2
      clear g0 g1
      go_loopw [9] (fun i wr => ∃ k : Nat, k ≤ t.length ∧ i = .int .i64 k ∧ BoxN w1 N n (ys0 ++ (besides (t.take k) old).map (newV n)) wr) (fun i _ => t.length - (intOf i).toNat)
      case atStart => exact ⟨0, Nat.zero_le _, rfl, by simpa [besides] using bx2.out⟩
      case round =>
        obtain ⟨k, hk, rfl, A5, c5, n0, n1, nf, hown, hbr⟩ := hrel
        have Hown := Lib.hid hown
        clear hown bx2
        have hNw : N < wr.heap.size := World.block_lt_of_cell? _ _ n0
        have hyl : (ys0 ++ (besides (t.take k) old).map (newV n)).length ≤ 2097153 := by
          rw [List.length_append, List.length_map]
          have := besides_len (t.take k) old
          rw [List.length_take] at this
          omega
        by_cases hlk : k < t.length
        · obtain ⟨b, off, r, e1, hb, hx, c0, c1', c2, c3⟩ := (T1.out.below hbr).at_ hlk
          have HBT := Lib.hid (besides_take (b := old) hx)
          have hbN : b < N := by obtain ⟨b2, off2, _, e2, hb3, _⟩ := T1.out.at_ hlk; rw [e1] at e2; injection e2 with e2; injection e2 with e2 _ _; subst e2; have := HN.out; omega
          obtain ⟨lb, hlb⟩ : ∃ lb, hasR old r = lb := ⟨_, rfl⟩
          have HLB := Lib.hid hlb
          rw [hlb] at HBT
          subst e1
          have hkz : (k : Int) < (t.length : Int) := by omega
          have hkz0 : (0 : Int) ≤ (k : Int) := by omega
          clear hx hlb
          go_wp2_with fail
          refine (l5Has_any A1 c1 old r _ (RO.out.below hbr) (by omega)).mono ?_
          rw [HLB.out]
          rintro e w2 ⟨rfl, hb2⟩
          replace c0 := cellBelow hb2 hb c0
          replace c1' := cellBelow hb2 hb c1'
          replace c2 := cellBelow hb2 hb c2
          replace c3 := cellBelow hb2 hb c3
          replace hb := Nat.lt_of_lt_of_le hb hb2.size
          replace n0 := cellBelow hb2 hNw n0
          replace n1 := cellBelow hb2 hNw n1
          replace nf : ∀ q, w2.frozen? ⟨N, q, none⟩ = false := fun q => ((bcell hb2).2 _ _ hNw).trans (nf q)
          have O2 := Lib.hid (ownsKeep Hown.out hb2)
          have hB1 := hbr.trans (hb2.mono hbr.size)
          clear hb2 hbr Hown hNw
          cases lb
          · rw [if_neg (by simp)] at HBT
            have HM := Lib.hid (show ys0 ++ (besides (t.take (k + 1)) old).map (newV n) = (ys0 ++ (besides (t.take k) old).map (newV n)) ++ [newV n r] from by rw [HBT.out, List.map_append, List.append_assoc]; rfl)
            obtain ⟨ys, hys⟩ : ∃ ys, ys0 ++ (besides (t.take k) old).map (newV n) = ys := ⟨_, rfl⟩
            rw [hys] at HM O2 n1 hyl
            clear hys HBT
            obtain ⟨uu, huu⟩ : ∃ uu, Value.slice A5 ys.length c5 = uu := ⟨_, rfl⟩
            rw [huu] at n1 O2
            clear huu
            go_upto_region 14 with fail
            have agb : uu.ownBlock ≠ some b := fun e => by have := (O2.out.lt b e).1; have := hbN; omega
            have agN : uu.ownBlock ≠ some N := fun e => by have := (O2.out.lt N e).1; omega
            have hN2 : N < w2.heap.size := World.block_lt_of_cell? _ _ n0
            have hs2 := hB1.size
            go_region_law (refine step_append_lies _ (by rfl) _ _ _ (by rfl) (N + 1) 74 i0 _ 6 64 Try.underlying24 Hi.out Hz0.out Hz1.out Hz2.out rfl (by omega) uu ys.length (flatOf verC ys) (by rfl) ((O2.out.alloc _).drew) ⟨w2.heap.size, 0, none⟩ 1 1 [.string r.k, .string r.t, .int .i64 r.f, .int .i64 r.e, .int .i64 n, .int .i64 999] (by rfl) (by rfl) (World.news_of_block (cs := #[.string r.k, .string r.t, .int .i64 r.f, .int .i64 r.e, .int .i64 n, .int .i64 999]) (t := 74) (fr := (0, 0)) (heap_alloc_new w2 _)) (by simp [Value.oneCell']) (by omega) (by unfold maxLen; omega) (by omega) (by simp; omega) (w2.heap.size + 1) (by simp) ?_; intro gg cap1 w3 hown' hgrow hat hlt3; have hgw := (show (w2.drew.alloc (.cells #[.string r.k, .string r.t, .int .i64 r.f, .int .i64 r.e, .int .i64 n, .int .i64 999] 74)).grownBy w3 uu.ownBlock from hgrow); have qf := keptF (W := w2.drew) hN2 hgw (Ne.symm agN) nf; have q0 := keptC (W := w2.drew) hN2 hgw (Ne.symm agN) n0; have q1 := keptC (W := w2.drew) hN2 hgw (Ne.symm agN) n1; have p0 := keptC (W := w2.drew) hb hgw (Ne.symm agb) c0; have p1 := keptC (W := w2.drew) hb hgw (Ne.symm agb) c1'; have p2 := keptC (W := w2.drew) hb hgw (Ne.symm agb) c2; have p3 := keptC (W := w2.drew) hb hgw (Ne.symm agb) c3)
            all_goals
              have O3 := Lib.hid hown'
              have B3 := Lib.hid (((hB1.drew).alloc hs2 _).grown hgw (by simp; omega) (fun i e => by have := (O2.out.lt i e).1; omega))
              have BN := Lib.hid (BoxN.more (y := newV n r) hNle q0 qf (by rw [q1]; rfl) O3.out B3.out)
              clear hown' hgrow hgw hat O3 B3 q0 q1 qf p0 p1 p2 p3
              generalize w3.setCell ⟨N, 1, none⟩ _ = Wz at *
              go_wp2
              go_roundw
              case rel => exact ⟨k + 1, by omega, by go_num, by rw [HM.out]; exact BN.out⟩
              case measure => simp [intOf]; omega
          · rw [if_pos rfl, List.append_nil] at HBT
            have BB := Lib.hid hB1
            clear hB1
            go_wp2
            go_roundw
            case rel => exact ⟨k + 1, by omega, by go_num, by rw [HBT.out]; exact ⟨A5, c5, n0, n1, nf, O2.out, BB.out⟩⟩
            case measure => simp [intOf]; omega
        · obtain rfl : k = t.length := by omega
          rw [List.take_length] at Hown n1 hyl
          have HSL := Lib.hid (show setL zs now t = ys0 ++ (besides t old).map (newV n) from by rw [setL, HNn.out, HY0.out, HO.out])
          obtain ⟨ys, hys⟩ : ∃ ys, ys0 ++ (besides t old).map (newV n) = ys := ⟨_, rfl⟩
          rw [hys] at HSL Hown n1 hyl
          clear hys
          have t0 := cellBelow hbr (by omega) R0.out
          have t1 := cellBelow hbr (by omega) R1.out
          have tf : ∀ q, wr.frozen? ⟨G + 1, q, none⟩ = false := fun q => ((bcell hbr).2 _ _ (by omega)).trans (RF.out q)
          have hGN : G + 1 ≠ N := by omega
          have hNG : N ≠ G + 1 := by omega
          have hG1 : w.heap.size ≤ G + 1 := by have := HG.out; omega
          have BR := Lib.hid (B1.out.trans (hbr.mono B1.out.size))
          clear hbr
          go_wp2
          refine bodyPost_ret (v := .agg #[.int .i64 n, .slice A5 ys.length c5]) (by simp [results, Try.results91, go_sem, t0, t1]) rfl ?_
          rw [HSL.out, HNn.out]
          refine ⟨A5, c5, rfl, ?_, ?_⟩
          · refine ownsBase (base := N + 1) ?_ (by have := HG.out; omega)
            repeat (first | exact Hown.out | refine owns_set_farV ?_ (by omega))
          · repeat (first | exact BR.out | refine Below.setCell ?_ hG1 _)
end Go.Proofs.Ytacddgipcafdlaa
