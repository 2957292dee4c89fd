/-
  Walks: a store without versions that nobody sees any more, both ways.
-/
import Derived.Test.YtacddgipcafdlaaPruB
import Derived.Test.YtacddgipcafdlaaStoreP
import Derived.Test.YtacddgipcafdlaaStoAt
namespace Go.Proofs.Ytacddgipcafdlaa
open Go.Shelf Go.RowKit Go.Lib Go.Sort

def pruneP (zs : List VerV) (now st : Int) : Int × List VerV := if storeB zs now = true then (now, keepL (min st now) zs) else (0, [])
/-- A store by value, given as a pair, whose versions lie in new memory. -/
def GetsSp (w : World) (p : Int × List VerV) (e : Ending) (w' : World) : Prop :=
  ∃ (A : Option Addr) (cap : Nat), e = .returned (.agg #[.int .i64 p.1, .slice A p.2.length cap]) ∧ w'.ownsRow w.heap.size 74 6 (.slice A p.2.length cap) p.2.length (flatOf verC p.2) ∧ Below w.heap.size w w'
theorem prune_len (zs : List VerV) (now st : Int) : (pruneP zs now st).2.length ≤ zs.length := by
  unfold pruneP
  split
  · exact keepL_len _ _
  · exact Nat.zero_le _

set_option maxRecDepth 100000 in
set_option maxHeartbeats 8000000 in
theorem StorePrune_any (A : Option Addr) (cap : Nat) (zs : List VerV) (now st : Int) (w : World) (hz : VersA w A zs) (hA : A = none ∨ ∃ b off, A = some ⟨b, off, none⟩) (_hN : A = none → cap = 0) (hl : zs.length ≤ 1048576) (hs : ShortV zs) :
    Calls Try.prog 29 #[.agg #[.int .i64 now, .slice A zs.length cap], .int .i64 st] w (GetsSp w (pruneP zs now st)) := by
  have HS := Lib.hid hs
  have HA := Lib.hid hA
  clear hs hA
  obtain ⟨sb, hsb⟩ : ∃ sb, storeB zs now = sb := ⟨_, rfl⟩
  have HSB := Lib.hid hsb
  clear hsb
  obtain ⟨p, hp⟩ : ∃ p, pruneP zs now st = p := ⟨_, rfl⟩
  have HPP := Lib.hid hp
  rw [hp]
  clear hp
  go_enter Try.func29, Try.ntmps29
  go_wp2_with fail
  generalize hW : (w.alloc _).alloc _ = W0
  have s0 : W0.cell? ⟨w.heap.size, 0, none⟩ = some (.int .i64 now) := by rw [← hW]; simp [go_sem]
  have s1 : W0.cell? ⟨w.heap.size, 1, none⟩ = some (.slice A zs.length cap) := by rw [← hW]; simp [go_sem]
  have r0 : W0.cell? ⟨w.heap.size + 1, 0, none⟩ = some (.int .i64 0) := by rw [← hW]; simp [go_sem]
  have r1 : W0.cell? ⟨w.heap.size + 1, 1, none⟩ = some (.slice none 0 0) := by rw [← hW]; simp [go_sem]
  have rf : ∀ o, W0.frozen? ⟨w.heap.size + 1, o, none⟩ = false := fun o => by rw [← hW]; simp [go_sem]
  have ls : w.heap.size + 1 < W0.heap.size := by rw [← hW]; simp
  have hq0 : Below w.heap.size w W0 := by rw [← hW]; exact ((Below.refl _ _).alloc (Nat.le_refl _) _).alloc (by simp) _
  have Z0 := Lib.hid (hz.below hq0)
  clear hW hz
  obtain ⟨G, hG⟩ : ∃ G, w.heap.size = G := ⟨_, rfl⟩
  have HG := Lib.hid hG
  rw [hG] at s0 s1 r0 r1 rf ls ⊢
  have lG : G < W0.heap.size := by omega
  have B0 := Lib.hid hq0
  clear hG hq0
  refine (StoreOk_any A cap zs now W0 Z0.out (by omega) HS.out).mono ?_
  rw [HSB.out]
  rintro e w1 ⟨rfl, hb⟩
  replace s0 := cellBelow hb lG s0
  replace s1 := cellBelow hb lG s1
  replace r0 := cellBelow hb ls r0
  replace r1 := cellBelow hb ls r1
  replace rf : ∀ o, w1.frozen? ⟨G + 1, o, none⟩ = false := fun o => ((bcell hb).2 _ o ls).trans (rf o)
  replace lG := Nat.lt_of_lt_of_le lG hb.size
  replace ls := Nat.lt_of_lt_of_le ls hb.size
  have Z1 := Lib.hid (Z0.out.below hb)
  have B1 := Lib.hid (B0.out.trans (hb.mono B0.out.size))
  clear hb Z0 B0
  have hG1 : w.heap.size ≤ G + 1 := by have := HG.out; omega
  cases sb
  · have e : p = (0, []) := HPP.out.symm.trans (if_neg (by rw [HSB.out]; simp))
    subst e
    go_wp2
    refine bodyPost_ret (v := .agg #[.int .i64 0, .slice none 0 0]) (by simp [results, Try.results29, go_sem, r0, r1]) rfl ?_
    refine ⟨none, 0, rfl, World.ownsRow_nil _ _ _ _, ?_⟩
    repeat (first | exact B1.out | refine Below.setCell ?_ hG1 _)
  · have e : p = (now, keepL (min st now) zs) := HPP.out.symm.trans (if_pos HSB.out)
    obtain ⟨m, hm⟩ : ∃ m, min st now = m := ⟨_, rfl⟩
    rw [hm] at e
    subst e
    clear HPP
    go_wp2_with fail
    generalize hW : w1.alloc _ = W2
    have m0 : W2.cell? ⟨w1.heap.size, 0, none⟩ = some (.int .i64 m) := by rw [← hW]; simp [go_sem]
    have lm : w1.heap.size < W2.heap.size := by rw [← hW]; simp
    have hb : Below w1.heap.size w1 W2 := by rw [← hW]; exact (Below.refl _ _).alloc (Nat.le_refl _) _
    clear hW
    obtain ⟨M, hM⟩ : ∃ M, w1.heap.size = M := ⟨_, rfl⟩
    rw [hM] at m0 lm ⊢
    have hMG : G + 1 < M := by omega
    replace r0 := cellBelow hb ls r0
    replace r1 := cellBelow hb ls r1
    replace rf : ∀ o, W2.frozen? ⟨G + 1, o, none⟩ = false := fun o => ((bcell hb).2 _ o ls).trans (rf o)
    have Z2 := Lib.hid (Z1.out.below hb)
    have B2 := Lib.hid (B1.out.trans (hb.mono B1.out.size))
    clear hb Z1 B1 s0 s1 lG ls hM
    refine (copied_any A cap zs now W2 Z2.out HA.out (by omega)).mono ?_
    rintro e w3 ⟨A6, c6, rfl, ho, hb⟩
    obtain ⟨N, hN⟩ : ∃ N, W2.heap.size = N := ⟨_, rfl⟩
    rw [hN] at ho lm
    replace m0 := cellBelow hb (by omega) m0
    replace r0 := cellBelow hb (by omega) r0
    replace r1 := cellBelow hb (by omega) r1
    replace rf : ∀ o, w3.frozen? ⟨G + 1, o, none⟩ = false := fun o => ((bcell hb).2 _ o (by omega)).trans (rf o)
    have O3 := Lib.hid ho
    have hwN : w.heap.size ≤ N := by have := B2.out.size; omega
    have hN3 : N ≤ w3.heap.size := by have := hb.size; omega
    have B3 := Lib.hid (B2.out.trans (hb.mono B2.out.size))
    clear ho hb Z2 B2 hN
    go_wp2_with fail
    generalize hW : w3.alloc _ = W4
    have p0 : W4.cell? ⟨w3.heap.size, 0, none⟩ = some (.int .i64 now) := by rw [← hW]; simp [go_sem]
    have p1 : W4.cell? ⟨w3.heap.size, 1, none⟩ = some (.slice A6 zs.length c6) := by rw [← hW]; simp [go_sem]
    have pf : ∀ o, W4.frozen? ⟨w3.heap.size, o, none⟩ = false := fun o => by rw [← hW]; simp [go_sem]
    have lp : w3.heap.size < W4.heap.size := by rw [← hW]; simp
    have hb : Below w3.heap.size w3 W4 := by rw [← hW]; exact (Below.refl _ _).alloc (Nat.le_refl _) _
    clear hW
    replace m0 := cellBelow hb (by omega) m0
    replace r0 := cellBelow hb (by omega) r0
    replace r1 := cellBelow hb (by omega) r1
    replace rf : ∀ o, W4.frozen? ⟨G + 1, o, none⟩ = false := fun o => ((bcell hb).2 _ o (by omega)).trans (rf o)
    have hA6 := O3.out.lt
    have O4 := Lib.hid (ownsKeep O3.out hb)
    have B4 := Lib.hid (B3.out.trans (hb.mono B3.out.size))
    obtain ⟨P, hP⟩ : ∃ P, w3.heap.size = P := ⟨_, rfl⟩
    rw [hP] at p0 p1 pf lp hA6 ⊢
    have hNP : N ≤ P := by omega
    clear hb O3 B3 hP hN3
    refine (deleteVer_any A6 c6 zs M m N W4 O4.out m0 lm (by omega)).mono ?_
    rintro e w5 ⟨c7, rfl, ho, hg⟩
    have hnP : ∀ q, q < N ∨ q = P → some q ≠ (Value.slice A6 zs.length c6).ownBlock := fun q hq e => by have := hA6 q e.symm; omega
    have kept : ∀ q o v, q < N ∨ q = P → W4.cell? ⟨q, o, none⟩ = some v → w5.cell? ⟨q, o, none⟩ = some v := fun q o v hq hc =>
      (World.cell?_of_block (a := ⟨q, o, none⟩) (hg.block q (World.block_lt_of_cell? _ _ hc) (hnP q hq))).trans hc
    replace r0 := kept _ _ _ (.inl (by omega)) r0
    replace r1 := kept _ _ _ (.inl (by omega)) r1
    replace p0 := kept _ _ _ (.inr rfl) p0
    replace p1 := kept _ _ _ (.inr rfl) p1
    replace rf : ∀ o, w5.frozen? ⟨G + 1, o, none⟩ = false := fun o => (World.frozen?_of_block (a := ⟨G + 1, o, none⟩) (hg.block (G + 1) (by show G + 1 < _; omega) (hnP _ (.inl (by omega))))).trans (rf o)
    replace pf : ∀ o, w5.frozen? ⟨P, o, none⟩ = false := fun o => (World.frozen?_of_block (a := ⟨P, o, none⟩) (hg.block P lp (hnP _ (.inr rfl)))).trans (pf o)
    have O5 := Lib.hid ho
    have B5 := Lib.hid (B4.out.grown hg B4.out.size (fun k e => by have := (hA6 k e).1; omega))
    have hAP : ∀ k, (Value.slice A6 (keepL m zs).length c7).ownBlock = some k → N ≤ k ∧ k < P := fun k e => hA6 k (by cases A6 <;> first | exact e | (simp [Value.ownBlock] at e ⊢; exact e))
    have hn1 : P ≠ G + 1 := by omega
    have hn2 : G + 1 ≠ P := by omega
    have hP1 : w.heap.size ≤ P := by omega
    clear ho hg hnP kept O4 B4 hA6 m0
    go_wp2
    refine bodyPost_ret (v := .agg #[.int .i64 now, .slice A6 (keepL m zs).length c7]) (by simp [results, Try.results29, go_sem, r0, r1]) rfl ?_
    refine ⟨A6, c7, rfl, ?_, ?_⟩
    · refine ownsBase (base := N) ?_ hwN
      refine owns_set_farV (owns_set_farV ?_ (by omega)) (by omega)
      exact O5.out.kept (grown_setAtV _ _ _ _) (.inr fun e => by have := (hAP _ e).2; omega)
    · repeat (first | exact B5.out | refine Below.setCell ?_ hG1 _ | refine Below.setCell ?_ hP1 _)
end Go.Proofs.Ytacddgipcafdlaa
