/-
  Walks: stores by value: sizes, copies, equality.
-/
import Derived.Test.YtacddgipcafdlaaStoreW
namespace Go.Proofs.Ytacddgipcafdlaa
open Go.RowKit Go.Lib

set_option maxHeartbeats 1000000 in
theorem szStore_any (A : Option Addr) (cap : Nat) (zs : List VerV) (now left : Int) (w : World) (h0 : 0 ≤ left) (h1 : left ≤ 1048576) (hz : VersA w A zs) (hn : zs.length ≤ maxLen) (hs : ShortV zs) :
    Calls Try.prog 24 #[.agg #[.int .i64 now, .slice A zs.length cap], .int .i64 left] w (SzPost left zs.length w) := by
  have HZ := Lib.hid hz
  have HS := Lib.hid hs
  clear hz hs
  go_enter Try.func24, Try.ntmps24
  go_wp2_with fail
  refine (szVerS_any A cap zs left _ h0 h1 (HZ.out.below ((Below.refl _ _).alloc (Nat.le_refl _) _)) hn HS.out).mono ?_
  rintro e w1 ⟨v, rfl, hv, hb⟩
  have B1 := Lib.hid (((Below.refl _ _).alloc (Nat.le_refl _) _).trans (hb.mono (by simp)))
  clear hb
  rcases hv with rfl | ⟨hv0, hv1, hv2⟩
  · go_wp2
    go_ret
    exact ⟨-1, rfl, .inl rfl, B1.out⟩
  · go_wp2
    go_ret
    exact ⟨v, rfl, .inr ⟨hv0, hv1, hv2⟩, B1.out⟩

/-- A store by value whose versions lie in new memory. -/
def GetsS (w : World) (now : Int) (zs : List VerV) (e : Ending) (w' : World) : Prop :=
  ∃ (A : Option Addr) (cap : Nat), e = .returned (.agg #[.int .i64 now, .slice A zs.length cap]) ∧ w'.ownsRow w.heap.size 74 6 (.slice A zs.length cap) zs.length (flatOf verC zs) ∧ Below w.heap.size w w'
theorem grown_setAtV (w : World) (g i : Nat) (u : Value) : w.grownBy (w.setCell ⟨g, i, none⟩ u) (some g) :=
  ⟨rfl, rfl, rfl, by simp [World.setCell], fun j _ hne => Below.heap_setCell _ _ _ _ (by show j ≠ g; intro e; exact hne (by rw [e]))⟩
theorem owns_set_farV {w : World} {base n g i : Nat} {v u : Value} {xs : List Value} {t : TypeId} {k : Nat} (h : w.ownsRow base t k v n xs) (hg : g < base) : (w.setCell ⟨g, i, none⟩ u).ownsRow base t k v n xs :=
  h.kept (grown_setAtV w g i u) (.inr fun e => by have := (h.lt g e).1; omega)

set_option maxRecDepth 100000 in
set_option maxHeartbeats 2000000 in
theorem toStore_any (A : Option Addr) (cap : Nat) (zs : List VerV) (now : Int) (w : World) (hz : VersA w A zs) (hl : zs.length ≤ 1048577) :
    Calls Try.prog 26 #[.agg #[.int .i64 now, .slice A zs.length cap]] w (GetsS w now zs) := by
  have HZ := Lib.hid hz
  clear hz
  go_enter Try.func26, Try.ntmps26
  go_wp2_with fail
  generalize hW : ((w.alloc _).alloc _).alloc _ = W0
  have hB : Below w.heap.size w W0 := by
    rw [← hW]
    repeat (first | exact Below.refl _ _ | refine Below.setCell ?_ (by simp; try omega) _ | refine Below.alloc ?_ (by simp; try omega) _)
  have e0 : W0.cell? ⟨w.heap.size + 1, 0, none⟩ = some (.int .i64 0) := by rw [← hW]; simp [go_sem]
  have e1 : W0.cell? ⟨w.heap.size + 1, 1, none⟩ = some (.slice none 0 0) := by rw [← hW]; simp [go_sem]
  have f0 : W0.cell? ⟨w.heap.size + 1 + 1, 0, none⟩ = some (.int .i64 now) := by rw [← hW]; simp [go_sem]
  have f1 : W0.cell? ⟨w.heap.size + 1 + 1, 1, none⟩ = some (.slice none 0 0) := by rw [← hW]; simp [go_sem]
  have ge : ∀ o, W0.frozen? ⟨w.heap.size + 1, o, none⟩ = false := fun o => by rw [← hW]; simp [go_sem]
  have gf : ∀ o, W0.frozen? ⟨w.heap.size + 1 + 1, o, none⟩ = false := fun o => by rw [← hW]; simp [go_sem]
  have hs0 : w.heap.size + 1 + 1 < W0.heap.size := by rw [← hW]; simp
  clear hW
  refine (toVerS_any A cap zs _ (HZ.out.below hB) hl).mono ?_
  rintro e w1 ⟨A1, c1, rfl, ho, hb⟩
  obtain ⟨hc, hf⟩ := bcell hb
  replace e0 := (hc _ _ (by omega)).trans e0
  replace e1 := (hc _ _ (by omega)).trans e1
  replace f0 := (hc _ _ hs0).trans f0
  replace f1 := (hc _ _ hs0).trans f1
  replace ge : ∀ o, w1.frozen? ⟨w.heap.size + 1, o, none⟩ = false := fun o => (hf _ _ (by omega)).trans (ge o)
  replace gf : ∀ o, w1.frozen? ⟨w.heap.size + 1 + 1, o, none⟩ = false := fun o => (hf _ _ hs0).trans (gf o)
  have O1 := Lib.hid ho
  have B1 := Lib.hid (hB.trans (hb.mono hB.size))
  have hw0 : w.heap.size ≤ W0.heap.size := hB.size
  obtain ⟨G1, hG1⟩ : ∃ G, w.heap.size + 1 = G := ⟨_, rfl⟩
  obtain ⟨G2, hG2⟩ : ∃ G, G1 + 1 = G := ⟨_, rfl⟩
  have hn1 : G1 ≠ G2 := by omega
  have hn2 : G2 ≠ G1 := by omega
  have hl1 : G1 < W0.heap.size := by omega
  have hl2 : G2 < W0.heap.size := by omega
  have hw1 : w.heap.size ≤ G1 := by omega
  have hw2 : w.heap.size ≤ G2 := by omega
  rw [hG1] at e0 e1 ge ⊢
  rw [hG1, hG2] at f0 f1 gf
  rw [hG2]
  clear hb hc hf hG1 hG2 ho hB hs0
  go_wp2
  refine bodyPost_ret (v := .agg #[.int .i64 now, .slice A1 zs.length c1]) (by simp [results, Try.results26, go_sem, e0, e1]) rfl ?_
  refine ⟨A1, c1, rfl, ?_, ?_⟩
  · refine ownsBase (base := W0.heap.size) ?_ hw0
    repeat (first | exact O1.out | refine owns_set_farV ?_ hl1 | refine owns_set_farV ?_ hl2)
  · repeat (first | exact B1.out | refine Below.setCell ?_ hw1 _ | refine Below.setCell ?_ hw2 _)

set_option maxHeartbeats 1000000 in
theorem eqStore_same (A B : Option Addr) (cap cap' : Nat) (zs : List VerV) (now : Int) (w : World) (hz : VersA w A zs) (hz' : VersA w B zs) (hl : zs.length ≤ maxLen) :
    Calls Try.prog 19 #[.agg #[.int .i64 now, .slice A zs.length cap], .agg #[.int .i64 now, .slice B zs.length cap']] w fun e w' => e = .returned (.bool true) ∧ Below w.heap.size w w' := by
  have HZ := Lib.hid hz
  have HZ' := Lib.hid hz'
  clear hz hz'
  go_enter Try.func19, Try.ntmps19
  go_wp2_with fail
  generalize hW : (w.alloc _).alloc _ = W0
  have hB : Below w.heap.size w W0 := by rw [← hW]; exact ((Below.refl _ _).alloc (Nat.le_refl _) _).alloc (by simp) _
  clear hW
  refine (eqVerS_same A B cap cap' zs _ (HZ.out.below hB) (HZ'.out.below hB) hl).mono ?_
  rintro e w1 ⟨rfl, hb⟩
  have B1 := Lib.hid (hB.trans (hb.mono hB.size))
  clear hb hB
  go_wp2
  go_ret
  exact ⟨rfl, B1.out⟩
theorem owns_addrV {w : World} {base n k cap : Nat} {A : Option Addr} {t : TypeId} {xs : List Value} (h : w.ownsRow base t k (.slice A n cap) n xs) : A = none ∨ ∃ b off, A = some ⟨b, off, none⟩ := by
  rcases h.2 with ⟨e0, _⟩ | ⟨g, c, cur, e0, _⟩
  · injection e0 with e0; exact .inl e0
  · injection e0 with e0; exact .inr ⟨g, 0, e0⟩
end Go.Proofs.Ytacddgipcafdlaa
