/-
  Walk: a version copied by value.
-/
import Derived.Test.YtacddgipcafdlaaRowT
import Derived.Deep.Cut
import Derived.Deep.MidRow
import Derived.Test.YtacddgipcafdlaaStoreD
namespace Go.Proofs.Ytacddgipcafdlaa
open Go.RowKit

theorem set_far {w : World} {b b' o o' : Nat} {v u : Value} (h : w.cell? ⟨b', o', none⟩ = some u) (hn : b ≠ b' ∨ o ≠ o') : (w.setCell ⟨b, o, none⟩ v).cell? ⟨b', o', none⟩ = some u := by
  rw [World.cell?_setCell_other w ⟨b, o, none⟩ ⟨b', o', none⟩ v (fun e => by injection e with e1 e2 _; exact hn.elim (fun h => h e1) (fun h => h e2))]
  exact h
theorem set_near {w : World} {b o : Nat} {v u : Value} (h : w.cell? ⟨b, o, none⟩ = some u) : (w.setCell ⟨b, o, none⟩ v).cell? ⟨b, o, none⟩ = some v := World.cell?_setCell_same _ _ _ h
theorem range6 {w : World} {b : Nat} {v0 v1 v2 v3 v4 v5 : Value} (h0 : w.cell? ⟨b, 0, none⟩ = some v0) (h1 : w.cell? ⟨b, 1, none⟩ = some v1) (h2 : w.cell? ⟨b, 2, none⟩ = some v2) (h3 : w.cell? ⟨b, 3, none⟩ = some v3) (h4 : w.cell? ⟨b, 4, none⟩ = some v4) (h5 : w.cell? ⟨b, 5, none⟩ = some v5) : w.rangeAt b 0 [v0, v1, v2, v3, v4, v5] := fun j v hv => by
  rw [Nat.zero_add]
  match j, hv with
  | 0, hv => simp at hv; subst hv; exact h0
  | 1, hv => simp at hv; subst hv; exact h1
  | 2, hv => simp at hv; subst hv; exact h2
  | 3, hv => simp at hv; subst hv; exact h3
  | 4, hv => simp at hv; subst hv; exact h4
  | 5, hv => simp at hv; subst hv; exact h5
theorem there6 {w : World} {b : Nat} {v0 v1 v2 v3 v4 v5 : Value} (h : w.rangeAt b 0 [v0, v1, v2, v3, v4, v5]) (hf : ∀ o, w.frozen? ⟨b, o, none⟩ = false) : w.there b 0 6 := fun j hj => ⟨h.isSome j hj, hf _⟩
theorem below_setCells {w : World} {n b : Nat} (hb : n ≤ b) : ∀ (vs : List Value) (o : Nat) (w' : World), Below n w w' → Below n w (w'.setCells b o vs)
  | [], _, _, h => h
  | v :: r, o, w', h => by
    rw [World.setCells]
    exact below_setCells hb r (o + 1) _ (h.setCell (p := ⟨b, o, none⟩) hb v)

end Go.Proofs.Ytacddgipcafdlaa
namespace Go.Proofs.Ytacddgipcafdlaa
open Go.RowKit

set_option maxRecDepth 100000 in
set_option maxHeartbeats 4000000 in
theorem toVer_any (x : VerV) (w : World) :
    Calls Try.prog 108 #[.agg #[.string x.r.k, .string x.r.t, .int .i64 x.r.f, .int .i64 x.r.e, .int .i64 x.i, .int .i64 x.o]] w fun e w' => e = .returned (.agg #[.string x.r.k, .string x.r.t, .int .i64 x.r.f, .int .i64 x.r.e, .int .i64 x.i, .int .i64 x.o]) ∧ Below w.heap.size w w' := by
  go_enter Try.func108, Try.ntmps108
  go_wp2_with fail
  refine (toRow_any x.r _).mono ?_
  rintro e w1 ⟨rfl, hb⟩
  obtain ⟨hc, hf⟩ := bcell hb
  have e0 : w1.cell? ⟨w.heap.size + 1, 0, none⟩ = some (.string ⟨#[]⟩) := (hc _ _ (by simp)).trans (by simp [go_sem])
  have e1 : w1.cell? ⟨w.heap.size + 1, 1, none⟩ = some (.string ⟨#[]⟩) := (hc _ _ (by simp)).trans (by simp [go_sem])
  have e2 : w1.cell? ⟨w.heap.size + 1, 2, none⟩ = some (.int .i64 0) := (hc _ _ (by simp)).trans (by simp [go_sem])
  have e3 : w1.cell? ⟨w.heap.size + 1, 3, none⟩ = some (.int .i64 0) := (hc _ _ (by simp)).trans (by simp [go_sem])
  have e4 : w1.cell? ⟨w.heap.size + 1, 4, none⟩ = some (.int .i64 0) := (hc _ _ (by simp)).trans (by simp [go_sem])
  have e5 : w1.cell? ⟨w.heap.size + 1, 5, none⟩ = some (.int .i64 0) := (hc _ _ (by simp)).trans (by simp [go_sem])
  have f0 : w1.cell? ⟨w.heap.size + 1 + 1, 0, none⟩ = some (.string ⟨#[]⟩) := (hc _ _ (by simp)).trans (by simp [go_sem])
  have f1 : w1.cell? ⟨w.heap.size + 1 + 1, 1, none⟩ = some (.string ⟨#[]⟩) := (hc _ _ (by simp)).trans (by simp [go_sem])
  have f2 : w1.cell? ⟨w.heap.size + 1 + 1, 2, none⟩ = some (.int .i64 0) := (hc _ _ (by simp)).trans (by simp [go_sem])
  have f3 : w1.cell? ⟨w.heap.size + 1 + 1, 3, none⟩ = some (.int .i64 0) := (hc _ _ (by simp)).trans (by simp [go_sem])
  have f4 : w1.cell? ⟨w.heap.size + 1 + 1, 4, none⟩ = some (.int .i64 0) := (hc _ _ (by simp)).trans (by simp [go_sem])
  have f5 : w1.cell? ⟨w.heap.size + 1 + 1, 5, none⟩ = some (.int .i64 0) := (hc _ _ (by simp)).trans (by simp [go_sem])
  have a4 : w1.cell? ⟨w.heap.size, 4, none⟩ = some (.int .i64 x.i) := (hc _ _ (by simp; omega)).trans (by simp [go_sem])
  have a5 : w1.cell? ⟨w.heap.size, 5, none⟩ = some (.int .i64 x.o) := (hc _ _ (by simp; omega)).trans (by simp [go_sem])
  have g0 : ∀ o, w1.frozen? ⟨w.heap.size + 1, o, none⟩ = false := fun o => (hf _ _ (by simp)).trans (by simp [go_sem])
  have g1 : ∀ o, w1.frozen? ⟨w.heap.size + 1 + 1, o, none⟩ = false := fun o => (hf _ _ (by simp)).trans (by simp [go_sem])
  have HB := Lib.hid (show Below w.heap.size w w1 from (by
    refine Below.trans ?_ (hb.mono (by simp; omega))
    repeat (first | exact Below.refl _ _ | refine Below.setCell ?_ (by simp; try omega) _ | refine Below.alloc ?_ (by simp; try omega) _)))
  obtain ⟨G1, hG1⟩ : ∃ G, w.heap.size + 1 = G := ⟨_, rfl⟩
  obtain ⟨G2, hG2⟩ : ∃ G, G1 + 1 = G := ⟨_, rfl⟩
  have hn1 : G1 ≠ G2 := by omega
  have hn2 : G2 ≠ G1 := by omega
  have hn3 : G2 ≠ w.heap.size := by omega
  have hw1 : w.heap.size ≤ G1 := by omega
  have hw2 : w.heap.size ≤ G2 := by omega
  rw [hG1] at e0 e1 e2 e3 e4 e5 g0 ⊢
  rw [hG1, hG2] at f0 f1 f2 f3 f4 f5 g1
  rw [hG2]
  clear hb hc hf hG1 hG2
  go_upto_region 5 with fail
  obtain ⟨W, hW⟩ : ∃ W, ((((((w1.setCell ⟨G2, 0, none⟩ (.string x.r.k)).setCell ⟨G2, 1, none⟩ (.string x.r.t)).setCell ⟨G2, 2, none⟩ (.int .i64 x.r.f)).setCell ⟨G2, 3, none⟩ (.int .i64 x.r.e)).setCell ⟨G2, 4, none⟩ (.int .i64 x.i)).setCell ⟨G2, 5, none⟩ (.int .i64 x.o)) = W := ⟨_, rfl⟩
  have K0 : W.cell? ⟨G2, 0, none⟩ = some (.string x.r.k) := by rw [← hW]; exact (set_far (set_far (set_far (set_far (set_far (set_near f0) (.inr (by decide))) (.inr (by decide))) (.inr (by decide))) (.inr (by decide))) (.inr (by decide)))
  have K1 : W.cell? ⟨G2, 1, none⟩ = some (.string x.r.t) := by rw [← hW]; exact (set_far (set_far (set_far (set_far (set_near (set_far f1 (.inr (by decide)))) (.inr (by decide))) (.inr (by decide))) (.inr (by decide))) (.inr (by decide)))
  have K2 : W.cell? ⟨G2, 2, none⟩ = some (.int .i64 x.r.f) := by rw [← hW]; exact (set_far (set_far (set_far (set_near (set_far (set_far f2 (.inr (by decide))) (.inr (by decide)))) (.inr (by decide))) (.inr (by decide))) (.inr (by decide)))
  have K3 : W.cell? ⟨G2, 3, none⟩ = some (.int .i64 x.r.e) := by rw [← hW]; exact (set_far (set_far (set_near (set_far (set_far (set_far f3 (.inr (by decide))) (.inr (by decide))) (.inr (by decide)))) (.inr (by decide))) (.inr (by decide)))
  have K4 : W.cell? ⟨G2, 4, none⟩ = some (.int .i64 x.i) := by rw [← hW]; exact (set_far (set_near (set_far (set_far (set_far (set_far f4 (.inr (by decide))) (.inr (by decide))) (.inr (by decide))) (.inr (by decide)))) (.inr (by decide)))
  have K5 : W.cell? ⟨G2, 5, none⟩ = some (.int .i64 x.o) := by rw [← hW]; exact (set_near (set_far (set_far (set_far (set_far (set_far f5 (.inr (by decide))) (.inr (by decide))) (.inr (by decide))) (.inr (by decide))) (.inr (by decide))))
  have Q0 : W.cell? ⟨G1, 0, none⟩ = some (.string ⟨#[]⟩) := by rw [← hW]; exact (set_far (set_far (set_far (set_far (set_far (set_far e0 (.inl hn2)) (.inl hn2)) (.inl hn2)) (.inl hn2)) (.inl hn2)) (.inl hn2))
  have Q1 : W.cell? ⟨G1, 1, none⟩ = some (.string ⟨#[]⟩) := by rw [← hW]; exact (set_far (set_far (set_far (set_far (set_far (set_far e1 (.inl hn2)) (.inl hn2)) (.inl hn2)) (.inl hn2)) (.inl hn2)) (.inl hn2))
  have Q2 : W.cell? ⟨G1, 2, none⟩ = some (.int .i64 0) := by rw [← hW]; exact (set_far (set_far (set_far (set_far (set_far (set_far e2 (.inl hn2)) (.inl hn2)) (.inl hn2)) (.inl hn2)) (.inl hn2)) (.inl hn2))
  have Q3 : W.cell? ⟨G1, 3, none⟩ = some (.int .i64 0) := by rw [← hW]; exact (set_far (set_far (set_far (set_far (set_far (set_far e3 (.inl hn2)) (.inl hn2)) (.inl hn2)) (.inl hn2)) (.inl hn2)) (.inl hn2))
  have Q4 : W.cell? ⟨G1, 4, none⟩ = some (.int .i64 0) := by rw [← hW]; exact (set_far (set_far (set_far (set_far (set_far (set_far e4 (.inl hn2)) (.inl hn2)) (.inl hn2)) (.inl hn2)) (.inl hn2)) (.inl hn2))
  have Q5 : W.cell? ⟨G1, 5, none⟩ = some (.int .i64 0) := by rw [← hW]; exact (set_far (set_far (set_far (set_far (set_far (set_far e5 (.inl hn2)) (.inl hn2)) (.inl hn2)) (.inl hn2)) (.inl hn2)) (.inl hn2))
  have F0 : ∀ o, W.frozen? ⟨G1, o, none⟩ = false := fun o => by rw [← hW, World.frozen?_setCell, World.frozen?_setCell, World.frozen?_setCell, World.frozen?_setCell, World.frozen?_setCell, World.frozen?_setCell]; exact g0 o
  have HW := Lib.hid (show Below w.heap.size w W from by rw [← hW]; repeat (first | exact HB.out | refine Below.setCell ?_ hw2 _))
  rw [hW]
  have RK := Lib.hid (range6 K0 K1 K2 K3 K4 K5)
  have TQ := Lib.hid (there6 (range6 Q0 Q1 Q2 Q3 Q4 Q5) F0)
  clear hW e0 e1 e2 e3 e4 e5 f0 f1 f2 f3 f4 f5 a4 a5 g0 g1 HB K0 K1 K2 K3 K4 K5 Q0 Q1 Q2 Q3 Q4 Q5 F0
  refine wp_region_lit ?_
  refine wpList_load_mid rfl 74 _ rfl G2 0 rfl [.string x.r.k, .string x.r.t, .int .i64 x.r.f, .int .i64 x.r.e, .int .i64 x.i, .int .i64 x.o] _ RK.out Try.underlying74 rfl (by kernel_rfl) ?_
  refine wpList_store_mid rfl 74 _ _ rfl G1 0 #[.string x.r.k, .string x.r.t, .int .i64 x.r.f, .int .i64 x.r.e, .int .i64 x.i, .int .i64 x.o] rfl rfl TQ.out (by kernel_rfl) (all_oneCell_toArray (cs := verC x) (verC_one x)) ?_
  refine wpList_nil ?_
  have RS := World.rangeAt_setCells_same W G1 0 [.string x.r.k, .string x.r.t, .int .i64 x.r.f, .int .i64 x.r.e, .int .i64 x.i, .int .i64 x.o] TQ.out
  have HZ := Lib.hid (below_setCells hw1 [.string x.r.k, .string x.r.t, .int .i64 x.r.f, .int .i64 x.r.e, .int .i64 x.i, .int .i64 x.o] 0 W HW.out)
  show Exit.then _ _ _ _ (W.setCells G1 0 [.string x.r.k, .string x.r.t, .int .i64 x.r.f, .int .i64 x.r.e, .int .i64 x.i, .int .i64 x.o])
  obtain ⟨Z, hZ⟩ : ∃ Z, W.setCells G1 0 [.string x.r.k, .string x.r.t, .int .i64 x.r.f, .int .i64 x.r.e, .int .i64 x.i, .int .i64 x.o] = Z := ⟨_, rfl⟩
  rw [hZ] at RS HZ ⊢
  clear hZ RK TQ HW
  have Q0 : Z.cell? ⟨G1, 0, none⟩ = some (.string x.r.k) := by simpa using RS 0 _ rfl
  have Q1 : Z.cell? ⟨G1, 1, none⟩ = some (.string x.r.t) := by simpa using RS 1 _ rfl
  have Q2 : Z.cell? ⟨G1, 2, none⟩ = some (.int .i64 x.r.f) := by simpa using RS 2 _ rfl
  have Q3 : Z.cell? ⟨G1, 3, none⟩ = some (.int .i64 x.r.e) := by simpa using RS 3 _ rfl
  have Q4 : Z.cell? ⟨G1, 4, none⟩ = some (.int .i64 x.i) := by simpa using RS 4 _ rfl
  have Q5 : Z.cell? ⟨G1, 5, none⟩ = some (.int .i64 x.o) := by simpa using RS 5 _ rfl
  clear RS
  go_wp2
  exact bodyPost_ret (v := .agg #[.string x.r.k, .string x.r.t, .int .i64 x.r.f, .int .i64 x.r.e, .int .i64 x.i, .int .i64 x.o]) (by simp [results, Try.results108, go_sem, Q0, Q1, Q2, Q3, Q4, Q5]) rfl ⟨rfl, HZ.out⟩
end Go.Proofs.Ytacddgipcafdlaa
