/-
  Walks: nodes by value and in slices: sizes, copies, equality; stores.
-/
import Derived.Test.YtphinkcfmdnpfaaRowD
import Derived.Test.YtphinkcfmdnpfaaOpT
import Derived.Test.YtphinkcfmdnpfaaRowS
import Derived.Test.YtphinkcfmdnpfaaOpW
namespace Go.Proofs.Ytphinkcfmdnpfaa
open Go.RowKit

/-- A node: a row, from which stamp on, and ahead of which. -/
structure NodV where
  r : RowV
  i : Int
  o : Int
def nodC (x : NodV) : List Value := [.string x.r.k, .string x.r.t, .int .i64 x.r.f, .int .i64 x.r.e, .int .i64 x.i, .int .i64 x.o]
def nod0 : NodV := ⟨row0, 0, 0⟩
theorem nodC_len (x : NodV) : (nodC x).length = 6 := rfl
theorem nodC_one (x : NodV) : ∀ v ∈ nodC x, v.oneCell' = true := by intro v h; simp [nodC] at h; rcases h with rfl | rfl | rfl | rfl | rfl | rfl <;> rfl
/-- The slice holds these nodes. -/
def NodsA (w : World) (A : Option Addr) (zs : List NodV) : Prop := ElAt nodC 6 w A zs
theorem NodsA.below {w w' : World} {A : Option Addr} {l : List NodV} (h : NodsA w A l) (hb : Below w.heap.size w w') : NodsA w' A l := ElAt.below h hb
theorem NodsA.at_ {w : World} {A : Option Addr} {l : List NodV} (h : NodsA w A l) {i : Nat} (hi : i < l.length) : ∃ b off x, A = some ⟨b, off, none⟩ ∧ b < w.heap.size ∧ l[i]? = some x ∧ w.cell? ⟨b, off + i * 6, none⟩ = some (.string x.r.k) ∧ w.cell? ⟨b, off + i * 6 + 1, none⟩ = some (.string x.r.t) ∧ w.cell? ⟨b, off + i * 6 + 2, none⟩ = some (.int .i64 x.r.f) ∧ w.cell? ⟨b, off + i * 6 + 3, none⟩ = some (.int .i64 x.r.e) ∧ w.cell? ⟨b, off + i * 6 + 4, none⟩ = some (.int .i64 x.i) ∧ w.cell? ⟨b, off + i * 6 + 5, none⟩ = some (.int .i64 x.o) := by
  obtain ⟨b, off, e, hlt, hc⟩ := h (by omega)
  have hx : l[i]? = some l[i] := List.getElem?_eq_getElem hi
  exact ⟨b, off, _, e, hlt, hx, hc i _ hx 0 _ rfl, hc i _ hx 1 _ rfl, hc i _ hx 2 _ rfl, hc i _ hx 3 _ rfl, hc i _ hx 4 _ rfl, hc i _ hx 5 _ rfl⟩
/-- Texts that are not too long. -/
def ShortN (zs : List NodV) : Prop := ∀ x ∈ zs, x.r.k.size ≤ maxLen ∧ x.r.t.size ≤ maxLen
end Go.Proofs.Ytphinkcfmdnpfaa
namespace Go.Proofs.Ytphinkcfmdnpfaa
open Go.RowKit

set_option maxRecDepth 100000 in
set_option maxHeartbeats 4000000 in
theorem toNode_any (x : NodV) (w : World) :
    Calls Try.prog 95 #[.agg #[.string x.r.k, .string x.r.t, .int .i64 x.r.f, .int .i64 x.r.e, .int .i64 x.i, .int .i64 x.o]] w fun e w' => e = .returned (.agg #[.string x.r.k, .string x.r.t, .int .i64 x.r.f, .int .i64 x.r.e, .int .i64 x.i, .int .i64 x.o]) ∧ Below w.heap.size w w' := by
  go_enter Try.func95, Try.ntmps95
  go_wp2_with fail
  refine (toRow_any x.r _).mono ?_
  rintro e w1 ⟨rfl, hb⟩
  obtain ⟨hc, hf⟩ := bcell hb
  have e0 : w1.cell? ⟨w.heap.size + 1, 0, none⟩ = some (.string ⟨#[]⟩) := (hc _ _ (by simp)).trans (by simp [go_sem])
  have e1 : w1.cell? ⟨w.heap.size + 1, 1, none⟩ = some (.string ⟨#[]⟩) := (hc _ _ (by simp)).trans (by simp [go_sem])
  have e2 : w1.cell? ⟨w.heap.size + 1, 2, none⟩ = some (.int .i64 0) := (hc _ _ (by simp)).trans (by simp [go_sem])
  have e3 : w1.cell? ⟨w.heap.size + 1, 3, none⟩ = some (.int .i64 0) := (hc _ _ (by simp)).trans (by simp [go_sem])
  have e4 : w1.cell? ⟨w.heap.size + 1, 4, none⟩ = some (.int .i64 0) := (hc _ _ (by simp)).trans (by simp [go_sem])
  have e5 : w1.cell? ⟨w.heap.size + 1, 5, none⟩ = some (.int .i64 0) := (hc _ _ (by simp)).trans (by simp [go_sem])
  have f0 : w1.cell? ⟨w.heap.size + 1 + 1, 0, none⟩ = some (.string ⟨#[]⟩) := (hc _ _ (by simp)).trans (by simp [go_sem])
  have f1 : w1.cell? ⟨w.heap.size + 1 + 1, 1, none⟩ = some (.string ⟨#[]⟩) := (hc _ _ (by simp)).trans (by simp [go_sem])
  have f2 : w1.cell? ⟨w.heap.size + 1 + 1, 2, none⟩ = some (.int .i64 0) := (hc _ _ (by simp)).trans (by simp [go_sem])
  have f3 : w1.cell? ⟨w.heap.size + 1 + 1, 3, none⟩ = some (.int .i64 0) := (hc _ _ (by simp)).trans (by simp [go_sem])
  have f4 : w1.cell? ⟨w.heap.size + 1 + 1, 4, none⟩ = some (.int .i64 0) := (hc _ _ (by simp)).trans (by simp [go_sem])
  have f5 : w1.cell? ⟨w.heap.size + 1 + 1, 5, none⟩ = some (.int .i64 0) := (hc _ _ (by simp)).trans (by simp [go_sem])
  have a4 : w1.cell? ⟨w.heap.size, 4, none⟩ = some (.int .i64 x.i) := (hc _ _ (by simp; omega)).trans (by simp [go_sem])
  have a5 : w1.cell? ⟨w.heap.size, 5, none⟩ = some (.int .i64 x.o) := (hc _ _ (by simp; omega)).trans (by simp [go_sem])
  have g0 : ∀ o, w1.frozen? ⟨w.heap.size + 1, o, none⟩ = false := fun o => (hf _ _ (by simp)).trans (by simp [go_sem])
  have g1 : ∀ o, w1.frozen? ⟨w.heap.size + 1 + 1, o, none⟩ = false := fun o => (hf _ _ (by simp)).trans (by simp [go_sem])
  have HB := Lib.hid (show Below w.heap.size w w1 from (by
    refine Below.trans ?_ (hb.mono (by simp; omega))
    repeat (first | exact Below.refl _ _ | refine Below.setCell ?_ (by simp; try omega) _ | refine Below.alloc ?_ (by simp; try omega) _)))
  obtain ⟨G1, hG1⟩ : ∃ G, w.heap.size + 1 = G := ⟨_, rfl⟩
  obtain ⟨G2, hG2⟩ : ∃ G, G1 + 1 = G := ⟨_, rfl⟩
  have hn1 : G1 ≠ G2 := by omega
  have hn2 : G2 ≠ G1 := by omega
  have hn3 : G2 ≠ w.heap.size := by omega
  have hw1 : w.heap.size ≤ G1 := by omega
  have hw2 : w.heap.size ≤ G2 := by omega
  rw [hG1] at e0 e1 e2 e3 e4 e5 g0 ⊢
  rw [hG1, hG2] at f0 f1 f2 f3 f4 f5 g1
  rw [hG2]
  clear hb hc hf hG1 hG2
  go_upto_region 5 with fail
  obtain ⟨W, hW⟩ : ∃ W, ((((((w1.setCell ⟨G2, 0, none⟩ (.string x.r.k)).setCell ⟨G2, 1, none⟩ (.string x.r.t)).setCell ⟨G2, 2, none⟩ (.int .i64 x.r.f)).setCell ⟨G2, 3, none⟩ (.int .i64 x.r.e)).setCell ⟨G2, 4, none⟩ (.int .i64 x.i)).setCell ⟨G2, 5, none⟩ (.int .i64 x.o)) = W := ⟨_, rfl⟩
  have K0 : W.cell? ⟨G2, 0, none⟩ = some (.string x.r.k) := by rw [← hW]; exact (set_far (set_far (set_far (set_far (set_far (set_near f0) (.inr (by decide))) (.inr (by decide))) (.inr (by decide))) (.inr (by decide))) (.inr (by decide)))
  have K1 : W.cell? ⟨G2, 1, none⟩ = some (.string x.r.t) := by rw [← hW]; exact (set_far (set_far (set_far (set_far (set_near (set_far f1 (.inr (by decide)))) (.inr (by decide))) (.inr (by decide))) (.inr (by decide))) (.inr (by decide)))
  have K2 : W.cell? ⟨G2, 2, none⟩ = some (.int .i64 x.r.f) := by rw [← hW]; exact (set_far (set_far (set_far (set_near (set_far (set_far f2 (.inr (by decide))) (.inr (by decide)))) (.inr (by decide))) (.inr (by decide))) (.inr (by decide)))
  have K3 : W.cell? ⟨G2, 3, none⟩ = some (.int .i64 x.r.e) := by rw [← hW]; exact (set_far (set_far (set_near (set_far (set_far (set_far f3 (.inr (by decide))) (.inr (by decide))) (.inr (by decide)))) (.inr (by decide))) (.inr (by decide)))
  have K4 : W.cell? ⟨G2, 4, none⟩ = some (.int .i64 x.i) := by rw [← hW]; exact (set_far (set_near (set_far (set_far (set_far (set_far f4 (.inr (by decide))) (.inr (by decide))) (.inr (by decide))) (.inr (by decide)))) (.inr (by decide)))
  have K5 : W.cell? ⟨G2, 5, none⟩ = some (.int .i64 x.o) := by rw [← hW]; exact (set_near (set_far (set_far (set_far (set_far (set_far f5 (.inr (by decide))) (.inr (by decide))) (.inr (by decide))) (.inr (by decide))) (.inr (by decide))))
  have Q0 : W.cell? ⟨G1, 0, none⟩ = some (.string ⟨#[]⟩) := by rw [← hW]; exact (set_far (set_far (set_far (set_far (set_far (set_far e0 (.inl hn2)) (.inl hn2)) (.inl hn2)) (.inl hn2)) (.inl hn2)) (.inl hn2))
  have Q1 : W.cell? ⟨G1, 1, none⟩ = some (.string ⟨#[]⟩) := by rw [← hW]; exact (set_far (set_far (set_far (set_far (set_far (set_far e1 (.inl hn2)) (.inl hn2)) (.inl hn2)) (.inl hn2)) (.inl hn2)) (.inl hn2))
  have Q2 : W.cell? ⟨G1, 2, none⟩ = some (.int .i64 0) := by rw [← hW]; exact (set_far (set_far (set_far (set_far (set_far (set_far e2 (.inl hn2)) (.inl hn2)) (.inl hn2)) (.inl hn2)) (.inl hn2)) (.inl hn2))
  have Q3 : W.cell? ⟨G1, 3, none⟩ = some (.int .i64 0) := by rw [← hW]; exact (set_far (set_far (set_far (set_far (set_far (set_far e3 (.inl hn2)) (.inl hn2)) (.inl hn2)) (.inl hn2)) (.inl hn2)) (.inl hn2))
  have Q4 : W.cell? ⟨G1, 4, none⟩ = some (.int .i64 0) := by rw [← hW]; exact (set_far (set_far (set_far (set_far (set_far (set_far e4 (.inl hn2)) (.inl hn2)) (.inl hn2)) (.inl hn2)) (.inl hn2)) (.inl hn2))
  have Q5 : W.cell? ⟨G1, 5, none⟩ = some (.int .i64 0) := by rw [← hW]; exact (set_far (set_far (set_far (set_far (set_far (set_far e5 (.inl hn2)) (.inl hn2)) (.inl hn2)) (.inl hn2)) (.inl hn2)) (.inl hn2))
  have F0 : ∀ o, W.frozen? ⟨G1, o, none⟩ = false := fun o => by rw [← hW, World.frozen?_setCell, World.frozen?_setCell, World.frozen?_setCell, World.frozen?_setCell, World.frozen?_setCell, World.frozen?_setCell]; exact g0 o
  have HW := Lib.hid (show Below w.heap.size w W from by rw [← hW]; repeat (first | exact HB.out | refine Below.setCell ?_ hw2 _))
  rw [hW]
  have RK := Lib.hid (range6 K0 K1 K2 K3 K4 K5)
  have TQ := Lib.hid (there6 (range6 Q0 Q1 Q2 Q3 Q4 Q5) F0)
  clear hW e0 e1 e2 e3 e4 e5 f0 f1 f2 f3 f4 f5 a4 a5 g0 g1 HB K0 K1 K2 K3 K4 K5 Q0 Q1 Q2 Q3 Q4 Q5 F0
  refine wp_region_lit ?_
  refine wpList_load_mid rfl 72 _ rfl G2 0 rfl [.string x.r.k, .string x.r.t, .int .i64 x.r.f, .int .i64 x.r.e, .int .i64 x.i, .int .i64 x.o] _ RK.out Try.underlying72 rfl (by kernel_rfl) ?_
  refine wpList_store_mid rfl 72 _ _ rfl G1 0 #[.string x.r.k, .string x.r.t, .int .i64 x.r.f, .int .i64 x.r.e, .int .i64 x.i, .int .i64 x.o] rfl rfl TQ.out (by kernel_rfl) (all_oneCell_toArray (cs := nodC x) (nodC_one x)) ?_
  refine wpList_nil ?_
  have RS := World.rangeAt_setCells_same W G1 0 [.string x.r.k, .string x.r.t, .int .i64 x.r.f, .int .i64 x.r.e, .int .i64 x.i, .int .i64 x.o] TQ.out
  have HZ := Lib.hid (below_setCells hw1 [.string x.r.k, .string x.r.t, .int .i64 x.r.f, .int .i64 x.r.e, .int .i64 x.i, .int .i64 x.o] 0 W HW.out)
  show Exit.then _ _ _ _ (W.setCells G1 0 [.string x.r.k, .string x.r.t, .int .i64 x.r.f, .int .i64 x.r.e, .int .i64 x.i, .int .i64 x.o])
  obtain ⟨Z, hZ⟩ : ∃ Z, W.setCells G1 0 [.string x.r.k, .string x.r.t, .int .i64 x.r.f, .int .i64 x.r.e, .int .i64 x.i, .int .i64 x.o] = Z := ⟨_, rfl⟩
  rw [hZ] at RS HZ ⊢
  clear hZ RK TQ HW
  have Q0 : Z.cell? ⟨G1, 0, none⟩ = some (.string x.r.k) := by simpa using RS 0 _ rfl
  have Q1 : Z.cell? ⟨G1, 1, none⟩ = some (.string x.r.t) := by simpa using RS 1 _ rfl
  have Q2 : Z.cell? ⟨G1, 2, none⟩ = some (.int .i64 x.r.f) := by simpa using RS 2 _ rfl
  have Q3 : Z.cell? ⟨G1, 3, none⟩ = some (.int .i64 x.r.e) := by simpa using RS 3 _ rfl
  have Q4 : Z.cell? ⟨G1, 4, none⟩ = some (.int .i64 x.i) := by simpa using RS 4 _ rfl
  have Q5 : Z.cell? ⟨G1, 5, none⟩ = some (.int .i64 x.o) := by simpa using RS 5 _ rfl
  clear RS
  go_wp2
  exact bodyPost_ret (v := .agg #[.string x.r.k, .string x.r.t, .int .i64 x.r.f, .int .i64 x.r.e, .int .i64 x.i, .int .i64 x.o]) (by simp [results, Try.results95, go_sem, Q0, Q1, Q2, Q3, Q4, Q5]) rfl ⟨rfl, HZ.out⟩
end Go.Proofs.Ytphinkcfmdnpfaa
namespace Go.Proofs.Ytphinkcfmdnpfaa
open Go.RowKit

set_option maxHeartbeats 1000000 in
theorem szNode_any (x : NodV) (left : Int) (w : World) (h0 : 0 ≤ left) (h1 : left ≤ 1048576) (hk : x.r.k.size ≤ maxLen) (ht : x.r.t.size ≤ maxLen) :
    Calls Try.prog 93 #[.agg #[.string x.r.k, .string x.r.t, .int .i64 x.r.f, .int .i64 x.r.e, .int .i64 x.i, .int .i64 x.o], .int .i64 left] w fun e w' => e = .returned (.int .i64 (szL x.r left)) ∧ Below w.heap.size w w' := by
  have hor := szL_or x.r left
  obtain ⟨u, hu⟩ : ∃ u, szL x.r left = u := ⟨_, rfl⟩
  rw [hu] at hor ⊢
  have HU := Lib.hid hu
  clear hu
  go_enter Try.func93, Try.ntmps93
  go_wp2_with fail
  refine (szRow_any x.r left _ h0 h1 hk ht).mono ?_
  rintro e w1 ⟨rfl, hb⟩
  rw [show (if left - (x.r.k.size : Int) < 0 then (-1 : Int) else if left - (x.r.k.size : Int) - x.r.t.size < 0 then -1 else left - x.r.k.size - x.r.t.size) = u from HU.out]
  have HB := Lib.hid (((Below.refl _ _).alloc (Nat.le_refl _) _).trans (hb.mono (by simp)))
  clear hb
  rcases hor with rfl | ⟨hu0, hu1⟩
  · go_wp2
    go_ret
    exact ⟨rfl, HB.out⟩
  · go_wp2
    go_ret
    exact ⟨rfl, HB.out⟩

set_option maxHeartbeats 1000000 in
theorem eqNode_same (x : NodV) (w : World) :
    Calls Try.prog 90 #[.agg #[.string x.r.k, .string x.r.t, .int .i64 x.r.f, .int .i64 x.r.e, .int .i64 x.i, .int .i64 x.o], .agg #[.string x.r.k, .string x.r.t, .int .i64 x.r.f, .int .i64 x.r.e, .int .i64 x.i, .int .i64 x.o]] w fun e w' => e = .returned (.bool true) ∧ Below w.heap.size w w' := by
  go_enter Try.func90, Try.ntmps90
  go_wp2_with fail
  generalize hW : (w.alloc _).alloc _ = W0
  have hB : Below w.heap.size w W0 := by rw [← hW]; exact ((Below.refl _ _).alloc (Nat.le_refl _) _).alloc (by simp) _
  have a4 : W0.cell? ⟨w.heap.size, 4, none⟩ = some (.int .i64 x.i) := by rw [← hW]; simp [go_sem]
  have a5 : W0.cell? ⟨w.heap.size, 5, none⟩ = some (.int .i64 x.o) := by rw [← hW]; simp [go_sem]
  have b4 : W0.cell? ⟨w.heap.size + 1, 4, none⟩ = some (.int .i64 x.i) := by rw [← hW]; simp [go_sem]
  have b5 : W0.cell? ⟨w.heap.size + 1, 5, none⟩ = some (.int .i64 x.o) := by rw [← hW]; simp [go_sem]
  have hs : w.heap.size + 1 < W0.heap.size := by rw [← hW]; simp
  clear hW
  refine (eqRow_same x.r _).mono ?_
  rintro e w1 ⟨rfl, hb⟩
  replace a4 := cellBelow hb (by omega) a4
  replace a5 := cellBelow hb (by omega) a5
  replace b4 := cellBelow hb hs b4
  replace b5 := cellBelow hb hs b5
  have HB := Lib.hid (hB.trans (hb.mono hB.size))
  clear hb hB
  go_wp2
  go_ret
  exact ⟨rfl, HB.out⟩

set_option maxRecDepth 100000 in
set_option maxHeartbeats 1000000 in
theorem szNodeS_any (A : Option Addr) (cap : Nat) (zs : List NodV) (left : Int) (w : World) (h0 : 0 ≤ left) (h1 : left ≤ 1048576) (hz : NodsA w A zs) (hn : zs.length ≤ maxLen) (hs : ∀ r ∈ zs, r.r.k.size ≤ maxLen ∧ r.r.t.size ≤ maxLen) :
    Calls Try.prog 39 #[.slice A zs.length cap, .int .i64 left] w (SzPost left zs.length w) := by
  unfold maxLen at hn
  have HZ := Lib.hid hz
  have HS := Lib.hid hs
  clear hz hs
  by_cases h : left - zs.length < 0
  · go_enter Try.func39, Try.ntmps39
    go_wp2
    go_ret
    exact ⟨-1, rfl, .inl rfl, Below.refl _ _⟩
  · go_enter Try.func39, Try.ntmps39
    go_wp2
    go_loopw [1, 5] (fun lv i wr => ∃ (k : Nat) (v : Int), k ≤ zs.length ∧ i = .int .i64 k ∧ lv = .int .i64 v ∧ 0 ≤ v ∧ v ≤ left ∧ Below w.heap.size w wr) (fun _ i _ => zs.length - (intOf i).toNat)
    case atStart => exact ⟨0, _, Nat.zero_le _, rfl, rfl, by omega, by omega, Below.refl _ _⟩
    case round =>
      obtain ⟨k, v, hk, rfl, rfl, hv0, hv1, hbr⟩ := hrel
      by_cases hlt : k < zs.length
      · obtain ⟨b, off, x, rfl, hb, hx, c0, c1, c2, c3, c4, c5⟩ := (HZ.out.below hbr).at_ hlt
        have hm := HS.out x (List.mem_of_getElem? hx)
        clear hx
        go_wp2_with fail
        refine (szNode_any x _ _ (by omega) (by omega) hm.1 hm.2).mono ?_
        rintro e w2 ⟨rfl, hb2⟩
        have B2 := Lib.hid (hbr.trans (hb2.mono hbr.size))
        clear hb2 hbr c0 c1 c2 c3 c4 c5
        have hu := szL_or x.r v
        obtain ⟨u, hleft⟩ : ∃ u, szL x.r v = u := ⟨_, rfl⟩
        rw [hleft] at hu ⊢
        clear hleft
        rcases hu with rfl | ⟨hu0, hu1⟩
        · go_wp2
          go_ret
          exact ⟨-1, rfl, .inl rfl, B2.out⟩
        · go_wp2
          go_roundw
          case rel => exact ⟨k + 1, u, by omega, by go_num, rfl, hu0, by omega, B2.out⟩
          case measure => simp [intOf]; omega
      · go_wp2
        go_ret
        exact ⟨v, rfl, .inr ⟨hv0, hv1, by omega⟩, hbr⟩

set_option maxRecDepth 100000 in
set_option maxHeartbeats 1000000 in
theorem eqNodeS_same (A B : Option Addr) (cap cap' : Nat) (zs : List NodV) (w : World) (hz : NodsA w A zs) (hz' : NodsA w B zs) (hl : zs.length ≤ maxLen) :
    Calls Try.prog 34 #[.slice A zs.length cap, .slice B zs.length cap'] w fun e w' => e = .returned (.bool true) ∧ Below w.heap.size w w' := by
  unfold maxLen at hl
  have HZ := Lib.hid hz
  have HZ' := Lib.hid hz'
  clear hz hz'
  go_enter Try.func34, Try.ntmps34
  go_wp2
  go_loopw [5] (fun i wr => ∃ k : Nat, k ≤ zs.length ∧ i = .int .i64 k ∧ Below w.heap.size w wr) (fun i _ => zs.length - (intOf i).toNat)
  case atStart => exact ⟨0, Nat.zero_le _, rfl, Below.refl _ _⟩
  case round =>
    obtain ⟨k, hk, rfl, hbr⟩ := hrel
    by_cases hlt : k < zs.length
    · obtain ⟨b, off, x, rfl, hb, hx, c0, c1, c2, c3, c4, c5⟩ := (HZ.out.below hbr).at_ hlt
      obtain ⟨b', off', x', rfl, hb', hx', d0, d1, d2, d3, d4, d5⟩ := (HZ'.out.below hbr).at_ hlt
      obtain rfl : x' = x := by rw [hx] at hx'; injection hx' with h; exact h.symm
      clear hx hx'
      go_wp2_with fail
      refine wp_region_later (by kernel_rfl) (by kernel_rfl) ?_
      intro f hf1 hf2 hfc
      repeat (go_big_quiet_step ((go_at_call 90; exact calls_later hf1 hf2 (eqNode_same _ _))))
      refine wpQuiet_nil ?_
      rintro _ ⟨v, rfl⟩
      have Hv := Lib.hid (hbr.trans ((hf1.out v).mono hbr.size))
      clear hfc
      go_wp2
      go_roundw
      case rel => exact ⟨k + 1, by omega, by go_num, Hv.out⟩
      case measure => simp [intOf]; omega
    · go_wp2
      go_ret
      exact ⟨rfl, hbr⟩

theorem Try.infoNd72 : (Try.prog.info? 72).map (fun i => (i.zero, i.size, i.bytes)) = some (some (.agg #[.string ⟨#[]⟩, .string ⟨#[]⟩, .int .i64 0, .int .i64 0, .int .i64 0, .int .i64 0]), 6, 64) := by kernel_rfl

set_option maxRecDepth 100000 in
set_option maxHeartbeats 2000000 in
theorem toNodeS_any (A : Option Addr) (cap : Nat) (zs : List NodV) (w : World) (hz : NodsA w A zs) (hl : zs.length ≤ 1048577) :
    Calls Try.prog 41 #[.slice A zs.length cap] w (GetsE nodC 6 72 w zs) := by
  obtain ⟨i0, hi, hz0, hz1, hz2⟩ := info_parts Try.infoNd72
  have hi16 : i0.bytes * zs.length ≤ 281474976710656 := by rw [hz2]; omega
  have hml : zs.length ≤ maxLen := by unfold maxLen; omega
  have HZ := Lib.hid hz
  clear hz
  go_enter Try.func41, Try.ntmps41
  go_wp2_with (at_make; refine wpList_make_full _ rfl _ _ 50 rfl w.heap.size 72 i0 _ 6 Try.underlying50 hi hz0 hz1 .i64 .i64 _ _ zs.length rfl rfl rfl rfl hi16 hml (Nat.le_refl _) ?_; intro w1 hown hgrow)
  have hown0 : w1.ownsRow w.heap.size 72 6 (.slice (some ⟨w.heap.size, 0, none⟩) zs.length zs.length) zs.length (flatOf nodC (doneE nod0 zs 0)) := by rw [doneE_zero, ← made_flatOf nodC_len (by omega) nod0 _ rfl]; exact hown
  have HO := Lib.hid hown0
  have HB := Lib.hid ((Below.refl w.heap.size w).grown hgrow (Nat.le_refl _) (fun k hk => by cases hk))
  clear hown hown0 hgrow hi hz0 hz1 hz2 hi16
  go_loopw [4] (fun i wr => ∃ k : Nat, k ≤ zs.length ∧ i = .int .i64 k ∧ wr.ownsRow w.heap.size 72 6 (.slice (some ⟨w.heap.size, 0, none⟩) zs.length zs.length) zs.length (flatOf nodC (doneE nod0 zs k)) ∧ Below w.heap.size w wr) (fun i _ => zs.length - (intOf i).toNat)
  case atStart => exact ⟨0, Nat.zero_le _, rfl, HO.out, HB.out⟩
  case round =>
    obtain ⟨k, hk, rfl, hown, hbr⟩ := hrel
    have Hown := Lib.hid hown
    have hgl : w.heap.size < wr.heap.size := (hown.lt w.heap.size rfl).2
    clear hown HO HB
    by_cases hlt : k < zs.length
    · obtain ⟨b, off, x, rfl, hb, hx, c0, c1, c2, c3, c4, c5⟩ := (HZ.out.below hbr).at_ hlt
      have Hset := Lib.hid (doneE_set nod0 zs k x hx)
      have Hget := Lib.hid (doneE_get nod0 zs k hlt)
      clear hx
      go_wp2_with fail
      refine (toNode_any x _).mono ?_
      rintro e w2 ⟨rfl, hb2⟩
      have hown2 := ownsKeep Hown.out hb2
      have hd : (doneE nod0 zs k).length = zs.length := doneE_length nod0 zs k hk
      have e0 : w2.cell? ⟨w.heap.size, k * 6, none⟩ = some (.string ⟨#[]⟩) := by
        rw [hown2.cellAt (k * 6) (by omega)]; exact flatOf_get nodC_len _ k nod0 0 Hget.out (by omega)
      have e1 : w2.cell? ⟨w.heap.size, k * 6 + 1, none⟩ = some (.string ⟨#[]⟩) := by
        rw [hown2.cellAt (k * 6 + 1) (by omega)]; exact flatOf_get nodC_len _ k nod0 1 Hget.out (by omega)
      have e2 : w2.cell? ⟨w.heap.size, k * 6 + 2, none⟩ = some (.int .i64 0) := by
        rw [hown2.cellAt (k * 6 + 2) (by omega)]; exact flatOf_get nodC_len _ k nod0 2 Hget.out (by omega)
      have e3 : w2.cell? ⟨w.heap.size, k * 6 + 3, none⟩ = some (.int .i64 0) := by
        rw [hown2.cellAt (k * 6 + 3) (by omega)]; exact flatOf_get nodC_len _ k nod0 3 Hget.out (by omega)
      have e4 : w2.cell? ⟨w.heap.size, k * 6 + 4, none⟩ = some (.int .i64 0) := by
        rw [hown2.cellAt (k * 6 + 4) (by omega)]; exact flatOf_get nodC_len _ k nod0 4 Hget.out (by omega)
      have e5 : w2.cell? ⟨w.heap.size, k * 6 + 5, none⟩ = some (.int .i64 0) := by
        rw [hown2.cellAt (k * 6 + 5) (by omega)]; exact flatOf_get nodC_len _ k nod0 5 Hget.out (by omega)
      have f0 := hown2.frozenAt (k * 6)
      have f1 := hown2.frozenAt (k * 6 + 1)
      have f2 := hown2.frozenAt (k * 6 + 2)
      have f3 := hown2.frozenAt (k * 6 + 3)
      have f4 := hown2.frozenAt (k * 6 + 4)
      have f5 := hown2.frozenAt (k * 6 + 5)
      have s0 := hown2.stored (k * 6) (.string x.r.k)
      have s1 := s0.1.stored (k * 6 + 1) (.string x.r.t)
      have s2 := s1.1.stored (k * 6 + 2) (.int .i64 x.r.f)
      have s3 := s2.1.stored (k * 6 + 3) (.int .i64 x.r.e)
      have s4 := s3.1.stored (k * 6 + 4) (.int .i64 x.i)
      have s5 := s4.1.stored (k * 6 + 5) (.int .i64 x.o)
      have hset : (((((((flatOf nodC (doneE nod0 zs k)).set (k * 6) (.string x.r.k)).set (k * 6 + 1) (.string x.r.t)).set (k * 6 + 2) (.int .i64 x.r.f)).set (k * 6 + 3) (.int .i64 x.r.e)).set (k * 6 + 4) (.int .i64 x.i)).set (k * 6 + 5) (.int .i64 x.o)) = flatOf nodC (doneE nod0 zs (k + 1)) := by
        have := flatOf_set nodC_len x (doneE nod0 zs k) k (by omega)
        rw [Hset.out] at this
        exact this
      have t3 := s5.1
      rw [hset] at t3
      have HS := Lib.hid t3
      have HB := Lib.hid (((((((hbr.trans (hb2.mono (by omega))).setCell (p := ⟨w.heap.size, k * 6, none⟩) (Nat.le_refl _) (.string x.r.k)).setCell (p := ⟨w.heap.size, k * 6 + 1, none⟩) (Nat.le_refl _) (.string x.r.t)).setCell (p := ⟨w.heap.size, k * 6 + 2, none⟩) (Nat.le_refl _) (.int .i64 x.r.f)).setCell (p := ⟨w.heap.size, k * 6 + 3, none⟩) (Nat.le_refl _) (.int .i64 x.r.e)).setCell (p := ⟨w.heap.size, k * 6 + 4, none⟩) (Nat.le_refl _) (.int .i64 x.i)).setCell (p := ⟨w.heap.size, k * 6 + 5, none⟩) (Nat.le_refl _) (.int .i64 x.o))
      clear s0 s1 s2 s3 s4 s5 t3 hset hown2 hd hb2
      go_wp2
      go_roundw
      case rel => exact ⟨k + 1, by omega, by go_num, HS.out, HB.out⟩
      case measure => simp [intOf]; omega
    · go_wp2
      go_ret
      obtain rfl : k = zs.length := by omega
      have := Hown.out
      rw [doneE_all] at this
      exact ⟨_, zs.length, rfl, this, hbr⟩
end Go.Proofs.Ytphinkcfmdnpfaa
