/-
  Walks: things to be done as lines of text; a drawn text.
-/
import Derived.Test.YtmfpojminbkojaaTxX
namespace Go.Proofs.Ytmfpojminbkojaa
open Go.RowKit

def lineX (x : OpV) : ByteArray := lineB x.k.toNat x.t.toNat x.r.k x.r.t x.r.f.toNat x.r.e.toNat
def putB (zs : List OpV) : ByteArray := zs.foldl (fun a x => a ++ lineX x) ⟨#[]⟩
theorem txtB_size (s : ByteArray) (h : s.size ≤ 20) : (txtB s).size ≤ 20 := by
  unfold txtB
  split
  · exact (show (1 : Nat) ≤ 20 by omega)
  · exact h
theorem lineX_size {x : OpV} (h : opB x) : (lineX x).size ≤ 64 := by
  unfold lineX lineB
  rw [lineOf_size]
  have h1 := wrdB_size x.k.toNat
  have h2 := decL_size 0 x.t.toNat
  have h3 := decL_size 2 x.r.f.toNat
  have h4 := decL_size 2 x.r.e.toNat
  have h5 := txtB_size x.r.t h.1.2
  have h6 := h.1.1
  omega
theorem put_take {zs : List OpV} {i : Nat} {x : OpV} (h : zs[i]? = some x) : putB (zs.take (i + 1)) = putB (zs.take i) ++ lineX x := by
  unfold putB
  rw [List.take_add_one, h]
  simp only [Option.toList, List.foldl_append, List.foldl_cons, List.foldl_nil]
theorem foldl_size : ∀ (l : List OpV) (a : ByteArray), (∀ x ∈ l, opB x) → (l.foldl (fun a x => a ++ lineX x) a).size ≤ a.size + 64 * l.length
  | [], a, _ => by simp
  | x :: l, a, h => by
    have h1 := foldl_size l (a ++ lineX x) (fun y hy => h y (List.mem_cons_of_mem _ hy))
    have h2 := lineX_size (h x List.mem_cons_self)
    rw [ByteArray.size_append] at h1
    rw [List.foldl_cons, List.length_cons]
    omega
theorem putB_size {zs : List OpV} (h : ∀ x ∈ zs, opB x) : (putB zs).size ≤ 64 * zs.length := by
  have := foldl_size zs ⟨#[]⟩ h
  unfold putB
  have h0 : (⟨#[]⟩ : ByteArray).size = 0 := rfl
  omega

theorem l7Op_op (x : OpV) (h : opB x) (w : World) :
    Calls Try.prog 86 #[.agg #[.int .i64 x.k, .int .i64 x.t, .string x.r.k, .string x.r.t, .int .i64 x.r.f, .int .i64 x.r.e]] w fun e w' => e = .returned (.string (lineX x)) ∧ Below w.heap.size w w' := by
  obtain ⟨⟨a1, a2⟩, ⟨b1, b2⟩, ⟨c1, c2⟩, d1, d2, d3, d4⟩ := h
  obtain ⟨k, t, rk, rt, f, e⟩ := x
  dsimp only at *
  obtain ⟨k, rfl⟩ := Int.eq_ofNat_of_zero_le (show 0 ≤ k by omega)
  obtain ⟨t, rfl⟩ := Int.eq_ofNat_of_zero_le c1
  obtain ⟨f, rfl⟩ := Int.eq_ofNat_of_zero_le d1
  obtain ⟨e, rfl⟩ := Int.eq_ofNat_of_zero_le d3
  exact l7Op_open k t f e (decL 0 t) rk rt (txtB rt) (decL 2 f) (decL 2 e) (wrdB k) w (by omega) rfl rfl (by have := wrdB_size k; omega) (by have := decL_size 0 t; omega) (by omega) (by have := txtB_size rt a2; omega) (by have := decL_size 2 f; omega) (by have := decL_size 2 e; omega) (fun W => l1Dec_any 0 t W (by omega) (by omega)) (fun W => l1Dec_any 2 f W (by omega) (by omega)) (fun W => l1Dec_any 2 e W (by omega) (by omega))

theorem OpsA.at_ {w : World} {A : Option Addr} {l : List OpV} (h : OpsA w A l) {i : Nat} (hi : i < l.length) : ∃ b off x, A = some ⟨b, off, none⟩ ∧ b < w.heap.size ∧ l[i]? = some x ∧ w.cell? ⟨b, off + i * 6, none⟩ = some (.int .i64 x.k) ∧ w.cell? ⟨b, off + i * 6 + 1, none⟩ = some (.int .i64 x.t) ∧ w.cell? ⟨b, off + i * 6 + 2, none⟩ = some (.string x.r.k) ∧ w.cell? ⟨b, off + i * 6 + 3, none⟩ = some (.string x.r.t) ∧ w.cell? ⟨b, off + i * 6 + 4, none⟩ = some (.int .i64 x.r.f) ∧ w.cell? ⟨b, off + i * 6 + 5, none⟩ = some (.int .i64 x.r.e) := by
  obtain ⟨b, off, e, hlt, hc⟩ := h (by omega)
  have hx : l[i]? = some l[i] := List.getElem?_eq_getElem hi
  exact ⟨b, off, _, e, hlt, hx, hc i _ hx 0 _ rfl, hc i _ hx 1 _ rfl, hc i _ hx 2 _ rfl, hc i _ hx 3 _ rfl, hc i _ hx 4 _ rfl, hc i _ hx 5 _ rfl⟩

set_option maxRecDepth 100000 in
set_option maxHeartbeats 4000000 in
theorem l7Put_any (A : Option Addr) (cap : Nat) (zs : List OpV) (w : World) (h : OpsA w A zs) (hn : zs.length ≤ 1000) (hB : ∀ x ∈ zs, opB x) :
    Calls Try.prog 68 #[.slice A zs.length cap] w fun e w' => e = .returned (.string (putB zs)) ∧ Below w.heap.size w w' := by
  have HZ := Lib.hid h
  have HB := Lib.hid hB
  clear h hB
  go_enter Try.func68, Try.ntmps68
  go_wp2
  go_loopw [3, 4] (fun v i wr => ∃ (k : Nat) (s : ByteArray), k ≤ zs.length ∧ i = .int .i64 k ∧ v = .string s ∧ putB (zs.take k) = s ∧ Below w.heap.size w wr) (fun _ i _ => zs.length - (intOf i).toNat)
  case atStart => exact ⟨0, _, Nat.zero_le _, rfl, rfl, rfl, Below.refl _ _⟩
  case round =>
    obtain ⟨k, s, hk, rfl, rfl, hs, hbr⟩ := hrel
    by_cases hlt : k < zs.length
    · obtain ⟨b, off, x, rfl, hb, hx, c0, c1, c2, c3, c4, c5⟩ := (HZ.out.below hbr).at_ hlt
      have hm := HB.out x (List.mem_of_getElem? hx)
      have hz : s.size ≤ 64 * k := by
        rw [← hs]
        have := putB_size (zs := zs.take k) (fun y hy => HB.out y (List.mem_of_mem_take hy))
        rw [List.length_take] at this
        omega
      have hzx := lineX_size hm
      have HN := Lib.hid (put_take hx)
      rw [hs] at HN
      have us : ∀ W : World, (Op.stringOp .add s (lineX x)).run Try.prog W = .ok (.string (s ++ lineX x)) W := fun W => run_string_add_sum W s (lineX x) (by omega)
      have HM := Lib.hid hm
      have BR := Lib.hid hbr
      clear hx hm hs hbr
      go_wp2_with fail
      refine (l7Op_op x HM.out _).mono ?_
      rintro e w2 ⟨rfl, hb2⟩
      have B2 := Lib.hid (BR.out.trans (hb2.mono BR.out.size))
      clear hb2 BR c0 c1 c2 c3 c4 c5
      go_wp2
      go_roundw
      case rel => exact ⟨k + 1, _, by omega, by go_num, rfl, HN.out, B2.out⟩
      case measure => simp [intOf]; omega
    · have hkl : k = zs.length := by omega
      subst hkl
      rw [List.take_length] at hs
      go_wp2
      go_ret
      exact ⟨by rw [hs]; rfl, hbr⟩

def PickedQ (Q : ByteArray → Prop) (w : World) (R : Nat) (bs : List Int) (p : Int) (e : Ending) (w' : World) : Prop :=
  ∃ s : ByteArray, e = .returned (.string s) ∧ Q s ∧ Rd w' R bs (p + 1) ∧ w.grownBy w' (some R)
set_option maxHeartbeats 1000000 in
theorem ofQ_any (Q : ByteArray → Prop) (R g cap : Nat) (bs : List Int) (L : List ByteArray) (p : Int) (w : World) (h : Rd w R bs p) (hp0 : 0 ≤ p) (hp1 : p ≤ 1000000) (hL0 : 1 ≤ L.length) (hL1 : L.length ≤ 1000) (hg : g ≠ R) (hS : ∀ s ∈ L, Q s)
    (hc : ∀ i, i < L.length → w.cell? ⟨g, i, none⟩ = some (.string (L.getD i ⟨#[]⟩))) :
    Calls Try.prog 67 #[.pointer (some ⟨R, 0, none⟩), .slice (some ⟨g, 0, none⟩) L.length cap] w (PickedQ Q w R bs p) := by
  go_enter Try.func67, Try.ntmps67
  go_wp2_with fail
  refine (pick_any R bs p _ _ h hp0 hp1 (by omega) (by omega)).mono ?_
  rintro e w1 ⟨v, rfl, v0, v1, hrd, hgr⟩
  obtain ⟨j, rfl⟩ := Int.eq_ofNat_of_zero_le v0
  have hj : j < L.length := by omega
  have hcj := grown_cell hgr hg (hc j hj)
  have hm : Q (L.getD j ⟨#[]⟩) := hS _ (getDT_mem hj)
  clear hc hS
  generalize L.getD j ⟨#[]⟩ = v at *
  have Hm := Lib.hid hm
  have Hr := Lib.hid hrd
  have Hg := Lib.hid hgr
  clear hrd hgr h hm
  go_wp2
  go_ret
  exact ⟨v, rfl, Hm.out, Hr.out, Hg.out⟩
end Go.Proofs.Ytmfpojminbkojaa
