/-
  Walks: marks written into a row of spans, and read again.
-/
import Derived.Test.YtfolppahdmkaoaaCommon
import Derived.Test.YtfolppahdmkaoaaAdd
import Derived.Test.YtfolppahdmkaoaaSets
namespace Go.Proofs.Ytfolppahdmkaoaa
open Go.RowKit Go.Shelf

theorem setOk_each {zs : List (Int × Int)} (h : setOk zs = true) {k : Nat} (hk : k < zs.length) : okAt zs k = true := by
  rw [setOk, List.all_eq_true] at h
  exact h k (by simpa using hk)
theorem setOk_from {zs : List (Int × Int)} (h : setOk zs = true) : ∀ k, k < zs.length → (k : Int) ≤ (zs.getD k (0, 0)).1 ∧ (zs.getD k (0, 0)).1 < (zs.getD k (0, 0)).2 ∧ (zs.getD k (0, 0)).2 ≤ 100
  | 0, hk => by
    have := setOk_each h hk
    simp [okAt, okB] at this ⊢
    omega
  | k + 1, hk => by
    have h1 := setOk_from h k (by omega)
    have := setOk_each h hk
    simp only [okAt, okB, Bool.and_eq_true, Bool.or_eq_true, decide_eq_true_eq, Nat.add_sub_cancel, beq_iff_eq] at this
    omega
theorem setOk_len {zs : List (Int × Int)} (h : setOk zs = true) : zs.length ≤ 100 := by
  rcases Nat.eq_zero_or_pos zs.length with h0 | h0
  · omega
  · have := setOk_from h (zs.length - 1) (by omega)
    omega

def setMeetL (xs ys : List (Int × Int)) : List (Int × Int) := if setOk xs && setOk ys then meetL xs ys else []

theorem enter90 : ∀ args w, (callFunc 93 args).run Try.prog w = .ok (.enter 93 args) w := enters_of Try.func93 (by kernel_rfl) rfl
theorem spans_block {w : World} {A : Option Addr} {zs : List (Int × Int)} (h : Spans w A zs) (h0 : 0 < zs.length) : ∀ b off, A = some ⟨b, off, none⟩ → b < w.heap.size := by
  intro b off e
  obtain ⟨b', off', e', hc⟩ := h h0
  rw [e] at e'
  cases e'
  exact World.block_lt_of_cell? _ _ (hc 0 h0).1

theorem coll_nil (w w' : World) (hb : Below w.heap.size w w') : Coll w [] (.returned (.slice none 0 0)) w' := ⟨_, rfl, World.ownsRow_nil _ _ _ _, by simp, hb⟩
theorem coll_after {w w1 w' : World} {zs : List (Int × Int)} {e : Ending} (h : Coll w1 zs e w') (hb : Below w.heap.size w w1) : Coll w zs e w' := by
  obtain ⟨v, he, ho, hn, hb'⟩ := h
  exact ⟨v, he, owns_base ho hb.size, hn, hb.trans (hb'.mono hb.size)⟩

end Go.Proofs.Ytfolppahdmkaoaa
namespace Go.Proofs.Ytfolppahdmkaoaa
open Go.RowKit

theorem meetL_take {xs ys : List (Int × Int)} {k : Nat} (hk : k < xs.length) : meetL (xs.take (k + 1)) ys = meetL (xs.take k) ys ++ meetOne (xs.getD k (0, 0)) ys := by
  rw [List.take_succ_eq_append_getElem hk, meetL_snoc, show xs.getD k (0, 0) = xs[k] from by simp [hk]]
theorem meetOne_take {x : Int × Int} {ys : List (Int × Int)} {k : Nat} (hk : k < ys.length) : meetOne x (ys.take (k + 1)) = meetOne x (ys.take k) ++ (if mB x.1 x.2 (ys.getD k (0, 0)).1 (ys.getD k (0, 0)).2 then [(mF x.1 x.2 (ys.getD k (0, 0)).1 (ys.getD k (0, 0)).2, mT x.1 x.2 (ys.getD k (0, 0)).1 (ys.getD k (0, 0)).2)] else []) := by
  rw [List.take_succ_eq_append_getElem hk, meetOne_snoc, show ys.getD k (0, 0) = ys[k] from by simp [hk]]

def AtOne (wr : World) (x1 x2 y1 y2 : Int) (s8 s9 : Value) (wx : World) : Prop :=
  ∃ g' : Nat, s8 = .pointer (some ⟨g', 0, none⟩) ∧ s9 = .bool (mB x1 x2 y1 y2) ∧ wx.cell? ⟨g', 0, none⟩ = some (.int .i64 (max x1 y1)) ∧ wx.cell? ⟨g', 1, none⟩ = some (.int .i64 (min x2 y2)) ∧ Below wr.heap.size wr wx

end Go.Proofs.Ytfolppahdmkaoaa
namespace Go.Proofs.Ytfolppahdmkaoaa
open Go.RowKit

def markL (k0 : Int) (n : Nat) : List (Int × Int) := (List.range n).map fun j : Nat => (k0 + 2 * (j : Int), k0 + 2 * (j : Int) + 1)
def markTo (zs : List (Int × Int)) (k0 : Int) (i : Nat) : List (Int × Int) := markL k0 i ++ zs.drop i
theorem markL_length (k0 : Int) (n : Nat) : (markL k0 n).length = n := by simp [markL]
theorem markL_get (k0 : Int) (n j : Nat) (h : j < n) : (markL k0 n).getD j (0, 0) = (k0 + 2 * (j : Int), k0 + 2 * (j : Int) + 1) := by simp [markL, h]
theorem markTo_zero (zs : List (Int × Int)) (k0 : Int) : markTo zs k0 0 = zs := by simp [markTo, markL]
theorem markTo_all (zs : List (Int × Int)) (k0 : Int) : markTo zs k0 zs.length = markL k0 zs.length := by simp [markTo]
theorem markTo_length (zs : List (Int × Int)) (k0 : Int) (i : Nat) (h : i ≤ zs.length) : (markTo zs k0 i).length = zs.length := by simp [markTo, markL]; omega
theorem markTo_set (zs : List (Int × Int)) (k0 : Int) (i : Nat) (h : i < zs.length) : (markTo zs k0 i).set i (k0 + 2 * (i : Int), k0 + 2 * (i : Int) + 1) = markTo zs k0 (i + 1) := by
  unfold markTo
  rw [List.set_append_right _ _ (by rw [markL_length]; omega), markL_length, Nat.sub_self, List.drop_eq_getElem_cons h, List.set_cons_zero]
  simp [markL, List.range_succ]

end Go.Proofs.Ytfolppahdmkaoaa
