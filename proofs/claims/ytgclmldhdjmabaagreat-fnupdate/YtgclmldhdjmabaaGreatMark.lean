/-
  Walks: marks written into a row of spans, and read again.
-/
import Derived.Test.YtgclmldhdjmabaaGreatCommon
import Derived.Test.YtgclmldhdjmabaaGreatAdd
import Derived.Test.YtgclmldhdjmabaaGreatSets
namespace Go.Proofs.YtgclmldhdjmabaaGreat
open Go.RowKit Go.Shelf

theorem setOk_each {zs : List (Int × Int)} (h : setOk zs = true) {k : Nat} (hk : k < zs.length) : okAt zs k = true := by
  rw [setOk, List.all_eq_true] at h
  exact h k (by simpa using hk)
theorem setOk_from {zs : List (Int × Int)} (h : setOk zs = true) : ∀ k, k < zs.length → (k : Int) ≤ (zs.getD k (0, 0)).1 ∧ (zs.getD k (0, 0)).1 < (zs.getD k (0, 0)).2 ∧ (zs.getD k (0, 0)).2 ≤ 100
  | 0, hk => by
    have := setOk_each h hk
    simp [okAt, okB] at this ⊢
    omega
  | k + 1, hk => by
    have h1 := setOk_from h k (by omega)
    have := setOk_each h hk
    simp only [okAt, okB, Bool.and_eq_true, Bool.or_eq_true, decide_eq_true_eq, Nat.add_sub_cancel, beq_iff_eq] at this
    omega
theorem setOk_len {zs : List (Int × Int)} (h : setOk zs = true) : zs.length ≤ 100 := by
  rcases Nat.eq_zero_or_pos zs.length with h0 | h0
  · omega
  · have := setOk_from h (zs.length - 1) (by omega)
    omega

def setMeetL (xs ys : List (Int × Int)) : List (Int × Int) := if setOk xs && setOk ys then meetL xs ys else []

theorem enter90 : ∀ args w, (callFunc 77 args).run Tryz.prog w = .ok (.enter 77 args) w := enters_of Tryz.func77 (by kernel_rfl) rfl
theorem enter93 : ∀ args w, (callFunc 91 args).run Tryz.prog w = .ok (.enter 91 args) w := enters_of Tryz.func91 (by kernel_rfl) rfl

theorem spans_block {w : World} {A : Option Addr} {zs : List (Int × Int)} (h : Spans w A zs) (h0 : 0 < zs.length) : ∀ b off, A = some ⟨b, off, none⟩ → b < w.heap.size := by
  intro b off e
  obtain ⟨b', off', e', hc⟩ := h h0
  rw [e] at e'
  cases e'
  exact World.block_lt_of_cell? _ _ (hc 0 h0).1

theorem coll_nil (w w' : World) (hb : Below w.heap.size w w') : Coll w [] (.returned (.slice none 0 0)) w' := ⟨_, rfl, World.ownsRow_nil _ _ _ _, by simp, hb⟩
theorem coll_after {w w1 w' : World} {zs : List (Int × Int)} {e : Ending} (h : Coll w1 zs e w') (hb : Below w.heap.size w w1) : Coll w zs e w' := by
  obtain ⟨v, he, ho, hn, hb'⟩ := h
  exact ⟨v, he, owns_base ho hb.size, hn, hb.trans (hb'.mono hb.size)⟩

/-- Two slices of spans, boxed and boxed again: what is collected of what they have in common. -/
theorem collect_meet (A B : Option Addr) (ca cb : Nat) (xs ys : List (Int × Int)) (w w1 w2 w3 : World) (hx : Spans w A xs) (hy : Spans w B ys) (hA : ∀ b off, A = some ⟨b, off, none⟩ → b < w.heap.size) (hB : ∀ b off, B = some ⟨b, off, none⟩ → b < w.heap.size)
    (hlx : xs.length ≤ 100) (hly : ys.length ≤ 100) (e1 : w1 = w.alloc (.cells #[.slice A xs.length ca] 36)) (e2 : w2 = w1.alloc (.cells #[.slice B ys.length cb] 36))
    (e3 : w3 = (w2.alloc (.cells #[.func (.func 77) #[] #[.pointer (some ⟨w.heap.size, 0, none⟩)]] 91)).alloc (.cells #[.func (.func 77) #[] #[.pointer (some ⟨w1.heap.size, 0, none⟩)]] 91)) :
    Calls Tryz.prog 78 #[.func (.func 91) #[] #[.pointer (some ⟨w2.heap.size, 0, none⟩), .pointer (some ⟨w2.heap.size + 1, 0, none⟩)]] w3 (Coll w (meetL xs ys)) := by
  have b1 := Boxed.new w 36 (.slice A xs.length ca)
  rw [← e1] at b1
  have b2 := Boxed.new w1 36 (.slice B ys.length cb)
  rw [← e2] at b2
  have b1' : Boxed w2 w.heap.size 36 (.slice A xs.length ca) := by rw [e2]; exact b1.alloc _
  have b3 := (Boxed.new w2 91 (.func (.func 77) #[] #[.pointer (some ⟨w.heap.size, 0, none⟩)])).alloc (.cells #[.func (.func 77) #[] #[.pointer (some ⟨w1.heap.size, 0, none⟩)]] 91)
  rw [← e3] at b3
  have b4 := Boxed.new (w2.alloc (.cells #[.func (.func 77) #[] #[.pointer (some ⟨w.heap.size, 0, none⟩)]] 91)) 91 (.func (.func 77) #[] #[.pointer (some ⟨w1.heap.size, 0, none⟩)])
  rw [← e3] at b4
  have b5 : Boxed w3 w.heap.size 36 (.slice A xs.length ca) := by rw [e3]; exact (b1'.alloc _).alloc _
  have b6 : Boxed w3 w1.heap.size 36 (.slice B ys.length cb) := by rw [e3]; exact (b2.alloc _).alloc _
  have s1 : w1.heap.size = w.heap.size + 1 := by rw [e1]; simp
  have s2 : w2.heap.size = w1.heap.size + 1 := by rw [e2]; simp
  have s3 : w3.heap.size = w2.heap.size + 2 := by rw [e3]; simp
  have k1 : Below w.heap.size w w1 := by rw [e1]; exact (Below.refl _ w).alloc (Nat.le_refl _) _
  have k2 : Below w.heap.size w w2 := by rw [e2]; exact k1.alloc (by omega) _
  have k3 : Below w.heap.size w w3 := by rw [e3]; exact (k2.alloc (by omega) _).alloc (by simp; omega) _
  have hx3 := hx.below k3
  have hy3 := hy.below k3
  rw [show w2.heap.size + 1 = (w2.alloc (.cells #[.func (.func 77) #[] #[.pointer (some ⟨w.heap.size, 0, none⟩)]] 91)).heap.size from by simp]
  have hm : xs.length * ys.length ≤ 100 * 100 := Nat.mul_le_mul hlx hly
  have hs := common1_all 8 (Nat.le_refl _) 77 77 _ _ enter90 enter90 _ _ xs ys w3 b3 b4
    (fun m hm => values_stops m hm w.heap.size w3.heap.size ca A xs (by omega) w3 (by omega) (Nat.le_refl _) b5.cell hx3 (fun b off e => by have := hA b off e; omega))
    (fun m hm => values_stops m hm w1.heap.size w3.heap.size cb B ys (by omega) w3 (by omega) (Nat.le_refl _) b6.cell hy3 (fun b off e => by have := hB b off e; omega))
  exact (Collect_in 9 (by omega) 91 _ _ _ (by omega) _ w3 w3 hs (Below.refl _ _) (Nat.le_refl _) enter93).mono fun e w' h => coll_after h k3

end Go.Proofs.YtgclmldhdjmabaaGreat
namespace Go.Proofs.YtgclmldhdjmabaaGreat
open Go.RowKit

theorem meetL_take {xs ys : List (Int × Int)} {k : Nat} (hk : k < xs.length) : meetL (xs.take (k + 1)) ys = meetL (xs.take k) ys ++ meetOne (xs.getD k (0, 0)) ys := by
  rw [List.take_succ_eq_append_getElem hk, meetL_snoc, show xs.getD k (0, 0) = xs[k] from by simp [hk]]
theorem meetOne_take {x : Int × Int} {ys : List (Int × Int)} {k : Nat} (hk : k < ys.length) : meetOne x (ys.take (k + 1)) = meetOne x (ys.take k) ++ (if mB x.1 x.2 (ys.getD k (0, 0)).1 (ys.getD k (0, 0)).2 then [(mF x.1 x.2 (ys.getD k (0, 0)).1 (ys.getD k (0, 0)).2, mT x.1 x.2 (ys.getD k (0, 0)).1 (ys.getD k (0, 0)).2)] else []) := by
  rw [List.take_succ_eq_append_getElem hk, meetOne_snoc, show ys.getD k (0, 0) = ys[k] from by simp [hk]]

def AtOne (wr : World) (x1 x2 y1 y2 : Int) (s8 s9 : Value) (wx : World) : Prop :=
  ∃ g' : Nat, s8 = .pointer (some ⟨g', 0, none⟩) ∧ s9 = .bool (mB x1 x2 y1 y2) ∧ wx.cell? ⟨g', 0, none⟩ = some (.int .i64 (max x1 y1)) ∧ wx.cell? ⟨g', 1, none⟩ = some (.int .i64 (min x2 y2)) ∧ Below wr.heap.size wr wx

end Go.Proofs.YtgclmldhdjmabaaGreat
namespace Go.Proofs.YtgclmldhdjmabaaGreat
open Go.RowKit

def markL (k0 : Int) (n : Nat) : List (Int × Int) := (List.range n).map fun j : Nat => (k0 + 2 * (j : Int), k0 + 2 * (j : Int) + 1)
def markTo (zs : List (Int × Int)) (k0 : Int) (i : Nat) : List (Int × Int) := markL k0 i ++ zs.drop i
theorem markL_length (k0 : Int) (n : Nat) : (markL k0 n).length = n := by simp [markL]
theorem markL_get (k0 : Int) (n j : Nat) (h : j < n) : (markL k0 n).getD j (0, 0) = (k0 + 2 * (j : Int), k0 + 2 * (j : Int) + 1) := by simp [markL, h]
theorem markTo_zero (zs : List (Int × Int)) (k0 : Int) : markTo zs k0 0 = zs := by simp [markTo, markL]
theorem markTo_all (zs : List (Int × Int)) (k0 : Int) : markTo zs k0 zs.length = markL k0 zs.length := by simp [markTo]
theorem markTo_length (zs : List (Int × Int)) (k0 : Int) (i : Nat) (h : i ≤ zs.length) : (markTo zs k0 i).length = zs.length := by simp [markTo, markL]; omega
theorem markTo_set (zs : List (Int × Int)) (k0 : Int) (i : Nat) (h : i < zs.length) : (markTo zs k0 i).set i (k0 + 2 * (i : Int), k0 + 2 * (i : Int) + 1) = markTo zs k0 (i + 1) := by
  unfold markTo
  rw [List.set_append_right _ _ (by rw [markL_length]; omega), markL_length, Nat.sub_self, List.drop_eq_getElem_cons h, List.set_cons_zero]
  simp [markL, List.range_succ]

end Go.Proofs.YtgclmldhdjmabaaGreat
