/-
  Walks: the model's l1SetMeet and SetMeet.
-/
import Derived.Test.YtphinkcfmdnpfaaMeets
namespace Go.Proofs.Ytphinkcfmdnpfaa
open Go.RowKit

theorem meetL_take {xs ys : List (Int × Int)} {k : Nat} (hk : k < xs.length) : meetL (xs.take (k + 1)) ys = meetL (xs.take k) ys ++ meetOne (xs.getD k (0, 0)) ys := by
  rw [List.take_succ_eq_append_getElem hk, meetL_snoc, show xs.getD k (0, 0) = xs[k] from by simp [hk]]
theorem meetOne_take {x : Int × Int} {ys : List (Int × Int)} {k : Nat} (hk : k < ys.length) : meetOne x (ys.take (k + 1)) = meetOne x (ys.take k) ++ (if mB x.1 x.2 (ys.getD k (0, 0)).1 (ys.getD k (0, 0)).2 then [(mF x.1 x.2 (ys.getD k (0, 0)).1 (ys.getD k (0, 0)).2, mT x.1 x.2 (ys.getD k (0, 0)).1 (ys.getD k (0, 0)).2)] else []) := by
  rw [List.take_succ_eq_append_getElem hk, meetOne_snoc, show ys.getD k (0, 0) = ys[k] from by simp [hk]]

def AtOne (wr : World) (x1 x2 y1 y2 : Int) (s8 s9 : Value) (wx : World) : Prop :=
  ∃ g' : Nat, s8 = .pointer (some ⟨g', 0, none⟩) ∧ s9 = .bool (mB x1 x2 y1 y2) ∧ wx.cell? ⟨g', 0, none⟩ = some (.int .i64 (max x1 y1)) ∧ wx.cell? ⟨g', 1, none⟩ = some (.int .i64 (min x2 y2)) ∧ Below wr.heap.size wr wx

end Go.Proofs.Ytphinkcfmdnpfaa
