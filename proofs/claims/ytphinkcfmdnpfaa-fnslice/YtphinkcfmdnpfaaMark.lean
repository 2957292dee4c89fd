/-
  Walks: marks written into a row of spans, and read again.
-/
import Derived.Test.YtphinkcfmdnpfaaSets
import Derived.Test.YtphinkcfmdnpfaaAdd
namespace Go.Proofs.Ytphinkcfmdnpfaa
open Go.RowKit

def markL (k0 : Int) (n : Nat) : List (Int × Int) := (List.range n).map fun j : Nat => (k0 + 2 * (j : Int), k0 + 2 * (j : Int) + 1)
def markTo (zs : List (Int × Int)) (k0 : Int) (i : Nat) : List (Int × Int) := markL k0 i ++ zs.drop i
theorem markL_length (k0 : Int) (n : Nat) : (markL k0 n).length = n := by simp [markL]
theorem markL_get (k0 : Int) (n j : Nat) (h : j < n) : (markL k0 n).getD j (0, 0) = (k0 + 2 * (j : Int), k0 + 2 * (j : Int) + 1) := by simp [markL, h]
theorem markTo_zero (zs : List (Int × Int)) (k0 : Int) : markTo zs k0 0 = zs := by simp [markTo, markL]
theorem markTo_all (zs : List (Int × Int)) (k0 : Int) : markTo zs k0 zs.length = markL k0 zs.length := by simp [markTo]
theorem markTo_length (zs : List (Int × Int)) (k0 : Int) (i : Nat) (h : i ≤ zs.length) : (markTo zs k0 i).length = zs.length := by simp [markTo, markL]; omega
theorem markTo_set (zs : List (Int × Int)) (k0 : Int) (i : Nat) (h : i < zs.length) : (markTo zs k0 i).set i (k0 + 2 * (i : Int), k0 + 2 * (i : Int) + 1) = markTo zs k0 (i + 1) := by
  unfold markTo
  rw [List.set_append_right _ _ (by rw [markL_length]; omega), markL_length, Nat.sub_self, List.drop_eq_getElem_cons h, List.set_cons_zero]
  simp [markL, List.range_succ]

end Go.Proofs.Ytphinkcfmdnpfaa
