/-
  Walks: the last stamp at which anything of a key came or went.
-/
import Derived.Test.YtkalanjgjeijbaaStoreM
import Derived.Test.YtkalanjgjeijbaaStoreO
namespace Go.Proofs.Ytkalanjgjeijbaa
open Go.Shelf Go.RowKit Go.Lib Go.Sort

def chgL (x : VerV) : Int := if x.o = 999 then x.i else x.o
def stepL (key : ByteArray) (a : Int) (x : VerV) : Int := if (x.r.k.toList == key.toList) = true then max a (chgL x) else a
def lastTo (zs : List VerV) (key : ByteArray) (k : Nat) : Int := (zs.take k).foldl (stepL key) 0
def storeLastL (zs : List VerV) (now : Int) (key : ByteArray) : Int := if storeB zs now = true then lastTo zs key zs.length else -1
theorem lastTo_succ {zs : List VerV} {key : ByteArray} {k : Nat} {x : VerV} (hx : zs[k]? = some x) : lastTo zs key (k + 1) = stepL key (lastTo zs key k) x := by
  obtain ⟨hk, rfl⟩ := List.getElem?_eq_some_iff.1 hx
  unfold lastTo
  rw [List.take_succ_eq_append_getElem hk, List.foldl_append]
  rfl
theorem ver_in {zs : List VerV} {now : Int} (h : storeB zs now = true) {x : VerV} (hx : x ∈ zs) : 1 ≤ x.i ∧ x.i ≤ 30 ∧ x.i < x.o ∧ x.o ≤ 999 := by
  obtain ⟨h0, h1, _⟩ := storeB_iff.1 h
  obtain ⟨k, hk, rfl⟩ := List.mem_iff_getElem.1 hx
  simp only [versB, Bool.and_eq_true] at h1
  have h2 := List.all_eq_true.1 h1.2 k (by simpa using hk)
  rw [verAt, getV_of (List.getElem?_eq_getElem hk), Bool.and_eq_true] at h2
  have h3 := h2.1
  simp only [verB, Bool.and_eq_true, decide_eq_true_eq] at h3
  omega
theorem last_bd {zs : List VerV} {now : Int} (key : ByteArray) (h : storeB zs now = true) : ∀ k, 0 ≤ lastTo zs key k ∧ lastTo zs key k ≤ 999
  | 0 => by simp [lastTo]
  | k + 1 => by
    have ih := last_bd key h k
    by_cases hk : k < zs.length
    · rw [lastTo_succ (List.getElem?_eq_getElem hk), stepL]
      have := ver_in h (List.getElem_mem hk)
      unfold chgL
      split
      · split <;> omega
      · exact ih
    · have : lastTo zs key (k + 1) = lastTo zs key k := by
        unfold lastTo
        rw [List.take_of_length_le (by omega), List.take_of_length_le (by omega)]
      rw [this]; exact ih

end Go.Proofs.Ytkalanjgjeijbaa
