/-
  Plain lemmas: how long what is changed is; its texts. No walk.
-/
import Derived.Test.YtphinkcfmdnpfaaDmlS
namespace Go.Proofs.Ytphinkcfmdnpfaa
open Go.Shelf Go.RowKit Go.Lib Go.Sort

theorem fits_len {l old : List RowV} (h : old.length ≤ 24) : (fitsL l old).1.length ≤ 24 := by
  unfold fitsL
  split
  · assumption
  · exact h
theorem mergeS_len (zs : List RowV) (r : RowV) : (mergeS zs r).1.length ≤ 24 := by
  unfold mergeS
  split
  · rename_i h
    split
    · exact fits_len (relOk_len h)
    · exact relOk_len h
  · simp
theorem cut_texts {t : List RowV} {key : ByteArray} {a b : Int} {y : RowV} (h : y ∈ cutL t key a b) : ∃ x ∈ t, y.k = x.k ∧ y.t = x.t := by
  obtain ⟨x, hx, hy⟩ := List.mem_flatMap.1 h
  refine ⟨x, hx, ?_⟩
  unfold cutRow at hy
  split at hy
  · obtain ⟨q, -, rfl⟩ := List.mem_map.1 hy
    exact ⟨rfl, rfl⟩
  · rw [List.mem_singleton.1 hy]; exact ⟨rfl, rfl⟩
theorem short_cut {t : List RowV} {key : ByteArray} {a b : Int} (h : Short t) : Short (cutL t key a b) := fun y hy => by
  obtain ⟨x, hx, e1, e2⟩ := cut_texts hy
  rw [e1, e2]; exact h x hx
theorem short_put {t : List RowV} {r : RowV} (h : Short t) (hr : r.k.size ≤ maxLen ∧ r.t.size ≤ maxLen) : Short (putR t r) := fun y hy => by
  rcases putR_mem.1 hy with rfl | hy
  · exact hr
  · exact h y hy
theorem short_fits {l old : List RowV} (h1 : Short l) (h2 : Short old) : Short (fitsL l old).1 := by
  unfold fitsL
  split
  · exact h1
  · exact h2
theorem mergeS_short {zs : List RowV} {r : RowV} (h : Short zs) (hr : r.k.size ≤ maxLen ∧ r.t.size ≤ maxLen) : Short (mergeS zs r).1 := by
  unfold mergeS
  split
  · split
    · exact short_fits (short_put (short_cut h) hr).join h
    · exact h
  · intro y hy; cases hy
theorem short_set {zs : List RowV} {r : RowV} {k : Nat} (h : Short zs) (hr : r.k.size ≤ maxLen ∧ r.t.size ≤ maxLen) : Short (zs.set k r) := fun y hy => by
  rcases List.mem_or_eq_of_mem_set hy with hy | rfl
  · exact h y hy
  · exact hr
theorem short_snoc {zs : List RowV} {r : RowV} (h : Short zs) (hr : r.k.size ≤ maxLen ∧ r.t.size ≤ maxLen) : Short (zs ++ [r]) := fun y hy => by
  rcases List.mem_append.1 hy with hy | hy
  · exact h y hy
  · rw [List.mem_singleton.1 hy]; exact hr
theorem short20 {r : RowV} (h : r.k.size ≤ 20 ∧ r.t.size ≤ 20) : r.k.size ≤ maxLen ∧ r.t.size ≤ maxLen := by unfold maxLen; omega
end Go.Proofs.Ytphinkcfmdnpfaa
