/-
  Walks: what is to be done, by value: sizes, copies; when it is ok.
-/
import Derived.Test.YtphinkcfmdnpfaaRowT
namespace Go.Proofs.Ytphinkcfmdnpfaa
open Go.RowKit

def inTab (t : Int) : Bool := decide (0 ≤ t ∧ t ≤ 1)
def delOk (r : RowV) : Bool := wordB r.k && decide (r.t.size = 0) && okSpan r.f r.e
def opOk (k t : Int) (r : RowV) : Bool := inTab t && (if k = 2 then delOk r else decide (k = 1 ∨ k = 3 ∨ k = 4) && rowOk r)
theorem opOk_no {k t : Int} {r : RowV} (h : inTab t = false) : opOk k t r = false := by simp [opOk, h]
theorem opOk_del {k t : Int} {r : RowV} (h : inTab t = true) (hk : k = 2) : opOk k t r = delOk r := by simp [opOk, h, hk]
theorem opOk_row {k t : Int} {r : RowV} (h : inTab t = true) (hk : k = 1 ∨ k = 3 ∨ k = 4) : opOk k t r = rowOk r := by
  have : ¬ k = 2 := by omega
  simp [opOk, h, hk, this]
theorem opOk_none {k t : Int} {r : RowV} (h1 : ¬ k = 1) (h2 : ¬ k = 2) (h3 : ¬ k = 3) (h4 : ¬ k = 4) : opOk k t r = false := by simp [opOk, h1, h2, h3, h4]

/-- What szRow tells of a row. -/
def szL (r : RowV) (left : Int) : Int := if left - r.k.size < 0 then -1 else if left - r.k.size - r.t.size < 0 then -1 else left - r.k.size - r.t.size
theorem szL_or (r : RowV) (left : Int) : szL r left = -1 ∨ (0 ≤ szL r left ∧ szL r left ≤ left) := by
  unfold szL
  split
  · exact .inl rfl
  · split
    · exact .inl rfl
    · exact .inr ⟨by omega, by omega⟩

theorem empty_text {s : ByteArray} (h : ¬ s.size = 0) : (s.toList == (⟨#[]⟩ : ByteArray).toList) = false ∧ s.toList.isEmpty = false := by
  have h1 : (s.toList == (⟨#[]⟩ : ByteArray).toList) = false := by
    cases he : (s.toList == (⟨#[]⟩ : ByteArray).toList) with
    | false => rfl
    | true =>
      rw [beq_iff_eq, ByteArray.toList_eq, ByteArray.toList_eq] at he
      have h4 : s = ⟨#[]⟩ := by rw [ByteArray.ext_iff]; exact Array.ext' he
      exact absurd (by rw [h4]; rfl) h
  refine ⟨h1, ?_⟩
  cases he : s.toList with
  | nil => rw [he] at h1; simp [go_sem] at h1
  | cons a l => rfl
theorem size_nil {s : ByteArray} (h : s.size = 0) : s = ⟨#[]⟩ := by
  cases s with
  | mk d => simp [ByteArray.size] at h; subst h; rfl

theorem in_val (t : Int) (w : World) (v : Bool) (h : inTab t = v) :
    Calls Try.prog 101 #[.int .i64 t, .int .i64 0, .int .i64 1] w fun e w' => e = .returned (.bool v) ∧ w = w' := by
  subst h; exact in_any t 0 1 w
theorem rowS_val (r : RowV) (w : World) (v : Bool) (hk : r.k.size ≤ maxLen) (ht : r.t.size ≤ maxLen) (h : rowOk r = v) :
    Calls Try.prog 116 #[.agg #[.string r.k, .string r.t, .int .i64 r.f, .int .i64 r.e]] w fun e w' => e = .returned (.bool v) ∧ Below w.heap.size w w' := by
  subst h; exact l2RowOk_any r w hk ht

end Go.Proofs.Ytphinkcfmdnpfaa
