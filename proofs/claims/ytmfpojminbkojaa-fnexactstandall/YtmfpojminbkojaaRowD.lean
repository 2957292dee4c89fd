/-
  Plain lemmas: rows, pairs, words; when a table is ok. No program is named here.
-/
import Derived.Test.YtmfpojminbkojaaEl
import GoSem.Op.String
namespace Go.Proofs.Ytmfpojminbkojaa
open Go.RowKit

structure RowV where
  k : ByteArray
  t : ByteArray
  f : Int
  e : Int
def rowC (r : RowV) : List Value := [.string r.k, .string r.t, .int .i64 r.f, .int .i64 r.e]
def row0 : RowV := ⟨ByteArray.empty, ByteArray.empty, 0, 0⟩
theorem rowC_len (r : RowV) : (rowC r).length = 4 := rfl
theorem rowC_one (r : RowV) : ∀ v ∈ rowC r, v.oneCell' = true := by intro v h; simp [rowC] at h; rcases h with rfl | rfl | rfl | rfl <;> rfl
structure PairV where
  k : ByteArray
  t : ByteArray
def pairC (r : PairV) : List Value := [.string r.k, .string r.t]
def pair0 : PairV := ⟨ByteArray.empty, ByteArray.empty⟩
theorem pairC_len (r : PairV) : (pairC r).length = 2 := rfl
theorem pairC_one (r : PairV) : ∀ v ∈ pairC r, v.oneCell' = true := by intro v h; simp [pairC] at h; rcases h with rfl | rfl <;> rfl
def textC (s : ByteArray) : List Value := [.string s]
theorem textC_len (r : ByteArray) : (textC r).length = 1 := rfl
theorem textC_one (r : ByteArray) : ∀ v ∈ textC r, v.oneCell' = true := by intro v h; simp [textC] at h; subst h; rfl

/-- The slice holds these rows, pairs, texts. -/
def RowsA (w : World) (A : Option Addr) (zs : List RowV) : Prop := ElAt rowC 4 w A zs
def PairsA (w : World) (A : Option Addr) (zs : List PairV) : Prop := ElAt pairC 2 w A zs
def TextsA (w : World) (A : Option Addr) (zs : List ByteArray) : Prop := ElAt textC 1 w A zs
theorem RowsA.below {w w' : World} {A : Option Addr} {l : List RowV} (h : RowsA w A l) (hb : Below w.heap.size w w') : RowsA w' A l := ElAt.below h hb
theorem PairsA.below {w w' : World} {A : Option Addr} {l : List PairV} (h : PairsA w A l) (hb : Below w.heap.size w w') : PairsA w' A l := ElAt.below h hb
theorem TextsA.below {w w' : World} {A : Option Addr} {l : List ByteArray} (h : TextsA w A l) (hb : Below w.heap.size w w') : TextsA w' A l := ElAt.below h hb
theorem RowsA.at_ {w : World} {A : Option Addr} {l : List RowV} (h : RowsA w A l) {i : Nat} (hi : i < l.length) : ∃ b off x, A = some ⟨b, off, none⟩ ∧ b < w.heap.size ∧ l[i]? = some x ∧ w.cell? ⟨b, off + i * 4, none⟩ = some (.string x.k) ∧ w.cell? ⟨b, off + i * 4 + 1, none⟩ = some (.string x.t) ∧ w.cell? ⟨b, off + i * 4 + 2, none⟩ = some (.int .i64 x.f) ∧ w.cell? ⟨b, off + i * 4 + 3, none⟩ = some (.int .i64 x.e) := by
  obtain ⟨b, off, e, hlt, hc⟩ := h (by omega)
  have hx : l[i]? = some l[i] := List.getElem?_eq_getElem hi
  exact ⟨b, off, _, e, hlt, hx, hc i _ hx 0 _ rfl, hc i _ hx 1 _ rfl, hc i _ hx 2 _ rfl, hc i _ hx 3 _ rfl⟩
theorem PairsA.at_ {w : World} {A : Option Addr} {l : List PairV} (h : PairsA w A l) {i : Nat} (hi : i < l.length) : ∃ b off x, A = some ⟨b, off, none⟩ ∧ b < w.heap.size ∧ l[i]? = some x ∧ w.cell? ⟨b, off + i * 2, none⟩ = some (.string x.k) ∧ w.cell? ⟨b, off + i * 2 + 1, none⟩ = some (.string x.t) := by
  obtain ⟨b, off, e, hlt, hc⟩ := h (by omega)
  have hx : l[i]? = some l[i] := List.getElem?_eq_getElem hi
  exact ⟨b, off, _, e, hlt, hx, hc i _ hx 0 _ rfl, hc i _ hx 1 _ rfl⟩
theorem TextsA.at_ {w : World} {A : Option Addr} {l : List ByteArray} (h : TextsA w A l) {i : Nat} (hi : i < l.length) : ∃ b off x, A = some ⟨b, off, none⟩ ∧ b < w.heap.size ∧ l[i]? = some x ∧ w.cell? ⟨b, off + i, none⟩ = some (.string x) := by
  obtain ⟨b, off, e, hlt, hc⟩ := h (by omega)
  have hx : l[i]? = some l[i] := List.getElem?_eq_getElem hi
  have := hc i _ hx 0 _ rfl
  rw [Nat.mul_one, Nat.add_zero] at this
  exact ⟨b, off, _, e, hlt, hx, this⟩

def letB (c : Int) : Bool := decide (97 ≤ c ∧ c ≤ 122 ∨ 48 ≤ c ∧ c ≤ 57 ∨ c = 43)
def letAt (s : ByteArray) (i : Nat) : Bool := if h : i < s.size then letB (s[i]'h).toNat else true
def lettersB (s : ByteArray) : Bool := (List.range s.size).all (letAt s)
def wordB (s : ByteArray) : Bool := decide (1 ≤ s.size ∧ s.size ≤ 9) && lettersB s
theorem letters_no {s : ByteArray} {i : Nat} (hi : i < s.size) (h : letB (s[i]'hi).toNat = false) : lettersB s = false := by
  unfold lettersB
  rw [List.all_eq_false]
  exact ⟨i, by simpa using hi, by simp [letAt, hi, h]⟩
theorem letters_yes {s : ByteArray} (h : ∀ i, i < s.size → letAt s i = true) : lettersB s = true := by
  unfold lettersB
  rw [List.all_eq_true]
  intro i hi
  exact h i (by simpa using hi)
theorem letAt_at {s : ByteArray} {i : Nat} (hi : i < s.size) : letAt s i = letB (s[i]'hi).toNat := by simp [letAt, hi]

def okSpan (a b : Int) : Bool := decide (0 ≤ a ∧ a < b ∧ b ≤ 100)
def rowOk (r : RowV) : Bool := wordB r.k && wordB r.t && okSpan r.f r.e
def leadB (a b : RowV) : Bool := if (a.k.toList == b.k.toList) = true then decide (a.e ≤ b.f) && !((a.t.toList == b.t.toList) && decide (a.e = b.f)) else Op.bytesLess a.k.toList b.k.toList
/-- Row i of a table is as it should be. -/
def relAt (zs : List RowV) (i : Nat) : Bool := rowOk (zs.getD i row0) && (i == 0 || leadB (zs.getD (i - 1) row0) (zs.getD i row0))
def relOk (zs : List RowV) : Bool := decide (zs.length ≤ 24) && (List.range zs.length).all (relAt zs)
theorem relOk_no {zs : List RowV} {k : Nat} (hk : k < zs.length) (h : relAt zs k = false) : relOk zs = false := by
  have : (List.range zs.length).all (relAt zs) = false := by
    rw [List.all_eq_false]
    exact ⟨k, by simpa using hk, by simp [h]⟩
  simp [relOk, this]
theorem relOk_long {zs : List RowV} (h : 24 < zs.length) : relOk zs = false := by
  have : decide (zs.length ≤ 24) = false := by simp; omega
  simp only [relOk, this, Bool.false_and]
theorem relOk_yes {zs : List RowV} (hl : zs.length ≤ 24) (h : ∀ j, j < zs.length → relAt zs j = true) : relOk zs = true := by
  have : (List.range zs.length).all (relAt zs) = true := by
    rw [List.all_eq_true]
    intro k hk
    exact h k (by simpa using hk)
  simp [relOk, this, hl]
theorem relOk_len {zs : List RowV} (h : relOk zs = true) : zs.length ≤ 24 := by
  simp only [relOk, Bool.and_eq_true, decide_eq_true_eq] at h
  exact h.1
theorem relOk_each {zs : List RowV} (h : relOk zs = true) {k : Nat} (hk : k < zs.length) : relAt zs k = true := by
  simp only [relOk, Bool.and_eq_true] at h
  exact List.all_eq_true.1 h.2 k (by simpa using hk)
theorem getD_of {zs : List RowV} {k : Nat} {x : RowV} (h : zs[k]? = some x) : zs.getD k row0 = x := by simp [List.getD, h]

theorem bytesLess_irrefl : ∀ l : List UInt8, Op.bytesLess l l = false
  | [] => rfl
  | a :: l => by simp [Op.bytesLess, bytesLess_irrefl l, UInt8.lt_irrefl]

/-- The model's two tests of neighbours. -/
def lessB (a b : RowV) : Bool := Op.bytesLess a.k.toList b.k.toList || (a.k.toList == b.k.toList) && decide (a.f < b.f)
def clashB (a b : RowV) : Bool := (a.k.toList == b.k.toList) && (decide (b.f < a.e) || decide (b.f = a.e) && (b.t.toList == a.t.toList))
theorem lead_eq (a b : RowV) (h : a.f < a.e) : leadB a b = (lessB a b && !clashB a b) := by
  unfold leadB lessB clashB
  by_cases hk : (a.k.toList == b.k.toList) = true
  · have he : a.k.toList = b.k.toList := by simpa using hk
    rw [if_pos hk, he, bytesLess_irrefl, Bool.eq_iff_iff]
    have hs : (b.t.toList == a.t.toList) = (a.t.toList == b.t.toList) := by
      rw [Bool.eq_iff_iff]; simp only [beq_iff_eq]; exact eq_comm
    rw [hs]
    cases ht : (a.t.toList == b.t.toList) <;> simp <;> omega
  · have hk' : (a.k.toList == b.k.toList) = false := by simpa using hk
    rw [if_neg hk, hk']
    simp
end Go.Proofs.Ytmfpojminbkojaa
