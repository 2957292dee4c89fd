/-
  Walks: rows in order that touch become one; the table that they are.
-/
import Derived.Test.YtacddgipcafdlaaPut
import Derived.Test.YtacddgipcafdlaaRelS
namespace Go.Proofs.Ytacddgipcafdlaa
open Go.Shelf Go.RowKit Go.Lib Go.Sort

theorem rowsA_own {w : World} {base n : Nat} {A : Option Addr} {cap : Nat} {t : TypeId} {zs : List RowV} (h : w.ownsRow base t 4 (.slice A n cap) n (flatOf rowC zs)) (hn : n = zs.length) : RowsA w A zs := by
  subst hn
  intro h0
  rcases h.2 with ⟨e0, h1⟩ | ⟨g, c, cur, e0, hb, hg, _⟩
  · omega
  · injection e0 with e1 _ e3
    subst e1
    subst e3
    refine ⟨g, 0, rfl, (Array.getElem?_eq_some_iff.1 hg).1, fun i x hx j u hu => ?_⟩
    have hj : j < 4 := by have := (List.getElem?_eq_some_iff.1 hu).1; rwa [rowC_len] at this
    have hi : i < zs.length := (List.getElem?_eq_some_iff.1 hx).1
    rw [Nat.zero_add, h.cellAt (i * 4 + j) (by omega), flatOf_get rowC_len zs i x j hx hj]
    exact hu
/-- The last row of a list that a call owns. -/
theorem last_own {w : World} {base n : Nat} {v : Value} {o : List RowV} {y : RowV} (h : w.ownsRow base 72 4 v n (flatOf rowC (o ++ [y]))) (hn : n = o.length + 1) :
    ∃ g c, v = .slice (some ⟨g, 0, none⟩) n c ∧ base ≤ g ∧ g < w.heap.size ∧ w.cell? ⟨g, o.length * 4, none⟩ = some (.string y.k) ∧ w.cell? ⟨g, o.length * 4 + 1, none⟩ = some (.string y.t) ∧ w.cell? ⟨g, o.length * 4 + 2, none⟩ = some (.int .i64 y.f) ∧ w.cell? ⟨g, o.length * 4 + 3, none⟩ = some (.int .i64 y.e) ∧ ∀ j, w.frozen? ⟨g, j, none⟩ = false := by
  rcases h.2 with ⟨e0, h1⟩ | ⟨g, c, cur, e0, hb, hg, _⟩
  · omega
  · subst e0
    have hx : (o ++ [y])[o.length]? = some y := by simp
    have at_ : ∀ j, j < 4 → w.cell? ⟨g, o.length * 4 + j, none⟩ = (rowC y)[j]? := fun j hj => by
      rw [h.cellAt (o.length * 4 + j) (by omega), flatOf_get rowC_len (o ++ [y]) o.length y j hx hj]
    refine ⟨g, c, rfl, hb, (Array.getElem?_eq_some_iff.1 hg).1, at_ 0 (by omega), at_ 1 (by omega), at_ 2 (by omega), at_ 3 (by omega), fun j => ?_⟩
    simp [World.frozen?, hg]
theorem flat_last (o : List RowV) (y z : RowV) : ((((flatOf rowC (o ++ [y])).set (o.length * 4) (.string z.k)).set (o.length * 4 + 1) (.string z.t)).set (o.length * 4 + 2) (.int .i64 z.f)).set (o.length * 4 + 3) (.int .i64 z.e) = flatOf rowC (o ++ [z]) := by
  have hl : (flatOf rowC o).length = o.length * 4 := flatOf_length rowC_len o
  rw [flatOf_append, flatOf_append, flatOf_one, flatOf_one, ← hl]
  rw [List.set_append_right _ _ (by omega), List.set_append_right _ _ (by omega), List.set_append_right _ _ (by omega), List.set_append_right _ _ (by omega)]
  simp [rowC]
theorem newsFour {w : World} {g : Nat} {a b c d : Value} (h0 : w.cell? ⟨g, 0, none⟩ = some a) (h1 : w.cell? ⟨g, 1, none⟩ = some b) (h2 : w.cell? ⟨g, 2, none⟩ = some c) (h3 : w.cell? ⟨g, 3, none⟩ = some d) : ∀ j u, [a, b, c, d][j]? = some u → w.cell? ((⟨g, 0, none⟩ : Addr).add j) = some u := by
  intro j u h
  match j, h with
  | 0, h => simp at h; subst h; simpa [Addr.add] using h0
  | 1, h => simp at h; subst h; simpa [Addr.add] using h1
  | 2, h => simp at h; subst h; simpa [Addr.add] using h2
  | 3, h => simp at h; subst h; simpa [Addr.add] using h3
  | j + 4, h => simp at h
/-- Behind the test whether two rows touch: what was told, and where the one row lies. -/
def AtJoin (W : World) (y x : RowV) (s9 s10 : Value) (wx : World) : Prop :=
  ∃ (g' : Nat) (r : RowV), s9 = .pointer (some ⟨g', 0, none⟩) ∧ s10 = .bool (joinB y x) ∧ (joinB y x = true → r = ⟨y.k, y.t, y.f, x.e⟩) ∧ wx.cell? ⟨g', 0, none⟩ = some (.string r.k) ∧ wx.cell? ⟨g', 1, none⟩ = some (.string r.t) ∧ wx.cell? ⟨g', 2, none⟩ = some (.int .i64 r.f) ∧ wx.cell? ⟨g', 3, none⟩ = some (.int .i64 r.e) ∧ W.heap.size ≤ g' ∧ Below W.heap.size W wx
theorem touch_join (a b : RowV) : touchB a b = joinB a b := rfl

theorem joinStep_all {p : RowV → Prop} (hj : ∀ y x, p y → p x → p (joinR y x)) {out : List RowV} {x : RowV} (h1 : ∀ y ∈ out, p y) (h2 : p x) : ∀ y ∈ joinStep out x, p y := by
  rcases List.eq_nil_or_concat out with h | ⟨o, z, h⟩
  · subst h; intro y hy; simp [joinStep] at hy; subst hy; exact h2
  · rw [List.concat_eq_append] at h
    subst h
    rw [joinStep_at]
    have hz : p z := h1 z (by simp)
    have ho : ∀ y ∈ o, p y := fun y hy => h1 y (by simp [hy])
    by_cases ht : touchB z x = true
    · rw [if_pos ht]
      intro y hy
      rcases List.mem_append.1 hy with hy | hy
      · exact ho y hy
      · rw [List.mem_singleton.1 hy]; exact hj z x hz h2
    · rw [if_neg ht]
      intro y hy
      rcases List.mem_append.1 hy with hy | hy
      · exact h1 y hy
      · rw [List.mem_singleton.1 hy]; exact h2
theorem joinRows_all {p : RowV → Prop} (hj : ∀ y x, p y → p x → p (joinR y x)) {zs : List RowV} (h : ∀ x ∈ zs, p x) : ∀ x ∈ joinRows zs, p x := by
  have : ∀ (l out : List RowV), (∀ y ∈ out, p y) → (∀ x ∈ l, p x) → ∀ y ∈ l.foldl joinStep out, p y := by
    intro l
    induction l with
    | nil => intro out h1 _ y hy; exact h1 y hy
    | cons x l ih => intro out h1 h2; exact ih _ (joinStep_all hj h1 (h2 x (by simp))) (fun z hz => h2 z (by simp [hz]))
  exact this zs [] (by intro y hy; cases hy) h
theorem owns_baseE {w : World} {base base' n : Nat} {v : Value} {xs : List Value} {e : TypeId} {size : Nat} (h : w.ownsRow base e size v n xs) (hb : base' ≤ base) : w.ownsRow base' e size v n xs :=
  ⟨h.1, h.2.imp id fun ⟨g, c, cur, e1, e2, r⟩ => ⟨g, c, cur, e1, Nat.le_trans hb e2, r⟩⟩
/-- Texts that are not too long for a machine. -/
def Short (zs : List RowV) : Prop := ∀ r ∈ zs, r.k.size ≤ maxLen ∧ r.t.size ≤ maxLen
theorem Short.join {zs : List RowV} (h : Short zs) : Short (joinRows zs) := joinRows_all (p := fun r => r.k.size ≤ maxLen ∧ r.t.size ≤ maxLen) (fun _ _ hy _ => hy) h
theorem Short.perm {zs l : List RowV} (h : Short zs) (hp : l.Perm zs) : Short l := fun r hr => h r (hp.subset hr)
/-- The table of rows in order, and whether it is one. -/
def tableP (s : List RowV) : List RowV × Bool := if relOk (joinRows s) = true then (joinRows s, true) else ([], false)
/-- A slice of rows and a bool. -/
def GetsRB (w : World) (p : List RowV × Bool) (e : Ending) (w' : World) : Prop :=
  ∃ A cap, e = .returned (.tuple #[.slice A p.1.length cap, .bool p.2]) ∧ w'.ownsRow w.heap.size 72 4 (.slice A p.1.length cap) p.1.length (flatOf rowC p.1) ∧ Below w.heap.size w w'

end Go.Proofs.Ytacddgipcafdlaa
