/-
  Walks: the table of rows in any order.
-/
import Derived.Test.YtmfpojminbkojaaElK
import Derived.Test.YtmfpojminbkojaaRelQ
import Derived.Laws.AppendOwnNone
import Derived.OwnWalk
import Derived.Test.YtmfpojminbkojaaRelS
import Derived.Laws.EntriesVeiled
namespace Go.Proofs.Ytmfpojminbkojaa
open Go.Shelf Go.RowKit Go.Lib Go.Sort

theorem Try.infoR63 : (Try.prog.info? 63).map (fun i => (i.zero, i.size, i.bytes)) = some (some (.agg #[.string ⟨#[]⟩, .string ⟨#[]⟩, .int .i64 0, .int .i64 0]), 4, 48) := by kernel_rfl

/-- A slice whose cells can be read. -/
def Src (w : World) (u : Value) (ms : List RowV) : Prop := (u = .slice none 0 0 ∧ ms = []) ∨ ∃ ad c, u = .slice (some ad) ms.length c ∧ ∀ j x, (flatOf rowC ms)[j]? = some x → w.cell? (ad.add j) = some x
theorem flat_oneR (l : List RowV) : ∀ u ∈ flatOf rowC l, u.oneCell' = true := by
  induction l with
  | nil => intro u hu; cases hu
  | cons x l ih =>
    intro u hu
    rw [flatOf, List.mem_append] at hu
    rcases hu with hu | hu
    · exact rowC_one x u hu
    · exact ih u hu
theorem addr_add (b off j : Nat) : (⟨b, off, none⟩ : Addr).add j = ⟨b, off + j, none⟩ := by
  cases j with
  | zero => simp [Addr.add]
  | succ j => simp [Addr.add]
theorem src_of {w : World} {A : Option Addr} {zs : List RowV} {cap : Nat} (h : RowsA w A zs) (hA : A = none → cap = 0) : Src w (.slice A zs.length cap) zs := by
  cases zs with
  | nil =>
    cases A with
    | none => rw [hA rfl]; exact .inl ⟨rfl, rfl⟩
    | some a => exact .inr ⟨a, cap, rfl, fun j x hx => by simp [flatOf] at hx⟩
  | cons z zs =>
    obtain ⟨b, off, rfl, hb, hc⟩ := h (by simp)
    refine .inr ⟨⟨b, off, none⟩, cap, rfl, fun j x hx => ?_⟩
    have hj : j < (flatOf rowC (z :: zs)).length := (List.getElem?_eq_some_iff.1 hx).1
    rw [flatOf_length rowC_len] at hj
    have hi : j / 4 < (z :: zs).length := by omega
    have hy : (z :: zs)[j / 4]? = some (z :: zs)[j / 4] := List.getElem?_eq_getElem hi
    have h1 := flatOf_get rowC_len (z :: zs) (j / 4) _ (j % 4) hy (by omega)
    rw [show j / 4 * 4 + j % 4 = j by omega, hx] at h1
    have := hc (j / 4) _ hy (j % 4) x h1.symm
    rw [addr_add]
    rwa [show off + j / 4 * 4 + j % 4 = off + j by omega] at this
theorem owns_nilcap {w : World} {base n k cap : Nat} {A : Option Addr} {t : TypeId} {xs : List Value} (h : w.ownsRow base t k (.slice A n cap) n xs) (hA : A = none) : cap = 0 := by
  subst hA
  rcases h.2 with ⟨e0, _⟩ | ⟨g, c, cur, e0, _⟩
  · injection e0
  · cases e0
theorem wpList_append_src {P : Program} (w : World) {ops : Array Oper} {rest : List Oper} {o : Oper} {a : Act} {Q : Exit → Act → World → Prop} (hgd : o.guard = none) (s x : Operand) (t : TypeId)
    (ho : o.op = .call { callee := .builtin .append, args := #[s, x], argTypes := #[t, t] }) (base : Nat) (e : TypeId) (i : TypeInfo) (z : Value) (bytes : Nat)
    (ht : P.underlying t = some (.slice e)) (hi : P.info? e = some i) (hz : i.zero = some z) (hsize : i.size = 4) (hby : i.bytes = bytes) (hzs : z.cells.size = 4)
    (v : Value) (n : Nat) (zs : List RowV) (hs : a.eval s = v) (hown : w.ownsRow base e 4 v n (flatOf rowC zs)) (u : Value) (ms : List RowV) (hx : a.eval x = u) (hu : Src w u ms)
    (h63 : n + ms.length ≤ maxLen) (hbytes : (n + ms.length) * bytes ≤ 140737488355328) (hbase : base ≤ w.heap.size)
    (h : ∀ v' w', w'.ownsRow base e 4 v' (n + ms.length) (flatOf rowC (zs ++ ms)) → w.grownBy w' v.ownBlock → wpList P ops Q rest (a.put o.dst v') w') : wpList P ops Q (o :: rest) a w := by
  rcases hu with ⟨rfl, rfl⟩ | ⟨ad, c, rfl, hc⟩
  · exact wpList_append_own_none hgd s x t ho base e i 4 ht hi v n _ hs hown hx (h v w (by simpa using hown) ⟨rfl, rfl, rfl, Nat.le_refl _, fun _ _ _ => rfl⟩)
  · exact wpList_append_own _ hgd s x t ho base e i z 4 bytes ht hi hz hsize hby hzs (by omega) v n _ hs hown ad ms.length c (flatOf rowC ms) hx (flatOf_length rowC_len ms) hc (flat_oneR ms) h63 hbytes hbase (fun v' w' h1 h2 _ => h v' w' (by rw [flatOf_append]; exact h1) h2)

theorem owns_formN {w : World} {base n k : Nat} {t : TypeId} {v : Value} {xs : List Value} (h : w.ownsRow base t k v n xs) : ∃ A cap, v = .slice A n cap := by
  rcases h.2 with ⟨e0, h0⟩ | ⟨g, cap, cur, e0, _⟩
  · exact ⟨none, 0, by rw [e0, h0]⟩
  · exact ⟨_, _, e0⟩

end Go.Proofs.Ytmfpojminbkojaa
namespace Go.Proofs.Ytmfpojminbkojaa
open Go.Shelf Go.RowKit Go.Lib Go.Sort

theorem rowsA_own {w : World} {base n : Nat} {A : Option Addr} {cap : Nat} {t : TypeId} {zs : List RowV} (h : w.ownsRow base t 4 (.slice A n cap) n (flatOf rowC zs)) (hn : n = zs.length) : RowsA w A zs := by
  subst hn
  intro h0
  rcases h.2 with ⟨e0, h1⟩ | ⟨g, c, cur, e0, hb, hg, _⟩
  · omega
  · injection e0 with e1 _ e3
    subst e1
    subst e3
    refine ⟨g, 0, rfl, (Array.getElem?_eq_some_iff.1 hg).1, fun i x hx j u hu => ?_⟩
    have hj : j < 4 := by have := (List.getElem?_eq_some_iff.1 hu).1; rwa [rowC_len] at this
    have hi : i < zs.length := (List.getElem?_eq_some_iff.1 hx).1
    rw [Nat.zero_add, h.cellAt (i * 4 + j) (by omega), flatOf_get rowC_len zs i x j hx hj]
    exact hu
/-- The last row of a list that a call owns. -/
theorem last_own {w : World} {base n : Nat} {v : Value} {o : List RowV} {y : RowV} (h : w.ownsRow base 63 4 v n (flatOf rowC (o ++ [y]))) (hn : n = o.length + 1) :
    ∃ g c, v = .slice (some ⟨g, 0, none⟩) n c ∧ base ≤ g ∧ g < w.heap.size ∧ w.cell? ⟨g, o.length * 4, none⟩ = some (.string y.k) ∧ w.cell? ⟨g, o.length * 4 + 1, none⟩ = some (.string y.t) ∧ w.cell? ⟨g, o.length * 4 + 2, none⟩ = some (.int .i64 y.f) ∧ w.cell? ⟨g, o.length * 4 + 3, none⟩ = some (.int .i64 y.e) ∧ ∀ j, w.frozen? ⟨g, j, none⟩ = false := by
  rcases h.2 with ⟨e0, h1⟩ | ⟨g, c, cur, e0, hb, hg, _⟩
  · omega
  · subst e0
    have hx : (o ++ [y])[o.length]? = some y := by simp
    have at_ : ∀ j, j < 4 → w.cell? ⟨g, o.length * 4 + j, none⟩ = (rowC y)[j]? := fun j hj => by
      rw [h.cellAt (o.length * 4 + j) (by omega), flatOf_get rowC_len (o ++ [y]) o.length y j hx hj]
    refine ⟨g, c, rfl, hb, (Array.getElem?_eq_some_iff.1 hg).1, at_ 0 (by omega), at_ 1 (by omega), at_ 2 (by omega), at_ 3 (by omega), fun j => ?_⟩
    simp [World.frozen?, hg]
theorem flat_last (o : List RowV) (y z : RowV) : ((((flatOf rowC (o ++ [y])).set (o.length * 4) (.string z.k)).set (o.length * 4 + 1) (.string z.t)).set (o.length * 4 + 2) (.int .i64 z.f)).set (o.length * 4 + 3) (.int .i64 z.e) = flatOf rowC (o ++ [z]) := by
  have hl : (flatOf rowC o).length = o.length * 4 := flatOf_length rowC_len o
  rw [flatOf_append, flatOf_append, flatOf_one, flatOf_one, ← hl]
  rw [List.set_append_right _ _ (by omega), List.set_append_right _ _ (by omega), List.set_append_right _ _ (by omega), List.set_append_right _ _ (by omega)]
  simp [rowC]
theorem newsFour {w : World} {g : Nat} {a b c d : Value} (h0 : w.cell? ⟨g, 0, none⟩ = some a) (h1 : w.cell? ⟨g, 1, none⟩ = some b) (h2 : w.cell? ⟨g, 2, none⟩ = some c) (h3 : w.cell? ⟨g, 3, none⟩ = some d) : ∀ j u, [a, b, c, d][j]? = some u → w.cell? ((⟨g, 0, none⟩ : Addr).add j) = some u := by
  intro j u h
  match j, h with
  | 0, h => simp at h; subst h; simpa [Addr.add] using h0
  | 1, h => simp at h; subst h; simpa [Addr.add] using h1
  | 2, h => simp at h; subst h; simpa [Addr.add] using h2
  | 3, h => simp at h; subst h; simpa [Addr.add] using h3
  | j + 4, h => simp at h
/-- Behind the test whether two rows touch: what was told, and where the one row lies. -/
def AtJoin (W : World) (y x : RowV) (s9 s10 : Value) (wx : World) : Prop :=
  ∃ (g' : Nat) (r : RowV), s9 = .pointer (some ⟨g', 0, none⟩) ∧ s10 = .bool (joinB y x) ∧ (joinB y x = true → r = ⟨y.k, y.t, y.f, x.e⟩) ∧ wx.cell? ⟨g', 0, none⟩ = some (.string r.k) ∧ wx.cell? ⟨g', 1, none⟩ = some (.string r.t) ∧ wx.cell? ⟨g', 2, none⟩ = some (.int .i64 r.f) ∧ wx.cell? ⟨g', 3, none⟩ = some (.int .i64 r.e) ∧ W.heap.size ≤ g' ∧ Below W.heap.size W wx
theorem touch_join (a b : RowV) : touchB a b = joinB a b := rfl

theorem joinStep_all {p : RowV → Prop} (hj : ∀ y x, p y → p x → p (joinR y x)) {out : List RowV} {x : RowV} (h1 : ∀ y ∈ out, p y) (h2 : p x) : ∀ y ∈ joinStep out x, p y := by
  rcases List.eq_nil_or_concat out with h | ⟨o, z, h⟩
  · subst h; intro y hy; simp [joinStep] at hy; subst hy; exact h2
  · rw [List.concat_eq_append] at h
    subst h
    rw [joinStep_at]
    have hz : p z := h1 z (by simp)
    have ho : ∀ y ∈ o, p y := fun y hy => h1 y (by simp [hy])
    by_cases ht : touchB z x = true
    · rw [if_pos ht]
      intro y hy
      rcases List.mem_append.1 hy with hy | hy
      · exact ho y hy
      · rw [List.mem_singleton.1 hy]; exact hj z x hz h2
    · rw [if_neg ht]
      intro y hy
      rcases List.mem_append.1 hy with hy | hy
      · exact h1 y hy
      · rw [List.mem_singleton.1 hy]; exact h2
theorem joinRows_all {p : RowV → Prop} (hj : ∀ y x, p y → p x → p (joinR y x)) {zs : List RowV} (h : ∀ x ∈ zs, p x) : ∀ x ∈ joinRows zs, p x := by
  have : ∀ (l out : List RowV), (∀ y ∈ out, p y) → (∀ x ∈ l, p x) → ∀ y ∈ l.foldl joinStep out, p y := by
    intro l
    induction l with
    | nil => intro out h1 _ y hy; exact h1 y hy
    | cons x l ih => intro out h1 h2; exact ih _ (joinStep_all hj h1 (h2 x (by simp))) (fun z hz => h2 z (by simp [hz]))
  exact this zs [] (by intro y hy; cases hy) h
theorem owns_baseE {w : World} {base base' n : Nat} {v : Value} {xs : List Value} {e : TypeId} {size : Nat} (h : w.ownsRow base e size v n xs) (hb : base' ≤ base) : w.ownsRow base' e size v n xs :=
  ⟨h.1, h.2.imp id fun ⟨g, c, cur, e1, e2, r⟩ => ⟨g, c, cur, e1, Nat.le_trans hb e2, r⟩⟩
/-- Texts that are not too long for a machine. -/
def Short (zs : List RowV) : Prop := ∀ r ∈ zs, r.k.size ≤ maxLen ∧ r.t.size ≤ maxLen
theorem Short.join {zs : List RowV} (h : Short zs) : Short (joinRows zs) := joinRows_all (p := fun r => r.k.size ≤ maxLen ∧ r.t.size ≤ maxLen) (fun _ _ hy _ => hy) h
theorem Short.perm {zs l : List RowV} (h : Short zs) (hp : l.Perm zs) : Short l := fun r hr => h r (hp.subset hr)
/-- The table of rows in order, and whether it is one. -/
def tableP (s : List RowV) : List RowV × Bool := if relOk (joinRows s) = true then (joinRows s, true) else ([], false)
/-- A slice of rows and a bool. -/
def GetsRB (w : World) (p : List RowV × Bool) (e : Ending) (w' : World) : Prop :=
  ∃ A cap, e = .returned (.tuple #[.slice A p.1.length cap, .bool p.2]) ∧ w'.ownsRow w.heap.size 63 4 (.slice A p.1.length cap) p.1.length (flatOf rowC p.1) ∧ Below w.heap.size w w'

end Go.Proofs.Ytmfpojminbkojaa
namespace Go.Proofs.Ytmfpojminbkojaa
open Go.Shelf Go.RowKit Go.Lib Go.Sort

theorem relOf_bad {zs : List RowV} {x : RowV} (hx : x ∈ zs) (h : rowOk x = false) : relOfL zs = [] := by
  unfold relOfL
  cases e : layAll [] zs with
  | none => rfl
  | some m =>
    obtain ⟨_, h2, h3⟩ := layAll_some zs [] m List.Pairwise.nil (by intro x hx; cases hx) e
    rw [List.append_nil] at h3
    rw [h2 x (h3.symm.subset hx)] at h
    cases h
theorem tableP_L (s : List RowV) : (tableP s).1 = tableL s := by
  unfold tableP tableL
  split <;> rfl
theorem relOf_len (zs : List RowV) : (relOfL zs).length ≤ 24 := by
  unfold relOfL
  cases layAll [] zs with
  | none => simp
  | some m =>
    show (if (joinRows m).length ≤ 24 then joinRows m else []).length ≤ 24
    split
    · assumption
    · simp

end Go.Proofs.Ytmfpojminbkojaa
