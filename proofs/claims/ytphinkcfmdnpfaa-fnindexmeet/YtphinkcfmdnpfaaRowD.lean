/-
  Plain lemmas: rows, pairs, words; when a table is ok. No program is named here.
-/
import Derived.WalkKit
import Derived.Below
import Derived.Laws.OwnMore
import Derived.Laws.MakeOwn
import Derived.Deep.Draws
import Derived.Lib.Hide
import GoSem.Op.String
namespace Go.Proofs.Ytphinkcfmdnpfaa
open Go.RowKit

theorem cellBelow {w w' : World} {n b o : Nat} {v : Value} (hb : Below n w w') (h : b < n) (hc : w.cell? ⟨b, o, none⟩ = some v) : w'.cell? ⟨b, o, none⟩ = some v :=
  (hb.cell (p := ⟨b, o, none⟩) h).trans hc

section
variable {α : Type} (enc : α → List Value)

/-- The cells of a list. -/
def flatOf : List α → List Value
  | [] => []
  | x :: l => enc x ++ flatOf l

/-- The slice's first cells hold these elements, each of sz cells. -/
def ElAt (sz : Nat) (w : World) (A : Option Addr) (l : List α) : Prop :=
  0 < l.length → ∃ b off, A = some ⟨b, off, none⟩ ∧ b < w.heap.size ∧ ∀ i x, l[i]? = some x → ∀ j u, (enc x)[j]? = some u → w.cell? ⟨b, off + i * sz + j, none⟩ = some u

variable {enc} {sz : Nat}

theorem ElAt.below {w w' : World} {A : Option Addr} {l : List α} (h : ElAt enc sz w A l) (hb : Below w.heap.size w w') : ElAt enc sz w' A l := fun hn => by
  obtain ⟨b, off, e, hlt, hc⟩ := h hn
  exact ⟨b, off, e, Nat.lt_of_lt_of_le hlt hb.size, fun i x hx j u hu => cellBelow hb hlt (hc i x hx j u hu)⟩
theorem ElAt.nil (w : World) (A : Option Addr) : ElAt enc sz w A ([] : List α) := fun h => absurd h (by simp)
/-- Another block than the row's was written. -/
theorem ElAt.grown {w w' : World} {A : Option Addr} {l : List α} {row : Option Nat} (h : ElAt enc sz w A l) (hg : w.grownBy w' row) (hr : ∀ b off, A = some ⟨b, off, none⟩ → some b ≠ row) : ElAt enc sz w' A l := fun hn => by
  obtain ⟨b, off, e, hlt, hc⟩ := h hn
  refine ⟨b, off, e, Nat.lt_of_lt_of_le hlt hg.size, fun i x hx j u hu => ?_⟩
  have := World.cell?_of_block (a := ⟨b, off + i * sz + j, none⟩) (hg.block b hlt (hr b off e))
  exact this.trans (hc i x hx j u hu)

theorem flatOf_length (hk : ∀ x, (enc x).length = sz) : ∀ l : List α, (flatOf enc l).length = l.length * sz
  | [] => by simp [flatOf]
  | x :: l => by simp [flatOf, flatOf_length hk l, hk, Nat.add_mul]; omega
theorem flatOf_append : ∀ l m : List α, flatOf enc (l ++ m) = flatOf enc l ++ flatOf enc m
  | [], m => rfl
  | x :: l, m => by simp [flatOf, flatOf_append l m]
theorem flatOf_one (x : α) : flatOf enc [x] = enc x := by simp [flatOf]
theorem flatOf_get (hk : ∀ x, (enc x).length = sz) : ∀ (l : List α) (i : Nat) (x : α) (j : Nat), l[i]? = some x → j < sz → (flatOf enc l)[i * sz + j]? = (enc x)[j]?
  | [], i, x, j, h, _ => by simp at h
  | y :: l, 0, x, j, h, hj => by
    simp at h
    subst h
    simp only [flatOf, Nat.zero_mul, Nat.zero_add]
    rw [List.getElem?_append_left (by rw [hk]; exact hj)]
  | y :: l, i + 1, x, j, h, hj => by
    have h' : l[i]? = some x := by simpa using h
    have := flatOf_get hk l i x j h' hj
    rw [flatOf, List.getElem?_append_right (by rw [hk, Nat.add_mul]; omega), hk, show (i + 1) * sz + j - sz = i * sz + j from by rw [Nat.add_mul]; omega]
    exact this

/-- Cells written one behind the other. -/
def setAll (l : List Value) (p : Nat) : List Value → List Value
  | [] => l
  | v :: vs => setAll (l.set p v) (p + 1) vs
theorem setAll_append : ∀ (vs a b : List Value), vs.length ≤ b.length → setAll (a ++ b) a.length vs = a ++ (vs ++ b.drop vs.length)
  | [], a, b, _ => by simp [setAll]
  | v :: vs, a, [], h => by simp at h
  | v :: vs, a, y :: b, h => by
    simp only [setAll]
    rw [List.set_append_right _ _ (Nat.le_refl _), Nat.sub_self, List.set_cons_zero]
    have := setAll_append vs (a ++ [v]) b (by simpa using h)
    rw [List.append_assoc, List.length_append, List.length_singleton] at this
    simp only [List.singleton_append] at this
    rw [this]
    simp
theorem flatOf_set (hk : ∀ x, (enc x).length = sz) (y : α) : ∀ (l : List α) (i : Nat), i < l.length → setAll (flatOf enc l) (i * sz) (enc y) = flatOf enc (l.set i y) := fun l i hi => by
  have e : l = l.take i ++ l.drop i := (List.take_append_drop i l).symm
  have e2 : l.drop i = l[i] :: l.drop (i + 1) := List.drop_eq_getElem_cons hi
  have e3 : flatOf enc l = flatOf enc (l.take i) ++ (enc l[i] ++ flatOf enc (l.drop (i + 1))) := by
    conv => lhs; rw [e, e2, flatOf_append, flatOf]
  have hl : (flatOf enc (l.take i)).length = i * sz := by rw [flatOf_length hk, List.length_take, Nat.min_eq_left (by omega)]
  rw [e3, ← hl, setAll_append _ _ _ (by rw [List.length_append, hk, hk]; omega)]
  rw [List.drop_append_of_le_length (by rw [hk, hk]; exact Nat.le_refl _), hk, List.drop_of_length_le (by rw [hk]; exact Nat.le_refl _), List.nil_append]
  have e4 : l.set i y = l.take i ++ y :: l.drop (i + 1) := by
    rw [List.set_eq_take_append_cons_drop, if_pos hi]
  rw [e4, flatOf_append, flatOf]
theorem flatOf_cells (h1 : ∀ x, ∀ v ∈ enc x, v.oneCell' = true) : ∀ (l : List α), ∀ u ∈ flatOf enc l, u.oneCell' = true
  | [], u, h => by simp [flatOf] at h
  | x :: l, u, h => by
    rcases List.mem_append.1 h with h | h
    · exact h1 x u h
    · exact flatOf_cells h1 l u h

theorem made_flatOf (hk : ∀ x, (enc x).length = sz) (hs : 0 < sz) (z : α) (zc : Array Value) (hz : zc.toList = enc z) (n : Nat) : (madeCells zc (n * sz)).toList = flatOf enc (List.replicate n z) := by
  have hzs : zc.size = sz := by rw [← hk z, ← hz]; simp
  apply List.ext_getElem?
  intro j
  by_cases hj : j < n * sz
  · obtain ⟨i, r, hr, rfl⟩ : ∃ i r, r < sz ∧ j = i * sz + r := ⟨j / sz, j % sz, Nat.mod_lt _ hs, by rw [Nat.mul_comm]; exact (Nat.div_add_mod j sz).symm⟩
    have hi : i < n := by
      rcases Nat.lt_or_ge i n with h | h
      · exact h
      · have : n * sz ≤ i * sz := Nat.mul_le_mul_right _ h
        omega
    rw [flatOf_get hk _ i z r (by simp [hi]) hr, ← hz]
    have hm : (i * sz + r) % sz = r := by rw [Nat.add_comm, Nat.add_mul_mod_self_right, Nat.mod_eq_of_lt hr]
    have hr' : r < zc.size := by omega
    have hg : zc[r]! = zc[r] := by simp [hr']
    simp [madeCells, hj, hzs, hm, hg]
  · rw [List.getElem?_eq_none (by simp [madeCells]; omega), List.getElem?_eq_none (by rw [flatOf_length hk]; simp; omega)]

theorem el_of_owns (hk : ∀ x, (enc x).length = sz) {w : World} {base cap : Nat} {e : TypeId} {A : Option Addr} {l : List α} (h : w.ownsRow base e sz (.slice A l.length cap) l.length (flatOf enc l)) : ElAt enc sz w A l := fun hn => by
  rcases h.2 with ⟨h0, h1⟩ | ⟨g, c, cur, e1, h2, h3, _⟩
  · simp at h0
    omega
  · injection e1 with e1 e2 e3
    subst e1
    refine ⟨g, 0, rfl, (Array.getElem?_eq_some_iff.1 h3).1, fun i x hx j u hu => ?_⟩
    have hi : i < l.length := (List.getElem?_eq_some_iff.1 hx).1
    have hj : j < sz := by rw [← hk x]; exact (List.getElem?_eq_some_iff.1 hu).1
    have hb : i * sz + j < l.length * sz := by
      have : (i + 1) * sz ≤ l.length * sz := Nat.mul_le_mul_right _ hi
      rw [Nat.add_mul] at this
      omega
    rw [Nat.zero_add, h.cellAt (i * sz + j) hb, flatOf_get hk l i x j hx hj, hu]

/-- What a function gives that makes a row of its own. -/
def GetsE (enc : α → List Value) (sz : Nat) (t : TypeId) (w : World) (zs : List α) (e : Ending) (w' : World) : Prop :=
  ∃ A cap, e = .returned (.slice A zs.length cap) ∧ w'.ownsRow w.heap.size t sz (.slice A zs.length cap) zs.length (flatOf enc zs) ∧ Below w.heap.size w w'

theorem owns_sliceE {w : World} {base : Nat} {t : TypeId} {v : Value} {zs : List α} (h : w.ownsRow base t sz v zs.length (flatOf enc zs)) : ∃ A cap, v = .slice A zs.length cap := by
  rcases h.2 with ⟨h0, h1⟩ | ⟨g, c, cur, e1, _⟩
  · exact ⟨none, 0, by rw [h0, h1]⟩
  · exact ⟨_, _, e1⟩
theorem belowGrown {w w' : World} (h : Below w.heap.size w w') (row : Option Nat) : w.grownBy w' row := ⟨h.os, h.tape, h.output, h.size, fun k hk _ => h.block k hk⟩
theorem grownTrans {a b c : World} {r : Option Nat} (h : a.grownBy b r) (k : b.grownBy c r) : a.grownBy c r :=
  ⟨k.os.trans h.os, k.tape.trans h.tape, k.output.trans h.output, Nat.le_trans h.size k.size, fun i hi hr => (k.block i (Nat.lt_of_lt_of_le hi h.size) hr).trans (h.block i hi hr)⟩
theorem ownsKeep {w w' : World} {base n s : Nat} {t : TypeId} {v : Value} {xs : List Value} (h : w.ownsRow base t s v n xs) (hb : Below w.heap.size w w') : w'.ownsRow base t s v n xs :=
  h.kept (belowGrown hb none) (by by_cases e : v.ownBlock = none; exact .inl e; exact .inr e)
/-- Of two rows the one lies behind all that was when the other was there. -/
theorem ownsApart {w w' : World} {base base' n n' B s s' : Nat} {t t' : TypeId} {v v' : Value} {xs xs' : List Value} (h : w.ownsRow base t s v n xs) (hB : w.heap.size ≤ B) (hb : B ≤ base') (h' : w'.ownsRow base' t' s' v' n' xs') : v.ownBlock = none ∨ v.ownBlock ≠ v'.ownBlock := by
  cases e : v.ownBlock with
  | none => exact .inl rfl
  | some k =>
    refine .inr fun e' => ?_
    have h1 := h.lt k e
    have h2 := h'.lt k e'.symm
    omega
theorem apSym {v v' : Value} (h : v.ownBlock = none ∨ v.ownBlock ≠ v'.ownBlock) : v'.ownBlock = none ∨ v'.ownBlock ≠ v.ownBlock := by
  rcases h with h | h
  · rw [h]
    cases e : v'.ownBlock with
    | none => exact .inl rfl
    | some k => exact .inr (by simp)
  · exact .inr (fun e => h e.symm)
theorem ownsBase {w : World} {base base' n : Nat} {v : Value} {xs : List Value} {e : TypeId} {size : Nat} (h : w.ownsRow base e size v n xs) (hb : base' ≤ base) : w.ownsRow base' e size v n xs := by
  refine ⟨h.1, ?_⟩
  rcases h.2 with hn | ⟨g', cap', cur, he, hb', rest⟩
  · exact .inl hn
  · exact .inr ⟨g', cap', cur, he, by omega, rest⟩
theorem ownsForm {w : World} {base n : Nat} {v : Value} {xs : List Value} {e : TypeId} {size : Nat} (h : w.ownsRow base e size v n xs) (hv : v ≠ .slice none 0 0) : ∃ g c, v = .slice (some ⟨g, 0, none⟩) n c ∧ base ≤ g ∧ g < w.heap.size := by
  rcases h.2 with hn | ⟨g', cap', cur, he, hb', hh, rest⟩
  · exact absurd hn.1 hv
  · exact ⟨g', cap', he, hb', (Array.getElem?_eq_some_iff.1 hh).1⟩
theorem getsE_after {t : TypeId} {w w1 w' : World} {zs : List α} {e : Ending} (h : GetsE enc sz t w1 zs e w') (hb : Below w.heap.size w w1) : GetsE enc sz t w zs e w' := by
  obtain ⟨A, cap, he, ho, hb'⟩ := h
  exact ⟨A, cap, he, ownsBase ho hb.size, hb.trans (hb'.mono hb.size)⟩
theorem getsE_nil (t : TypeId) (w w' : World) (hb : Below w.heap.size w w') : GetsE enc sz t w [] (.returned (.slice none 0 0)) w' := ⟨none, 0, rfl, World.ownsRow_nil _ _ _ _, hb⟩

/-- The first k, and noughts behind them. -/
def doneE (z : α) (zs : List α) (k : Nat) : List α := zs.take k ++ List.replicate (zs.length - k) z
theorem doneE_zero (z : α) (zs : List α) : doneE z zs 0 = List.replicate zs.length z := by simp [doneE]
theorem doneE_all (z : α) (zs : List α) : doneE z zs zs.length = zs := by simp [doneE]
theorem doneE_length (z : α) (zs : List α) (k : Nat) (hk : k ≤ zs.length) : (doneE z zs k).length = zs.length := by simp [doneE]; omega
theorem doneE_get (z : α) (zs : List α) (k : Nat) (hk : k < zs.length) : (doneE z zs k)[k]? = some z := by
  unfold doneE
  rw [List.getElem?_append_right (by rw [List.length_take]; omega), List.length_take, Nat.min_eq_left (by omega), Nat.sub_self, List.getElem?_replicate, if_pos (by omega)]
theorem doneE_set (z : α) (zs : List α) (k : Nat) (x : α) (hx : zs[k]? = some x) : (doneE z zs k).set k x = doneE z zs (k + 1) := by
  obtain ⟨hk, hx⟩ := List.getElem?_eq_some_iff.1 hx
  subst hx
  unfold doneE
  rw [List.take_succ_eq_append_getElem hk, List.set_append_right _ _ (by simp; omega), List.length_take, Nat.min_eq_left (by omega), Nat.sub_self,
    show zs.length - k = (zs.length - (k + 1)) + 1 from by omega, List.replicate_succ]
  simp only [List.set_cons_zero, List.append_assoc, List.cons_append, List.nil_append]

/-- The first k marked. -/
def markE (mk : Int → α) (d : Int) (k0 : Int) (n : Nat) : List α := (List.range n).map fun j : Nat => mk (k0 + d * (j : Int))
def markToE (mk : Int → α) (d : Int) (zs : List α) (k0 : Int) (i : Nat) : List α := markE mk d k0 i ++ zs.drop i
variable {mk : Int → α} {d : Int}
theorem markE_length (k0 : Int) (n : Nat) : (markE mk d k0 n).length = n := by simp [markE]
theorem markE_get (k0 : Int) (n j : Nat) (h : j < n) : (markE mk d k0 n)[j]? = some (mk (k0 + d * (j : Int))) := by simp [markE, h]
theorem markToE_zero (zs : List α) (k0 : Int) : markToE mk d zs k0 0 = zs := by simp [markToE, markE]
theorem markToE_all (zs : List α) (k0 : Int) : markToE mk d zs k0 zs.length = markE mk d k0 zs.length := by simp [markToE]
theorem markToE_length (zs : List α) (k0 : Int) (i : Nat) (h : i ≤ zs.length) : (markToE mk d zs k0 i).length = zs.length := by simp [markToE, markE]; omega
theorem markToE_get (zs : List α) (k0 : Int) (i : Nat) (h : i < zs.length) : (markToE mk d zs k0 i)[i]? = some zs[i] := by
  unfold markToE
  rw [List.getElem?_append_right (by rw [markE_length]; omega), markE_length, Nat.sub_self]
  simp [h]
theorem markToE_set (zs : List α) (k0 : Int) (i : Nat) (h : i < zs.length) : (markToE mk d zs k0 i).set i (mk (k0 + d * (i : Int))) = markToE mk d zs k0 (i + 1) := by
  unfold markToE
  rw [List.set_append_right _ _ (by rw [markE_length]; omega), markE_length, Nat.sub_self, List.drop_eq_getElem_cons h, List.set_cons_zero]
  simp [markE, List.range_succ]
end
end Go.Proofs.Ytphinkcfmdnpfaa
namespace Go.Proofs.Ytphinkcfmdnpfaa
open Go.RowKit

structure RowV where
  k : ByteArray
  t : ByteArray
  f : Int
  e : Int
def rowC (r : RowV) : List Value := [.string r.k, .string r.t, .int .i64 r.f, .int .i64 r.e]
def row0 : RowV := ⟨ByteArray.empty, ByteArray.empty, 0, 0⟩
theorem rowC_len (r : RowV) : (rowC r).length = 4 := rfl
theorem rowC_one (r : RowV) : ∀ v ∈ rowC r, v.oneCell' = true := by intro v h; simp [rowC] at h; rcases h with rfl | rfl | rfl | rfl <;> rfl
structure PairV where
  k : ByteArray
  t : ByteArray
def pairC (r : PairV) : List Value := [.string r.k, .string r.t]
def pair0 : PairV := ⟨ByteArray.empty, ByteArray.empty⟩
theorem pairC_len (r : PairV) : (pairC r).length = 2 := rfl
theorem pairC_one (r : PairV) : ∀ v ∈ pairC r, v.oneCell' = true := by intro v h; simp [pairC] at h; rcases h with rfl | rfl <;> rfl
def textC (s : ByteArray) : List Value := [.string s]
theorem textC_len (r : ByteArray) : (textC r).length = 1 := rfl
theorem textC_one (r : ByteArray) : ∀ v ∈ textC r, v.oneCell' = true := by intro v h; simp [textC] at h; subst h; rfl

/-- The slice holds these rows, pairs, texts. -/
def RowsA (w : World) (A : Option Addr) (zs : List RowV) : Prop := ElAt rowC 4 w A zs
def PairsA (w : World) (A : Option Addr) (zs : List PairV) : Prop := ElAt pairC 2 w A zs
def TextsA (w : World) (A : Option Addr) (zs : List ByteArray) : Prop := ElAt textC 1 w A zs
theorem RowsA.below {w w' : World} {A : Option Addr} {l : List RowV} (h : RowsA w A l) (hb : Below w.heap.size w w') : RowsA w' A l := ElAt.below h hb
theorem PairsA.below {w w' : World} {A : Option Addr} {l : List PairV} (h : PairsA w A l) (hb : Below w.heap.size w w') : PairsA w' A l := ElAt.below h hb
theorem TextsA.below {w w' : World} {A : Option Addr} {l : List ByteArray} (h : TextsA w A l) (hb : Below w.heap.size w w') : TextsA w' A l := ElAt.below h hb
theorem RowsA.at_ {w : World} {A : Option Addr} {l : List RowV} (h : RowsA w A l) {i : Nat} (hi : i < l.length) : ∃ b off x, A = some ⟨b, off, none⟩ ∧ b < w.heap.size ∧ l[i]? = some x ∧ w.cell? ⟨b, off + i * 4, none⟩ = some (.string x.k) ∧ w.cell? ⟨b, off + i * 4 + 1, none⟩ = some (.string x.t) ∧ w.cell? ⟨b, off + i * 4 + 2, none⟩ = some (.int .i64 x.f) ∧ w.cell? ⟨b, off + i * 4 + 3, none⟩ = some (.int .i64 x.e) := by
  obtain ⟨b, off, e, hlt, hc⟩ := h (by omega)
  have hx : l[i]? = some l[i] := List.getElem?_eq_getElem hi
  exact ⟨b, off, _, e, hlt, hx, hc i _ hx 0 _ rfl, hc i _ hx 1 _ rfl, hc i _ hx 2 _ rfl, hc i _ hx 3 _ rfl⟩
theorem PairsA.at_ {w : World} {A : Option Addr} {l : List PairV} (h : PairsA w A l) {i : Nat} (hi : i < l.length) : ∃ b off x, A = some ⟨b, off, none⟩ ∧ b < w.heap.size ∧ l[i]? = some x ∧ w.cell? ⟨b, off + i * 2, none⟩ = some (.string x.k) ∧ w.cell? ⟨b, off + i * 2 + 1, none⟩ = some (.string x.t) := by
  obtain ⟨b, off, e, hlt, hc⟩ := h (by omega)
  have hx : l[i]? = some l[i] := List.getElem?_eq_getElem hi
  exact ⟨b, off, _, e, hlt, hx, hc i _ hx 0 _ rfl, hc i _ hx 1 _ rfl⟩
theorem TextsA.at_ {w : World} {A : Option Addr} {l : List ByteArray} (h : TextsA w A l) {i : Nat} (hi : i < l.length) : ∃ b off x, A = some ⟨b, off, none⟩ ∧ b < w.heap.size ∧ l[i]? = some x ∧ w.cell? ⟨b, off + i, none⟩ = some (.string x) := by
  obtain ⟨b, off, e, hlt, hc⟩ := h (by omega)
  have hx : l[i]? = some l[i] := List.getElem?_eq_getElem hi
  have := hc i _ hx 0 _ rfl
  rw [Nat.mul_one, Nat.add_zero] at this
  exact ⟨b, off, _, e, hlt, hx, this⟩

def letB (c : Int) : Bool := decide (97 ≤ c ∧ c ≤ 122 ∨ 48 ≤ c ∧ c ≤ 57 ∨ c = 43)
def letAt (s : ByteArray) (i : Nat) : Bool := if h : i < s.size then letB (s[i]'h).toNat else true
def lettersB (s : ByteArray) : Bool := (List.range s.size).all (letAt s)
def wordB (s : ByteArray) : Bool := decide (1 ≤ s.size ∧ s.size ≤ 9) && lettersB s
theorem letters_no {s : ByteArray} {i : Nat} (hi : i < s.size) (h : letB (s[i]'hi).toNat = false) : lettersB s = false := by
  unfold lettersB
  rw [List.all_eq_false]
  exact ⟨i, by simpa using hi, by simp [letAt, hi, h]⟩
theorem letters_yes {s : ByteArray} (h : ∀ i, i < s.size → letAt s i = true) : lettersB s = true := by
  unfold lettersB
  rw [List.all_eq_true]
  intro i hi
  exact h i (by simpa using hi)
theorem letAt_at {s : ByteArray} {i : Nat} (hi : i < s.size) : letAt s i = letB (s[i]'hi).toNat := by simp [letAt, hi]

def okSpan (a b : Int) : Bool := decide (0 ≤ a ∧ a < b ∧ b ≤ 100)
def rowOk (r : RowV) : Bool := wordB r.k && wordB r.t && okSpan r.f r.e
def leadB (a b : RowV) : Bool := if (a.k.toList == b.k.toList) = true then decide (a.e ≤ b.f) && !((a.t.toList == b.t.toList) && decide (a.e = b.f)) else Op.bytesLess a.k.toList b.k.toList
/-- Row i of a table is as it should be. -/
def relAt (zs : List RowV) (i : Nat) : Bool := rowOk (zs.getD i row0) && (i == 0 || leadB (zs.getD (i - 1) row0) (zs.getD i row0))
def relOk (zs : List RowV) : Bool := decide (zs.length ≤ 24) && (List.range zs.length).all (relAt zs)
theorem relOk_no {zs : List RowV} {k : Nat} (hk : k < zs.length) (h : relAt zs k = false) : relOk zs = false := by
  have : (List.range zs.length).all (relAt zs) = false := by
    rw [List.all_eq_false]
    exact ⟨k, by simpa using hk, by simp [h]⟩
  simp [relOk, this]
theorem relOk_long {zs : List RowV} (h : 24 < zs.length) : relOk zs = false := by
  have : decide (zs.length ≤ 24) = false := by simp; omega
  simp only [relOk, this, Bool.false_and]
theorem relOk_yes {zs : List RowV} (hl : zs.length ≤ 24) (h : ∀ j, j < zs.length → relAt zs j = true) : relOk zs = true := by
  have : (List.range zs.length).all (relAt zs) = true := by
    rw [List.all_eq_true]
    intro k hk
    exact h k (by simpa using hk)
  simp [relOk, this, hl]
theorem relOk_len {zs : List RowV} (h : relOk zs = true) : zs.length ≤ 24 := by
  simp only [relOk, Bool.and_eq_true, decide_eq_true_eq] at h
  exact h.1
theorem relOk_each {zs : List RowV} (h : relOk zs = true) {k : Nat} (hk : k < zs.length) : relAt zs k = true := by
  simp only [relOk, Bool.and_eq_true] at h
  exact List.all_eq_true.1 h.2 k (by simpa using hk)
theorem getD_of {zs : List RowV} {k : Nat} {x : RowV} (h : zs[k]? = some x) : zs.getD k row0 = x := by simp [List.getD, h]

theorem bytesLess_irrefl : ∀ l : List UInt8, Op.bytesLess l l = false
  | [] => rfl
  | a :: l => by simp [Op.bytesLess, bytesLess_irrefl l, UInt8.lt_irrefl]

/-- The model's two tests of neighbours. -/
def lessB (a b : RowV) : Bool := Op.bytesLess a.k.toList b.k.toList || (a.k.toList == b.k.toList) && decide (a.f < b.f)
def clashB (a b : RowV) : Bool := (a.k.toList == b.k.toList) && (decide (b.f < a.e) || decide (b.f = a.e) && (b.t.toList == a.t.toList))
theorem lead_eq (a b : RowV) (h : a.f < a.e) : leadB a b = (lessB a b && !clashB a b) := by
  unfold leadB lessB clashB
  by_cases hk : (a.k.toList == b.k.toList) = true
  · have he : a.k.toList = b.k.toList := by simpa using hk
    rw [if_pos hk, he, bytesLess_irrefl, Bool.eq_iff_iff]
    have hs : (b.t.toList == a.t.toList) = (a.t.toList == b.t.toList) := by
      rw [Bool.eq_iff_iff]; simp only [beq_iff_eq]; exact eq_comm
    rw [hs]
    cases ht : (a.t.toList == b.t.toList) <;> simp <;> omega
  · have hk' : (a.k.toList == b.k.toList) = false := by simpa using hk
    rw [if_neg hk, hk']
    simp
end Go.Proofs.Ytphinkcfmdnpfaa
