/-
  Plain: tables changed for a while.
-/
import Derived.Test.YtphinkcfmdnpfaaRowD
import Derived.Sort.LotA
namespace Go.Proofs.Ytphinkcfmdnpfaa
open Go.RowKit

/-! ### keys in order -/
def kl (a b : ByteArray) : Bool := Op.bytesLess a.toList b.toList
theorem bLess_eq : ∀ (x y : List UInt8), Op.bytesLess x y = decide (x < y)
  | [], [] => by simp [Op.bytesLess]
  | _ :: _, [] => by simp [Op.bytesLess]
  | [], _ :: _ => by simp [Op.bytesLess]
  | a :: x, b :: y => by
    rw [Op.bytesLess, bLess_eq x y]
    simp only [List.cons_lt_cons_iff]
    by_cases h1 : a < b <;> by_cases h2 : a = b <;> by_cases h3 : x < y <;> simp [h1, h2, h3]
theorem kl_irrefl (a : ByteArray) : kl a a = false := bytesLess_irrefl _
theorem kl_trans {a b c : ByteArray} (h1 : kl a b = true) (h2 : kl b c = true) : kl a c = true := by
  unfold kl at *
  rw [bLess_eq, decide_eq_true_eq] at *
  exact List.lt_trans h1 h2
theorem kl_same {a b : ByteArray} (h1 : kl a b = false) (h2 : kl b a = false) : a = b := by
  unfold kl at *
  rw [bLess_eq, decide_eq_false_iff_not, List.not_lt] at *
  have := List.le_antisymm h2 h1
  rw [ByteArray.toList_eq, ByteArray.toList_eq] at this
  rw [ByteArray.ext_iff]
  exact Array.ext' this
theorem same_key {a b : ByteArray} : (a.toList == b.toList) = true ↔ a = b := by
  rw [beq_iff_eq]
  constructor
  · intro h
    rw [ByteArray.toList_eq, ByteArray.toList_eq] at h
    rw [ByteArray.ext_iff]
    exact Array.ext' h
  · intro h; rw [h]
theorem kl_asymm {a b : ByteArray} (h : kl a b = true) : kl b a = false := by
  cases h2 : kl b a with
  | false => rfl
  | true => have := kl_trans h h2; rw [kl_irrefl] at this; cases this

theorem lessB_iff {x y : RowV} : lessB x y = true ↔ kl x.k y.k = true ∨ (x.k = y.k ∧ x.f < y.f) := by
  unfold lessB
  show (kl x.k y.k || _) = true ↔ _
  rw [Bool.or_eq_true, Bool.and_eq_true, same_key, decide_eq_true_eq]
theorem lessB_no {x y : RowV} : lessB x y = false ↔ kl y.k x.k = true ∨ (x.k = y.k ∧ y.f ≤ x.f) := by
  rw [← Bool.not_eq_true, lessB_iff]
  constructor
  · intro h
    cases h1 : kl y.k x.k with
    | true => exact .inl rfl
    | false =>
      have hk := kl_same (by simpa using fun e => h (.inl e)) h1
      exact .inr ⟨hk, by
        by_cases hf : x.f < y.f
        · exact absurd (.inr ⟨hk, hf⟩) h
        · omega⟩
  · rintro (h | ⟨hk, hf⟩) (h' | ⟨hk', hf'⟩)
    · rw [kl_asymm h] at h'; cases h'
    · rw [hk', kl_irrefl] at h; cases h
    · rw [hk, kl_irrefl] at h'; cases h'
    · omega
theorem swoRow : Go.Sort.SWO lessB where
  irrefl x := lessB_no.2 (.inr ⟨rfl, Int.le_refl _⟩)
  trans x y z h1 h2 := by
    rw [lessB_iff] at *
    rcases h1 with h1 | ⟨h1, h1'⟩ <;> rcases h2 with h2 | ⟨h2, h2'⟩
    · exact .inl (kl_trans h1 h2)
    · exact .inl (h2 ▸ h1)
    · exact .inl (h1 ▸ h2)
    · exact .inr ⟨h1.trans h2, by omega⟩
  ntrans x y z h1 h2 := by
    rw [lessB_no] at *
    rcases h1 with h1 | ⟨h1, h1'⟩ <;> rcases h2 with h2 | ⟨h2, h2'⟩
    · exact .inl (kl_trans h2 h1)
    · exact .inl (h2 ▸ h1)
    · exact .inl (h1 ▸ h2)
    · exact .inr ⟨h1.trans h2, by omega⟩

/-! ### rows that do not meet, in order -/
def spanOk (x : RowV) : Prop := 0 ≤ x.f ∧ x.f < x.e ∧ x.e ≤ 100
def adj (x y : RowV) : Prop := kl x.k y.k = true ∨ (x.k = y.k ∧ x.e ≤ y.f)
theorem adj_trans {x y z : RowV} (hy : y.f < y.e) (h1 : adj x y) (h2 : adj y z) : adj x z := by
  rcases h1 with h1 | ⟨h1, h1'⟩ <;> rcases h2 with h2 | ⟨h2, h2'⟩
  · exact .inl (kl_trans h1 h2)
  · exact .inl (h2 ▸ h1)
  · exact .inl (h1 ▸ h2)
  · exact .inr ⟨h1.trans h2, by omega⟩
theorem adj_less {x y : RowV} (hx : x.f < x.e) (h : adj x y) : lessB x y = true := by
  rw [lessB_iff]
  rcases h with h | ⟨h, h'⟩
  · exact .inl h
  · exact .inr ⟨h, by omega⟩
/-- In order, no two of a key at once. -/
def Apart (l : List RowV) : Prop := l.Pairwise adj
/-- In order by key and beginning. -/
def Ordered (l : List RowV) : Prop := l.Pairwise fun x y => lessB y x = false
theorem apart_unique : ∀ (s l : List RowV), Ordered s → Apart l → (∀ x ∈ l, x.f < x.e) → s.Perm l → s = l
  | [], l, _, _, _, hp => (List.nil_perm.1 hp).symm
  | x :: s, [], _, _, _, hp => absurd (List.Perm.length_eq hp) (by simp)
  | x :: s, y :: l, hs, hl, hv, hp => by
    have hs' := List.pairwise_cons.1 hs
    have hl' := List.pairwise_cons.1 hl
    have hxy : x = y := by
      rcases List.mem_cons.1 (hp.subset (List.mem_cons_self ..)) with h | h
      · exact h
      · rcases List.mem_cons.1 (hp.symm.subset (List.mem_cons_self ..)) with h2 | h2
        · exact h2.symm
        · have h3 := adj_less (hv y (List.mem_cons_self ..)) (hl'.1 x h)
          rw [hs'.1 y h2] at h3
          cases h3
    subst hxy
    rw [apart_unique s l hs'.2 hl'.2 (fun z hz => hv z (List.mem_cons_of_mem _ hz)) (List.Perm.cons_inv hp)]

/-! ### rows that touch become one -/
def joinR (y x : RowV) : RowV := ⟨y.k, y.t, y.f, x.e⟩
def touchB (a b : RowV) : Bool := (a.k.toList == b.k.toList) && (a.t.toList == b.t.toList) && decide (a.e = b.f)
theorem touch_iff {a b : RowV} : touchB a b = true ↔ a.k = b.k ∧ a.t = b.t ∧ a.e = b.f := by
  unfold touchB
  rw [Bool.and_eq_true, Bool.and_eq_true, same_key, same_key, decide_eq_true_eq, and_assoc]
/-- What stands in the list, the last row y open yet. -/
def joinGo (y : RowV) : List RowV → List RowV
  | [] => [y]
  | x :: l => if touchB y x = true then joinGo (joinR y x) l else y :: joinGo x l
def joinStep (out : List RowV) (x : RowV) : List RowV :=
  match out.getLast? with
  | none => [x]
  | some y => if touchB y x = true then out.dropLast ++ [joinR y x] else out ++ [x]
def joinRows (l : List RowV) : List RowV := l.foldl joinStep []
theorem joinStep_at (out : List RowV) (y x : RowV) : joinStep (out ++ [y]) x = if touchB y x = true then out ++ [joinR y x] else out ++ [y] ++ [x] := by
  unfold joinStep
  simp
theorem join_go : ∀ (l out : List RowV) (y : RowV), l.foldl joinStep (out ++ [y]) = out ++ joinGo y l
  | [], out, y => rfl
  | x :: l, out, y => by
    rw [List.foldl_cons, joinStep_at, joinGo]
    by_cases h : touchB y x = true
    · rw [if_pos h, if_pos h]; exact join_go l out _
    · rw [if_neg h, if_neg h, join_go l (out ++ [y]) x]; simp
theorem joinRows_cons (y : RowV) (l : List RowV) : joinRows (y :: l) = joinGo y l := join_go l [] y
theorem joinStep_len (out : List RowV) (x : RowV) : (joinStep out x).length ≤ out.length + 1 := by
  rcases List.eq_nil_or_concat out with h | ⟨o, y, h⟩
  · subst h; simp [joinStep]
  · rw [List.concat_eq_append] at h
    subst h
    rw [joinStep_at]
    by_cases h : touchB y x = true
    · rw [if_pos h]; simp
    · rw [if_neg h]; simp
theorem join_take {zs : List RowV} {k : Nat} {x : RowV} (hx : zs[k]? = some x) : joinRows (zs.take (k + 1)) = joinStep (joinRows (zs.take k)) x := by
  obtain ⟨hk, hx⟩ := List.getElem?_eq_some_iff.1 hx
  subst hx
  unfold joinRows
  rw [List.take_succ_eq_append_getElem hk, List.foldl_append]
  rfl
theorem joinFold_len : ∀ (l out : List RowV), (l.foldl joinStep out).length ≤ out.length + l.length
  | [], out => by simp
  | x :: l, out => by
    have h1 := joinStep_len out x
    have h2 := joinFold_len l (joinStep out x)
    rw [List.foldl_cons, List.length_cons]
    omega
theorem joinRows_len (l : List RowV) : (joinRows l).length ≤ l.length := by
  have := joinFold_len l []
  rw [List.length_nil, Nat.zero_add] at this
  exact this
theorem joinGo_head : ∀ (l : List RowV) (y : RowV), ∃ z m, joinGo y l = z :: m ∧ z.k = y.k ∧ z.t = y.t ∧ z.f = y.f
  | [], y => ⟨y, [], rfl, rfl, rfl, rfl⟩
  | x :: l, y => by
    rw [joinGo]
    by_cases h : touchB y x = true
    · rw [if_pos h]
      obtain ⟨z, m, e, h1, h2, h3⟩ := joinGo_head l (joinR y x)
      exact ⟨z, m, e, h1, h2, h3⟩
    · rw [if_neg h]
      exact ⟨y, _, rfl, rfl, rfl, rfl⟩

/-! ### when a table is ok, row by row -/
def leadsGo (y : RowV) : List RowV → Bool
  | [] => true
  | x :: l => rowOk x && leadB y x && leadsGo x l
def relAll : List RowV → Bool
  | [] => true
  | y :: l => rowOk y && leadsGo y l
theorem leadsGo_range : ∀ (l : List RowV) (y : RowV) (pre : List RowV), (∀ i, i < l.length → relAt (pre ++ y :: l) (pre.length + 1 + i) = true) ↔ leadsGo y l = true
  | [], y, pre => by simp [leadsGo]
  | x :: l, y, pre => by
    have ih := leadsGo_range l x (pre ++ [y])
    have h0 : relAt (pre ++ y :: x :: l) (pre.length + 1) = (rowOk x && leadB y x) := by
      unfold relAt
      have e1 : (pre ++ y :: x :: l).getD (pre.length + 1) row0 = x := by
        rw [List.getD_eq_getElem?_getD, List.getElem?_append_right (by omega)]; simp
      have e2 : (pre ++ y :: x :: l).getD (pre.length + 1 - 1) row0 = y := by
        rw [List.getD_eq_getElem?_getD, List.getElem?_append_right (by omega)]; simp
      rw [e1, e2]
      simp
    rw [leadsGo, Bool.and_eq_true, ← h0, ← ih]
    have ea : pre ++ [y] ++ x :: l = pre ++ y :: x :: l := by simp
    constructor
    · intro h
      refine ⟨h 0 (by simp), fun i hi => ?_⟩
      rw [ea]
      have := h (i + 1) (by simp; omega)
      rw [show (pre ++ [y]).length + 1 + i = pre.length + 1 + (i + 1) by simp; omega]
      exact this
    · rintro ⟨h1, h2⟩ i hi
      cases i with
      | zero => exact h1
      | succ i =>
        have := h2 i (by simp at hi; omega)
        rw [ea, show (pre ++ [y]).length + 1 + i = pre.length + 1 + (i + 1) by simp; omega] at this
        exact this
theorem relAll_iff : ∀ (l : List RowV), (List.range l.length).all (relAt l) = true ↔ relAll l = true
  | [] => by simp [relAll]
  | y :: l => by
    have ih := leadsGo_range l y []
    rw [relAll, Bool.and_eq_true, ← ih, List.all_eq_true]
    have h0 : relAt (y :: l) 0 = rowOk y := by simp [relAt]
    constructor
    · intro h
      refine ⟨by rw [← h0]; exact h 0 (by simp), fun i hi => ?_⟩
      have := h (1 + i) (by simp; omega)
      simpa using this
    · rintro ⟨h1, h2⟩ i hi
      cases i with
      | zero => rw [h0]; exact h1
      | succ i =>
        have := h2 i (by simpa using hi)
        rw [show i + 1 = [].length + 1 + i by simp; omega]
        exact this
theorem relOk_iff (l : List RowV) : relOk l = true ↔ l.length ≤ 24 ∧ relAll l = true := by
  unfold relOk
  rw [Bool.and_eq_true, decide_eq_true_eq, relAll_iff]
theorem rowOk_iff {x : RowV} : rowOk x = true ↔ wordB x.k = true ∧ wordB x.t = true ∧ spanOk x := by
  unfold rowOk okSpan spanOk
  rw [Bool.and_eq_true, Bool.and_eq_true, decide_eq_true_eq, and_assoc]
theorem lead_adj {y x : RowV} (h : touchB y x = false) : leadB y x = true ↔ adj y x := by
  unfold leadB adj
  by_cases hk : (y.k.toList == x.k.toList) = true
  · rw [if_pos hk]
    have hk' := same_key.1 hk
    unfold touchB at h
    rw [hk, Bool.true_and] at h
    rw [h, Bool.not_false, Bool.and_true, decide_eq_true_eq]
    constructor
    · exact fun h => .inr ⟨hk', h⟩
    · rintro (h | ⟨_, h⟩)
      · rw [hk', kl_irrefl] at h; cases h
      · exact h
  · rw [if_neg hk]
    constructor
    · exact fun h => .inl h
    · rintro (h | ⟨h, _⟩)
      · exact h
      · exact absurd (same_key.2 h) hk
theorem leadB_head {y x z : RowV} (h1 : z.k = x.k) (h2 : z.t = x.t) (h3 : z.f = x.f) : leadB y z = leadB y x := by
  unfold leadB; rw [h1, h2, h3]
/-- A table of rows put together is ok just if the rows are, and no two of a key hold at once. -/
theorem relAll_join : ∀ (l : List RowV) (y : RowV), spanOk y → (∀ x ∈ l, spanOk x) → (relAll (joinGo y l) = true ↔ (∀ x ∈ y :: l, rowOk x = true) ∧ Apart (y :: l))
  | [], y, hy, _ => by
    rw [joinGo, relAll, leadsGo]
    simp [Apart]
  | x :: l, y, hy, hv => by
    have hx : spanOk x := hv x (List.mem_cons_self ..)
    have hl : ∀ z ∈ l, spanOk z := fun z hz => hv z (List.mem_cons_of_mem _ hz)
    rw [joinGo]
    by_cases ht : touchB y x = true
    · rw [if_pos ht]
      obtain ⟨e1, e2, e3⟩ := touch_iff.1 ht
      have hj : spanOk (joinR y x) := ⟨hy.1, by show y.f < x.e; have := hy.2.1; have := hx.2.1; omega, hx.2.2⟩
      rw [relAll_join l (joinR y x) hj hl]
      have r1 : rowOk (joinR y x) = true ↔ rowOk y = true ∧ rowOk x = true := by
        rw [rowOk_iff, rowOk_iff, rowOk_iff]
        show wordB y.k = true ∧ wordB y.t = true ∧ spanOk (joinR y x) ↔ _
        rw [← e1, ← e2]
        exact ⟨fun h => ⟨⟨h.1, h.2.1, hy⟩, h.1, h.2.1, hx⟩, fun h => ⟨h.1.1, h.1.2.1, hj⟩⟩
      have a1 : ∀ z, adj (joinR y x) z ↔ adj x z := fun z => by
        unfold adj; show kl y.k z.k = true ∨ y.k = z.k ∧ x.e ≤ z.f ↔ _; rw [e1]
      have a2 : adj y x := .inr ⟨e1, by omega⟩
      unfold Apart
      rw [List.pairwise_cons, List.pairwise_cons, List.pairwise_cons]
      constructor
      · rintro ⟨h1, h2, h3⟩
        refine ⟨fun z hz => ?_, fun z hz => ?_, fun z hz => (a1 z).1 (h2 z hz), h3⟩
        · rcases List.mem_cons.1 hz with rfl | hz
          · exact (r1.1 (h1 _ (List.mem_cons_self ..))).1
          · rcases List.mem_cons.1 hz with rfl | hz
            · exact (r1.1 (h1 _ (List.mem_cons_self ..))).2
            · exact h1 z (List.mem_cons_of_mem _ hz)
        · rcases List.mem_cons.1 hz with rfl | hz
          · exact a2
          · exact adj_trans hx.2.1 a2 ((a1 z).1 (h2 z hz))
      · rintro ⟨h1, h2, h3, h4⟩
        refine ⟨fun z hz => ?_, fun z hz => (a1 z).2 (h3 z hz), h4⟩
        rcases List.mem_cons.1 hz with rfl | hz
        · exact r1.2 ⟨h1 _ (List.mem_cons_self ..), h1 _ (List.mem_cons_of_mem _ (List.mem_cons_self ..))⟩
        · exact h1 z (List.mem_cons_of_mem _ (List.mem_cons_of_mem _ hz))
    · rw [if_neg ht]
      have ht' : touchB y x = false := by simpa using ht
      obtain ⟨z, m, e, k1, k2, k3⟩ := joinGo_head l x
      have ih := relAll_join l x hx hl
      rw [e] at ih ⊢
      have e4 : relAll (y :: z :: m) = (rowOk y && (leadB y x && relAll (z :: m))) := by
        rw [relAll, leadsGo, relAll, leadB_head k1 k2 k3]
        cases rowOk y <;> cases rowOk z <;> cases leadB y x <;> cases leadsGo z m <;> rfl
      rw [e4, Bool.and_eq_true, Bool.and_eq_true, ih, lead_adj ht']
      unfold Apart
      rw [List.pairwise_cons (a := y)]
      constructor
      · rintro ⟨h1, h2, h3, h4⟩
        refine ⟨fun v hv' => ?_, fun v hv' => ?_, h4⟩
        · rcases List.mem_cons.1 hv' with rfl | hv'
          · exact h1
          · exact h3 v hv'
        · rcases List.mem_cons.1 hv' with rfl | hv'
          · exact h2
          · exact adj_trans hx.2.1 h2 ((List.pairwise_cons.1 h4).1 v hv')
      · rintro ⟨h1, h2, h3⟩
        exact ⟨h1 y (List.mem_cons_self ..), h2 x (List.mem_cons_self ..), fun v hv' => h1 v (List.mem_cons_of_mem _ hv'), h3⟩
theorem relOk_join (l : List RowV) (hv : ∀ x ∈ l, spanOk x) : relOk (joinRows l) = true ↔ (joinRows l).length ≤ 24 ∧ (∀ x ∈ l, rowOk x = true) ∧ Apart l := by
  rw [relOk_iff]
  cases l with
  | nil => simp [joinRows, relAll, Apart]
  | cons y l => rw [joinRows_cons, relAll_join l y (hv y (List.mem_cons_self ..)) fun x hx => hv x (List.mem_cons_of_mem _ hx)]
/-- A table that is ok: nothing in it is to be put together. -/
theorem join_rel : ∀ (l : List RowV) (y : RowV), leadsGo y l = true → joinGo y l = y :: l
  | [], y, _ => rfl
  | x :: l, y, h => by
    rw [leadsGo, Bool.and_eq_true, Bool.and_eq_true] at h
    rw [joinGo]
    have : ¬ touchB y x = true := fun ht => by
      obtain ⟨e1, e2, e3⟩ := touch_iff.1 ht
      have := h.1.2
      unfold leadB at this
      rw [if_pos (same_key.2 e1), same_key.2 e2] at this
      simp [e3] at this
    rw [if_neg this, join_rel l x h.2]
theorem joinRows_rel (l : List RowV) (h : relAll l = true) : joinRows l = l := by
  cases l with
  | nil => rfl
  | cons y l =>
    rw [relAll, Bool.and_eq_true] at h
    rw [joinRows_cons, join_rel l y h.2]
theorem rel_rows {l : List RowV} (h : relAll l = true) : (∀ x ∈ l, rowOk x = true) ∧ Apart l := by
  have hv : ∀ x ∈ l, rowOk x = true := by
    intro x hx
    obtain ⟨i, hi, rfl⟩ := List.mem_iff_getElem.1 hx
    have := (relAll_iff l).2 h
    have := List.all_eq_true.1 this i (by simpa using hi)
    unfold relAt at this
    rw [Bool.and_eq_true] at this
    have h1 := this.1
    rw [List.getD_eq_getElem?_getD, List.getElem?_eq_getElem hi] at h1
    exact h1
  cases l with
  | nil => exact ⟨hv, List.Pairwise.nil⟩
  | cons y l =>
    have hs : ∀ x ∈ y :: l, spanOk x := fun x hx => (rowOk_iff.1 (hv x hx)).2.2
    have := (relAll_join l y (hs y (List.mem_cons_self ..)) fun x hx => hs x (List.mem_cons_of_mem _ hx))
    rw [← joinRows_cons, joinRows_rel _ h] at this
    exact this.1 h

/-! ### a row in its place -/
def putR (l : List RowV) (r : RowV) : List RowV := l.takeWhile (lessB · r) ++ r :: l.dropWhile (lessB · r)
theorem putR_perm (l : List RowV) (r : RowV) : (putR l r).Perm (r :: l) := by
  unfold putR
  have := List.perm_middle (a := r) (l₁ := l.takeWhile (lessB · r)) (l₂ := l.dropWhile (lessB · r))
  rwa [List.takeWhile_append_dropWhile] at this
/-- Of one key, and at some point both. -/
def meetB (x y : RowV) : Bool := (x.k.toList == y.k.toList) && decide (max x.f y.f < min x.e y.e)
def holdsR (l : List RowV) (r : RowV) : Bool := l.any (meetB · r)
theorem meet_no {x y : RowV} (hx : x.f < x.e) (hy : y.f < y.e) (h : meetB x y = false) (hk : x.k = y.k) : x.e ≤ y.f ∨ y.e ≤ x.f := by
  unfold meetB at h
  rw [same_key.2 hk, Bool.true_and, decide_eq_false_iff_not] at h
  omega
theorem meet_yes {x y : RowV} (h : meetB x y = true) : x.k = y.k ∧ x.f < y.e ∧ y.f < x.e := by
  unfold meetB at h
  rw [Bool.and_eq_true, same_key, decide_eq_true_eq] at h
  exact ⟨h.1, by omega, by omega⟩
theorem adj_meet {x y : RowV} (h : adj x y) : meetB x y = false := by
  cases hm : meetB x y with
  | false => rfl
  | true =>
    obtain ⟨h1, h2, h3⟩ := meet_yes hm
    rcases h with h | ⟨_, h⟩
    · rw [h1, kl_irrefl] at h; cases h
    · omega
theorem meet_comm (x y : RowV) : meetB x y = meetB y x := by
  unfold meetB
  rw [Bool.beq_comm, Int.max_comm, Int.min_comm]
theorem putR_apart {l : List RowV} {r : RowV} (hl : Apart l) (hv : ∀ x ∈ l, x.f < x.e) (hr : r.f < r.e) (h : holdsR l r = false) : Apart (putR l r) := by
  have hm : ∀ x ∈ l, meetB x r = false := fun x hx => by
    unfold holdsR at h
    rw [List.any_eq_false] at h
    simpa using h x hx
  have hsplit : l.takeWhile (lessB · r) ++ l.dropWhile (lessB · r) = l := List.takeWhile_append_dropWhile
  have hT : ∀ x ∈ l.takeWhile (lessB · r), lessB x r = true := fun x hx => by
    exact List.all_eq_true.1 (List.all_takeWhile (p := (lessB · r)) (l := l)) x hx
  have hsubT : ∀ x ∈ l.takeWhile (lessB · r), x ∈ l := fun x hx => List.takeWhile_subset _ hx
  have hsubD : ∀ x ∈ l.dropWhile (lessB · r), x ∈ l := fun x hx => List.dropWhile_subset _ hx
  rw [← hsplit] at hl
  have hl' := List.pairwise_append.1 hl
  have tr : ∀ x ∈ l.takeWhile (lessB · r), adj x r := fun x hx => by
    rcases lessB_iff.1 (hT x hx) with h1 | ⟨h1, h2⟩
    · exact .inl h1
    · rcases meet_no (hv x (hsubT x hx)) hr (hm x (hsubT x hx)) h1 with h3 | h3
      · exact .inr ⟨h1, h3⟩
      · have := hv x (hsubT x hx); omega
  have rd : ∀ z ∈ l.dropWhile (lessB · r), adj r z := by
    have hhead : ∀ z m, l.dropWhile (lessB · r) = z :: m → adj r z := fun z m e => by
      have hz : lessB z r = false := by
        have := List.head_dropWhile_not (lessB · r) (l := l) (by rw [e]; simp)
        simp only [e, List.head_cons] at this
        simpa using this
      have hzl : z ∈ l := hsubD z (by rw [e]; exact List.mem_cons_self ..)
      rcases lessB_no.1 hz with h1 | ⟨h1, h2⟩
      · exact .inl h1
      · rcases meet_no (hv z hzl) hr (hm z hzl) h1 with h3 | h3
        · have := hv z hzl; omega
        · exact .inr ⟨h1.symm, h3⟩
    cases e : l.dropWhile (lessB · r) with
    | nil => intro z hz; cases hz
    | cons z m =>
      intro v hv'
      rcases List.mem_cons.1 hv' with rfl | hv'
      · exact hhead v m e
      · have h2 := hl'.2.1
        rw [e] at h2
        exact adj_trans (hv z (hsubD z (by rw [e]; exact List.mem_cons_self ..))) (hhead z m e) ((List.pairwise_cons.1 h2).1 v hv')
  unfold Apart putR
  rw [List.pairwise_append, List.pairwise_cons]
  refine ⟨hl'.1, ⟨rd, hl'.2.1⟩, fun x hx z hz => ?_⟩
  rcases List.mem_cons.1 hz with rfl | hz
  · exact tr x hx
  · exact hl'.2.2 x hx z hz
theorem putR_mem {l : List RowV} {r x : RowV} : x ∈ putR l r ↔ x = r ∨ x ∈ l := by
  rw [(putR_perm l r).mem_iff, List.mem_cons]

/-! ### rows in any order -/
/-- Rows laid into their places one by one; none if two of a key hold at once. -/
def layAll (out : List RowV) : List RowV → Option (List RowV)
  | [] => some out
  | r :: l => if rowOk r = false ∨ holdsR out r = true then none else layAll (putR out r) l
theorem layAll_some : ∀ (l out m : List RowV), Apart out → (∀ x ∈ out, rowOk x = true) → layAll out l = some m → Apart m ∧ (∀ x ∈ m, rowOk x = true) ∧ m.Perm (l ++ out)
  | [], out, m, h1, h2, h => by
    injection h with h
    subst h
    exact ⟨h1, h2, List.Perm.refl _⟩
  | r :: l, out, m, h1, h2, h => by
    rw [layAll] at h
    by_cases hc : rowOk r = false ∨ holdsR out r = true
    · rw [if_pos hc] at h; cases h
    · rw [if_neg hc] at h
      have hr : rowOk r = true := by simpa using fun e => hc (.inl e)
      have hh : holdsR out r = false := by simpa using fun e => hc (.inr e)
      obtain ⟨a, b, c⟩ := layAll_some l (putR out r) m (putR_apart h1 (fun x hx => (rowOk_iff.1 (h2 x hx)).2.2.2.1) (rowOk_iff.1 hr).2.2.2.1 hh) (fun x hx => by
        rcases putR_mem.1 hx with rfl | hx
        · exact hr
        · exact h2 x hx) h
      refine ⟨a, b, c.trans ?_⟩
      exact ((putR_perm out r).append_left l).trans (List.perm_middle)
theorem layAll_none : ∀ (l out : List RowV), layAll out l = none → (∀ s : List RowV, s.Perm (l ++ out) → (∀ x ∈ s, rowOk x = true) → ¬ Apart s)
  | [], out, h => by cases h
  | r :: l, out, h => by
    rw [layAll] at h
    intro s hp hr ha
    by_cases hc : rowOk r = false ∨ holdsR out r = true
    · rcases hc with hc | hc
      · have := hr r (hp.symm.subset (by simp))
        rw [hc] at this; cases this
      · unfold holdsR at hc
        rw [List.any_eq_true] at hc
        obtain ⟨x, hx, hm⟩ := hc
        have h3 : List.Pairwise (fun x y => meetB x y = false) s := ha.imp adj_meet
        have h4 := List.Perm.pairwise hp h3 (fun {a b} h => by rw [meet_comm]; exact h)
        have h5 := List.pairwise_cons.1 h4
        have := h5.1 x (List.mem_append_right _ hx)
        rw [meet_comm, hm] at this; cases this
    · rw [if_neg hc] at h
      exact layAll_none l (putR out r) h s (hp.trans ((List.perm_middle.symm).trans ((putR_perm out r).symm.append_left l))) hr ha
def relOfL (l : List RowV) : List RowV :=
  match layAll [] l with
  | none => []
  | some m => if (joinRows m).length ≤ 24 then joinRows m else []
/-- What the sorted rows give, put together, if that is a table. -/
def tableL (s : List RowV) : List RowV := if relOk (joinRows s) = true then joinRows s else []
theorem table_of (l s : List RowV) (hr : ∀ x ∈ l, rowOk x = true) (hs : Ordered s) (hp : s.Perm l) : tableL s = relOfL l := by
  have hrs : ∀ x ∈ s, rowOk x = true := fun x hx => hr x (hp.subset hx)
  have hv : ∀ x ∈ s, spanOk x := fun x hx => (rowOk_iff.1 (hrs x hx)).2.2
  unfold tableL relOfL
  cases e : layAll [] l with
  | none =>
    have := layAll_none l [] e s (by simpa using hp) hrs
    have hno : ¬ relOk (joinRows s) = true := fun h => this ((relOk_join s hv).1 h).2.2
    rw [if_neg hno]
  | some m =>
    obtain ⟨h1, h2, h3⟩ := layAll_some l [] m List.Pairwise.nil (by intro x hx; cases hx) e
    rw [List.append_nil] at h3
    have : s = m := apart_unique s m hs h1 (fun x hx => (rowOk_iff.1 (h2 x hx)).2.2.2.1) (hp.trans h3.symm)
    subst this
    show _ = if (joinRows s).length ≤ 24 then joinRows s else []
    by_cases hl : (joinRows s).length ≤ 24
    · rw [if_pos hl, if_pos ((relOk_join s hv).2 ⟨hl, hrs, h1⟩)]
    · rw [if_neg hl, if_neg fun h => hl ((relOk_join s hv).1 h).1]
end Go.Proofs.Ytphinkcfmdnpfaa
namespace Go.Proofs.Ytphinkcfmdnpfaa
open Go.RowKit

/-- In order, no two of a key at once, none to be put together. -/
def tadj (x y : RowV) : Prop := adj x y ∧ touchB x y = false
theorem lead_tadj {y x : RowV} : leadB y x = true ↔ tadj y x := by
  cases h : touchB y x with
  | false => rw [lead_adj h, tadj, h]; simp
  | true =>
    rw [tadj, h]
    obtain ⟨e1, e2, e3⟩ := touch_iff.1 h
    constructor
    · intro hl
      unfold leadB at hl
      rw [if_pos (same_key.2 e1), same_key.2 e2] at hl
      simp [e3] at hl
    · rintro ⟨_, h⟩; cases h
theorem tadj_trans {x y z : RowV} (hy : y.f < y.e) (h1 : tadj x y) (h2 : tadj y z) : tadj x z := by
  refine ⟨adj_trans hy h1.1 h2.1, ?_⟩
  cases h : touchB x z with
  | false => rfl
  | true =>
    obtain ⟨e1, e2, e3⟩ := touch_iff.1 h
    rcases h1.1 with a | ⟨a, a'⟩ <;> rcases h2.1 with b | ⟨b, b'⟩
    · have := kl_trans a b; rw [e1, kl_irrefl] at this; cases this
    · rw [b, e1, kl_irrefl] at a; cases a
    · rw [← a, e1, kl_irrefl] at b; cases b
    · omega
theorem leadsGo_iff : ∀ (l : List RowV) (y : RowV), leadsGo y l = true ↔ (∀ x ∈ l, rowOk x = true) ∧ (y.f < y.e → (y :: l).Pairwise tadj) ∧ (leadsGo y l = true)
  | _, _ => ⟨fun h => ⟨fun x hx => by
      rename_i l y
      induction l generalizing y with
      | nil => cases hx
      | cons z l ih =>
        rw [leadsGo, Bool.and_eq_true, Bool.and_eq_true] at h
        rcases List.mem_cons.1 hx with rfl | hx
        · exact h.1.1
        · exact ih z h.2 hx, fun hy => by
      rename_i l y
      induction l generalizing y with
      | nil => simp
      | cons z l ih =>
        rw [leadsGo, Bool.and_eq_true, Bool.and_eq_true] at h
        have hz : z.f < z.e := (rowOk_iff.1 h.1.1).2.2.2.1
        have h2 := ih z h.2 hz
        rw [List.pairwise_cons]
        refine ⟨fun v hv => ?_, h2⟩
        rcases List.mem_cons.1 hv with rfl | hv
        · exact lead_tadj.1 h.1.2
        · exact tadj_trans hz (lead_tadj.1 h.1.2) ((List.pairwise_cons.1 h2).1 v hv), h⟩, fun h => h.2.2⟩
theorem leads_of : ∀ (l : List RowV) (y : RowV), (∀ x ∈ l, rowOk x = true) → (y :: l).Pairwise tadj → leadsGo y l = true
  | [], _, _, _ => rfl
  | x :: l, y, h1, h2 => by
    rw [leadsGo, Bool.and_eq_true, Bool.and_eq_true]
    have h3 := List.pairwise_cons.1 h2
    exact ⟨⟨h1 x (List.mem_cons_self ..), lead_tadj.2 (h3.1 x (List.mem_cons_self ..))⟩, leads_of l x (fun z hz => h1 z (List.mem_cons_of_mem _ hz)) h3.2⟩
/-- A table is ok just if its rows are, and it is in order, with nothing at once and nothing to be put together. -/
theorem relAll_pair (l : List RowV) : relAll l = true ↔ (∀ x ∈ l, rowOk x = true) ∧ l.Pairwise tadj := by
  cases l with
  | nil => simp [relAll]
  | cons y l =>
    rw [relAll, Bool.and_eq_true]
    constructor
    · rintro ⟨h1, h2⟩
      obtain ⟨h3, h4, _⟩ := (leadsGo_iff l y).1 h2
      refine ⟨fun x hx => ?_, h4 (rowOk_iff.1 h1).2.2.2.1⟩
      rcases List.mem_cons.1 hx with rfl | hx
      · exact h1
      · exact h3 x hx
    · rintro ⟨h1, h2⟩
      exact ⟨h1 y (List.mem_cons_self ..), leads_of l y (fun x hx => h1 x (List.mem_cons_of_mem _ hx)) h2⟩

/-- What the sorted rows give: the table, or nothing. -/
def tableO (s : List RowV) : Option (List RowV) := if relOk (joinRows s) = true then some (joinRows s) else none
/-- Rows that are apart in some order: sorted they are in that order. -/
theorem tableO_apart {s m : List RowV} (hm : Apart m) (hr : ∀ x ∈ m, rowOk x = true) (hs : Ordered s) (hp : s.Perm m) : tableO s = if (joinRows m).length ≤ 24 then some (joinRows m) else none := by
  have hv : ∀ x ∈ m, spanOk x := fun x hx => (rowOk_iff.1 (hr x hx)).2.2
  have : s = m := apart_unique s m hs hm (fun x hx => (hv x hx).2.1) hp
  subst this
  unfold tableO
  by_cases hl : (joinRows s).length ≤ 24
  · rw [if_pos hl, if_pos ((relOk_join s hv).2 ⟨hl, hr, hm⟩)]
  · rw [if_neg hl, if_neg fun h => hl ((relOk_join s hv).1 h).1]
theorem tableO_clash {s l : List RowV} (hr : ∀ x ∈ l, rowOk x = true) (hp : s.Perm l) (hc : ¬ l.Pairwise fun x y => meetB x y = false) : tableO s = none := by
  have hv : ∀ x ∈ s, spanOk x := fun x hx => (rowOk_iff.1 (hr x (hp.subset hx))).2.2
  unfold tableO
  rw [if_neg]
  intro h
  have ha := ((relOk_join s hv).1 h).2.2
  have h3 : List.Pairwise (fun x y => meetB x y = false) s := List.Pairwise.imp adj_meet ha
  exact hc (List.Perm.pairwise hp h3 (fun {a b} h => by rw [meet_comm]; exact h))

/-- A table and whether it was done: the old one if there are too many rows. -/
def fitsL (l old : List RowV) : List RowV × Bool := if l.length ≤ 24 then (l, true) else (old, false)
/-- What becomes of a change: the table of these rows, or the old one. -/
def changedL (s old : List RowV) : List RowV × Bool := match tableO s with | some l => (l, true) | none => (old, false)
theorem changed_fits {s m old : List RowV} (hm : Apart m) (hr : ∀ x ∈ m, rowOk x = true) (hs : Ordered s) (hp : s.Perm m) : changedL s old = fitsL (joinRows m) old := by
  unfold changedL fitsL
  rw [tableO_apart hm hr hs hp]
  by_cases hl : (joinRows m).length ≤ 24
  · rw [if_pos hl, if_pos hl]
  · rw [if_neg hl, if_neg hl]

theorem rel_apart {t : List RowV} (h : relOk t = true) : (∀ x ∈ t, rowOk x = true) ∧ Apart t := rel_rows ((relOk_iff t).1 h).2

/-! ### insert -/
def insertL (t : List RowV) (r : RowV) : List RowV × Bool := if rowOk r = true ∧ holdsR t r = false then fitsL (joinRows (putR t r)) t else (t, false)
theorem insert_eq {t s : List RowV} {r : RowV} (ht : relOk t = true) (hr : rowOk r = true) (hs : Ordered s) (hp : s.Perm (t ++ [r])) : changedL s t = insertL t r := by
  obtain ⟨h1, h2⟩ := rel_apart ht
  unfold insertL
  cases hh : holdsR t r with
  | false =>
    rw [if_pos ⟨hr, rfl⟩]
    have ha := putR_apart h2 (fun x hx => (rowOk_iff.1 (h1 x hx)).2.2.2.1) (rowOk_iff.1 hr).2.2.2.1 hh
    refine changed_fits ha (fun x hx => ?_) hs (hp.trans ?_)
    · rcases putR_mem.1 hx with rfl | hx
      · exact hr
      · exact h1 x hx
    · exact (List.perm_append_singleton r t).trans (putR_perm t r).symm
  | true =>
    rw [if_neg (by simp)]
    unfold changedL
    rw [tableO_clash (l := t ++ [r]) (fun x hx => ?_) hp fun h => ?_]
    · rcases List.mem_append.1 hx with hx | hx
      · exact h1 x hx
      · rw [List.mem_singleton.1 hx]; exact hr
    · unfold holdsR at hh
      rw [List.any_eq_true] at hh
      obtain ⟨x, hx, hm⟩ := hh
      have := (List.pairwise_append.1 h).2.2 x hx r (List.mem_singleton.2 rfl)
      rw [hm] at this; cases this

/-! ### delete -/
def leftS (f e a b : Int) : List (Int × Int) := if max f a < min e b then (if f < a then [(f, a)] else []) ++ (if b < e then [(b, e)] else []) else [(f, e)]
def cutRow (key : ByteArray) (a b : Int) (x : RowV) : List RowV := if (x.k.toList == key.toList) = true then (leftS x.f x.e a b).map fun p => ⟨x.k, x.t, p.1, p.2⟩ else [x]
def cutL (t : List RowV) (key : ByteArray) (a b : Int) : List RowV := t.flatMap (cutRow key a b)
theorem left_in {f e a b : Int} {p : Int × Int} (hfe : f < e) (hab : a < b) (h : p ∈ leftS f e a b) : f ≤ p.1 ∧ p.1 < p.2 ∧ p.2 ≤ e ∧ (p.2 ≤ a ∨ b ≤ p.1) := by
  unfold leftS at h
  by_cases hm : max f a < min e b
  · rw [if_pos hm, List.mem_append] at h
    rcases h with h | h
    · by_cases h1 : f < a
      · rw [if_pos h1, List.mem_singleton] at h
        subst h
        exact ⟨by simp, by simpa using h1, by simp; omega, .inl (by simp)⟩
      · rw [if_neg h1] at h; cases h
    · by_cases h1 : b < e
      · rw [if_pos h1, List.mem_singleton] at h
        subst h
        exact ⟨by simp; omega, by simpa using h1, by simp, .inr (by simp)⟩
      · rw [if_neg h1] at h; cases h
  · rw [if_neg hm, List.mem_singleton] at h
    subst h
    exact ⟨by simp, hfe, by simp, by simp; omega⟩
theorem left_pair {f e a b : Int} (hab : a < b) : (leftS f e a b).Pairwise fun p q => p.2 < q.1 := by
  unfold leftS
  by_cases hm : max f a < min e b
  · rw [if_pos hm]
    by_cases h1 : f < a <;> by_cases h2 : b < e <;> simp [h1, h2, hab]
  · rw [if_neg hm]; simp
theorem left_len (f e a b : Int) : (leftS f e a b).length ≤ 2 := by
  unfold leftS
  split
  · split <;> split <;> simp
  · simp
theorem cut_in {key : ByteArray} {a b : Int} {x y : RowV} (hx : x.f < x.e) (hab : a < b) (h : y ∈ cutRow key a b x) : y.k = x.k ∧ y.t = x.t ∧ x.f ≤ y.f ∧ y.f < y.e ∧ y.e ≤ x.e ∧ (x.k = key → y.e ≤ a ∨ b ≤ y.f) := by
  unfold cutRow at h
  by_cases hk : (x.k.toList == key.toList) = true
  · rw [if_pos hk, List.mem_map] at h
    obtain ⟨p, hp, rfl⟩ := h
    obtain ⟨h1, h2, h3, h4⟩ := left_in hx hab hp
    exact ⟨rfl, rfl, h1, h2, h3, fun _ => h4⟩
  · rw [if_neg hk, List.mem_singleton] at h
    subst h
    exact ⟨rfl, rfl, Int.le_refl _, hx, Int.le_refl _, fun e => absurd (same_key.2 e) hk⟩
theorem cut_len (key : ByteArray) (a b : Int) (x : RowV) : (cutRow key a b x).length ≤ 2 := by
  unfold cutRow
  split
  · rw [List.length_map]; exact left_len ..
  · simp
theorem cutL_len (key : ByteArray) (a b : Int) : ∀ t : List RowV, (cutL t key a b).length ≤ t.length * 2
  | [] => by simp [cutL]
  | x :: t => by
    have := cut_len key a b x
    have := cutL_len key a b t
    unfold cutL at *
    rw [List.flatMap_cons, List.length_append, List.length_cons]
    omega
theorem rowOk_in {x y : RowV} (hx : rowOk x = true) (h : y.k = x.k ∧ y.t = x.t ∧ x.f ≤ y.f ∧ y.f < y.e ∧ y.e ≤ x.e) : rowOk y = true := by
  rw [rowOk_iff] at *
  obtain ⟨a, b, c, d, e⟩ := hx
  obtain ⟨h1, h2, h3, h4, h5⟩ := h
  rw [h1, h2]
  exact ⟨a, b, by omega, h4, by omega⟩
theorem tadj_in {x y x' y' : RowV} (h : tadj x y) (hx : x'.k = x.k ∧ x'.t = x.t ∧ x'.e ≤ x.e) (hy : y'.k = y.k ∧ y'.t = y.t ∧ y.f ≤ y'.f) : tadj x' y' := by
  obtain ⟨a, b, c⟩ := hx
  obtain ⟨a', b', c'⟩ := hy
  constructor
  · rcases h.1 with h1 | ⟨h1, h2⟩
    · exact .inl (by rw [a, a']; exact h1)
    · exact .inr ⟨by rw [a, a', h1], by omega⟩
  · cases ht : touchB x' y' with
    | false => rfl
    | true =>
      obtain ⟨e1, e2, e3⟩ := touch_iff.1 ht
      rw [a, a'] at e1
      rw [b, b'] at e2
      rcases h.1 with h1 | ⟨h1, h2⟩
      · rw [e1, kl_irrefl] at h1; cases h1
      · have := touch_iff.2 ⟨e1, e2, (by omega : x.e = y.f)⟩
        rw [h.2] at this; cases this
theorem cut_rel {t : List RowV} {key : ByteArray} {a b : Int} (hab : a < b) (h : relAll t = true) : relAll (cutL t key a b) = true := by
  rw [relAll_pair] at *
  obtain ⟨h1, h2⟩ := h
  have hv : ∀ x ∈ t, x.f < x.e := fun x hx => (rowOk_iff.1 (h1 x hx)).2.2.2.1
  constructor
  · intro y hy
    obtain ⟨x, hx, hy⟩ := List.mem_flatMap.1 hy
    obtain ⟨k1, k2, k3, k4, k5, _⟩ := cut_in (hv x hx) hab hy
    exact rowOk_in (h1 x hx) ⟨k1, k2, k3, k4, k5⟩
  · unfold cutL
    rw [List.pairwise_flatMap]
    constructor
    · intro x hx
      unfold cutRow
      by_cases hk : (x.k.toList == key.toList) = true
      · rw [if_pos hk, List.pairwise_map]
        refine (left_pair hab).imp fun {p q} h => ?_
        refine ⟨.inr ⟨rfl, by show p.2 ≤ q.1; omega⟩, ?_⟩
        cases ht : touchB _ _ with
        | false => rfl
        | true =>
          have h3 : p.2 = q.1 := (touch_iff.1 ht).2.2
          omega
      · rw [if_neg hk]; simp
    · have hboth : t.Pairwise fun x y => (x ∈ t ∧ y ∈ t) ∧ tadj x y := by
        have hm : t.Pairwise fun x y => x ∈ t ∧ y ∈ t := List.pairwise_iff_forall_sublist.2 fun {x y} hs => ⟨hs.subset (by simp), hs.subset (by simp)⟩
        exact hm.and h2
      refine hboth.imp fun {x y} hxy x' hx' y' hy' => ?_
      obtain ⟨⟨mx, my⟩, hxy⟩ := hxy
      obtain ⟨k1, k2, k3, k4, k5, _⟩ := cut_in (hv x mx) hab hx'
      obtain ⟨j1, j2, j3, j4, j5, _⟩ := cut_in (hv y my) hab hy'
      exact tadj_in hxy ⟨k1, k2, k5⟩ ⟨j1, j2, j3⟩
def deleteL (t : List RowV) (key : ByteArray) (a b : Int) : List RowV × Bool := fitsL (cutL t key a b) t
theorem delete_eq {t s : List RowV} {key : ByteArray} {a b : Int} (ht : relOk t = true) (hab : a < b) (hs : Ordered s) (hp : s.Perm (cutL t key a b)) : changedL s t = deleteL t key a b := by
  have hc := cut_rel (key := key) hab ((relOk_iff t).1 ht).2
  obtain ⟨h1, h2⟩ := rel_rows hc
  rw [changed_fits h2 h1 hs hp, joinRows_rel _ hc]
  rfl

/-! ### merge -/
def mergeL (t : List RowV) (r : RowV) : List RowV × Bool := fitsL (joinRows (putR (cutL t r.k r.f r.e) r)) t
theorem cut_holds {t : List RowV} {r : RowV} (ht : ∀ x ∈ t, x.f < x.e) (hr : r.f < r.e) : holdsR (cutL t r.k r.f r.e) r = false := by
  unfold holdsR
  rw [List.any_eq_false]
  intro y hy hm
  obtain ⟨x, hx, hy⟩ := List.mem_flatMap.1 hy
  obtain ⟨k1, k2, k3, k4, k5, k6⟩ := cut_in (ht x hx) hr hy
  obtain ⟨m1, m2, m3⟩ := meet_yes hm
  have := k6 (k1.symm.trans m1)
  omega
theorem merge_eq {t s : List RowV} {r : RowV} (ht : relOk t = true) (hr : rowOk r = true) (hs : Ordered s) (hp : s.Perm (cutL t r.k r.f r.e ++ [r])) : changedL s t = mergeL t r := by
  have hre : r.f < r.e := (rowOk_iff.1 hr).2.2.2.1
  have hc := cut_rel (key := r.k) hre ((relOk_iff t).1 ht).2
  obtain ⟨h1, h2⟩ := rel_rows hc
  have hv : ∀ x ∈ t, x.f < x.e := fun x hx => (rowOk_iff.1 ((rel_apart ht).1 x hx)).2.2.2.1
  have ha := putR_apart h2 (fun x hx => (rowOk_iff.1 (h1 x hx)).2.2.2.1) hre (cut_holds hv hre)
  refine changed_fits ha (fun x hx => ?_) hs (hp.trans ((List.perm_append_singleton _ _).trans (putR_perm _ _).symm))
  rcases putR_mem.1 hx with rfl | hx
  · exact hr
  · exact h1 x hx

/-! ### update -/
def meetRow (r x : RowV) : Option RowV := if meetB x r = true then some ⟨r.k, r.t, max x.f r.f, min x.e r.e⟩ else none
def updRows (t : List RowV) (r : RowV) : List RowV := t.filterMap (meetRow r)
def updateOut (t : List RowV) (r : RowV) : List RowV := (updRows t r).foldl putR (cutL t r.k r.f r.e)
def updateL (t : List RowV) (r : RowV) : List RowV × Bool := fitsL (joinRows (updateOut t r)) t
theorem meet_in {r x y : RowV} (h : meetRow r x = some y) : y.k = r.k ∧ y.t = r.t ∧ x.k = r.k ∧ x.f ≤ y.f ∧ r.f ≤ y.f ∧ y.f < y.e ∧ y.e ≤ x.e ∧ y.e ≤ r.e := by
  unfold meetRow at h
  by_cases hm : meetB x r = true
  · rw [if_pos hm] at h
    injection h with h
    subst h
    have h0 := hm
    unfold meetB at h0
    rw [Bool.and_eq_true, same_key, decide_eq_true_eq] at h0
    refine ⟨rfl, rfl, h0.1, ?_, ?_, h0.2, ?_, ?_⟩ <;> dsimp only <;> omega
  · rw [if_neg hm] at h; cases h
theorem upd_lay : ∀ (l out : List RowV), Apart out → (∀ x ∈ out, rowOk x = true) → (∀ x ∈ l, rowOk x = true) → (∀ x ∈ l, holdsR out x = false) → (l.Pairwise fun x y => meetB x y = false) →
    Apart (l.foldl putR out) ∧ (∀ x ∈ l.foldl putR out, rowOk x = true) ∧ (l.foldl putR out).Perm (out ++ l)
  | [], out, h1, h2, _, _, _ => ⟨h1, h2, by simp⟩
  | r :: l, out, h1, h2, h3, h4, h5 => by
    have hr := h3 r (List.mem_cons_self ..)
    have h6 := List.pairwise_cons.1 h5
    have ha := putR_apart h1 (fun x hx => (rowOk_iff.1 (h2 x hx)).2.2.2.1) (rowOk_iff.1 hr).2.2.2.1 (h4 r (List.mem_cons_self ..))
    obtain ⟨a, b, c⟩ := upd_lay l (putR out r) ha (fun x hx => by
      rcases putR_mem.1 hx with rfl | hx
      · exact hr
      · exact h2 x hx) (fun x hx => h3 x (List.mem_cons_of_mem _ hx)) (fun x hx => by
      unfold holdsR
      rw [List.any_eq_false]
      intro z hz
      rcases putR_mem.1 hz with rfl | hz
      · simp [h6.1 x hx]
      · have := h4 x (List.mem_cons_of_mem _ hx)
        unfold holdsR at this
        rw [List.any_eq_false] at this
        exact this z hz) h6.2
    refine ⟨a, b, c.trans ?_⟩
    exact ((putR_perm out r).append_right l).trans (by simpa using (List.perm_middle (a := r) (l₁ := out) (l₂ := l)).symm)
theorem upd_rows {t : List RowV} {r : RowV} (ht : relOk t = true) (hr : rowOk r = true) : (∀ x ∈ updRows t r, rowOk x = true) ∧ (∀ x ∈ updRows t r, holdsR (cutL t r.k r.f r.e) x = false) ∧ (updRows t r).Pairwise fun x y => meetB x y = false := by
  obtain ⟨h1, h2⟩ := rel_apart ht
  have hre : r.f < r.e := (rowOk_iff.1 hr).2.2.2.1
  have hv : ∀ x ∈ t, x.f < x.e := fun x hx => (rowOk_iff.1 (h1 x hx)).2.2.2.1
  refine ⟨fun y hy => ?_, fun y hy => ?_, ?_⟩
  · obtain ⟨x, hx, hy⟩ := List.mem_filterMap.1 hy
    obtain ⟨k1, k2, k3, k4, k5, k6, k7, k8⟩ := meet_in hy
    exact rowOk_in hr ⟨k1, k2, k5, k6, k8⟩
  · obtain ⟨x, hx, hy⟩ := List.mem_filterMap.1 hy
    obtain ⟨k1, k2, k3, k4, k5, k6, k7, k8⟩ := meet_in hy
    unfold holdsR
    rw [List.any_eq_false]
    intro z hz hm
    obtain ⟨v, hv', hz⟩ := List.mem_flatMap.1 hz
    obtain ⟨j1, j2, j3, j4, j5, j6⟩ := cut_in (hv v hv') hre hz
    obtain ⟨m1, m2, m3⟩ := meet_yes hm
    have := j6 (j1.symm.trans (m1.trans k1))
    omega
  · unfold updRows
    rw [List.pairwise_filterMap]
    refine List.Pairwise.imp ?_ h2
    intro x y hxy x' hx' y' hy'
    obtain ⟨k1, k2, k3, k4, k5, k6, k7, k8⟩ := meet_in hx'
    obtain ⟨j1, j2, j3, j4, j5, j6, j7, j8⟩ := meet_in hy'
    cases hm : meetB x' y' with
    | false => rfl
    | true =>
      obtain ⟨m1, m2, m3⟩ := meet_yes hm
      rcases hxy with h | ⟨h, h'⟩
      · rw [k3, j3, kl_irrefl] at h; cases h
      · omega
theorem update_eq {t s : List RowV} {r : RowV} (ht : relOk t = true) (hr : rowOk r = true) (hs : Ordered s) (hp : s.Perm (cutL t r.k r.f r.e ++ updRows t r)) : changedL s t = updateL t r := by
  have hre : r.f < r.e := (rowOk_iff.1 hr).2.2.2.1
  have hc := cut_rel (key := r.k) hre ((relOk_iff t).1 ht).2
  obtain ⟨h1, h2⟩ := rel_rows hc
  obtain ⟨u1, u2, u3⟩ := upd_rows ht hr
  obtain ⟨a, b, c⟩ := upd_lay (updRows t r) _ h2 h1 u1 u2 u3
  exact changed_fits a b hs (hp.trans c.symm)

/-! ### move -/
def moveRow (n : Int) (x : RowV) : Option RowV := if max (x.f + n) 0 < min (x.e + n) 100 then some ⟨x.k, x.t, max (x.f + n) 0, min (x.e + n) 100⟩ else none
def moveL (t : List RowV) (n : Int) : List RowV := t.filterMap (moveRow n)
theorem move_in {n : Int} {x y : RowV} (h : moveRow n x = some y) : y.k = x.k ∧ y.t = x.t ∧ 0 ≤ y.f ∧ x.f + n ≤ y.f ∧ y.f < y.e ∧ y.e ≤ 100 ∧ y.e ≤ x.e + n := by
  unfold moveRow at h
  by_cases hm : max (x.f + n) 0 < min (x.e + n) 100
  · rw [if_pos hm] at h
    injection h with h
    subst h
    refine ⟨rfl, rfl, ?_, ?_, hm, ?_, ?_⟩ <;> dsimp only <;> omega
  · rw [if_neg hm] at h; cases h
theorem move_rel {t : List RowV} (n : Int) (h : relAll t = true) : relAll (moveL t n) = true := by
  rw [relAll_pair] at *
  obtain ⟨h1, h2⟩ := h
  constructor
  · intro y hy
    obtain ⟨x, hx, hy⟩ := List.mem_filterMap.1 hy
    obtain ⟨k1, k2, k3, k4, k5, k6, k7⟩ := move_in hy
    have := h1 x hx
    rw [rowOk_iff] at *
    rw [k1, k2]
    exact ⟨this.1, this.2.1, k3, k5, k6⟩
  · unfold moveL
    rw [List.pairwise_filterMap]
    refine h2.imp ?_
    intro x y hxy x' hx' y' hy'
    obtain ⟨k1, k2, k3, k4, k5, k6, k7⟩ := move_in hx'
    obtain ⟨j1, j2, j3, j4, j5, j6, j7⟩ := move_in hy'
    constructor
    · rcases hxy.1 with h | ⟨h, h'⟩
      · exact .inl (by rw [k1, j1]; exact h)
      · exact .inr ⟨by rw [k1, j1, h], by omega⟩
    · cases ht : touchB x' y' with
      | false => rfl
      | true =>
        obtain ⟨e1, e2, e3⟩ := touch_iff.1 ht
        rw [k1, j1] at e1
        rw [k2, j2] at e2
        rcases hxy.1 with h | ⟨h, h'⟩
        · rw [e1, kl_irrefl] at h; cases h
        · have := touch_iff.2 ⟨e1, e2, (by omega : x.e = y.f)⟩
          rw [hxy.2] at this; cases this
theorem move_len (t : List RowV) (n : Int) : (moveL t n).length ≤ t.length := List.length_filterMap_le ..
theorem move_eq {t s : List RowV} {n : Int} (ht : relOk t = true) (hs : Ordered s) (hp : s.Perm (moveL t n)) : tableL s = moveL t n := by
  have hc := move_rel n ((relOk_iff t).1 ht).2
  obtain ⟨h1, h2⟩ := rel_rows hc
  have : s = moveL t n := apart_unique s _ hs h2 (fun x hx => (rowOk_iff.1 (h1 x hx)).2.2.2.1) hp
  subst this
  unfold tableL
  rw [joinRows_rel _ hc, if_pos ((relOk_iff _).2 ⟨?_, hc⟩)]
  have := move_len t n
  have := ((relOk_iff t).1 ht).1
  omega
end Go.Proofs.Ytphinkcfmdnpfaa
