/-
  Plain: what was known of a key at a point, stamp by stamp.
-/
import Derived.Test.YtkalanjgjeijbaaTrcB
import Derived.Test.YtkalanjgjeijbaaRelGet
import Derived.Test.YtkalanjgjeijbaaStoreD
import Derived.Test.YtkalanjgjeijbaaStoreA
namespace Go.Proofs.Ytkalanjgjeijbaa
open Go.RowKit

def tellB (n : Int) (key : ByteArray) (c : Int) (x : VerV) : Bool := (liveB n x && (x.r.k.toList == key.toList)) && hasB x.r.f x.r.e c
def getT (n : Int) (key : ByteArray) (c : Int) : List VerV → ByteArray
  | [] => ⟨#[]⟩
  | x :: l => if tellB n key c x = true then x.r.t else getT n key c l
theorem getT_live (n : Int) (key : ByteArray) (c : Int) : ∀ zs : List VerV, getT n key c zs = getR key c (liveL zs n)
  | [] => rfl
  | x :: l => by
    have ih := getT_live n key c l
    unfold liveL at ih ⊢
    rw [getT, List.filter_cons]
    unfold tellB
    cases h : liveB n x
    · rw [Bool.false_and, Bool.false_and, if_neg (by simp), if_neg (by simp)]; exact ih
    · rw [if_pos rfl, List.map_cons, getR, Bool.true_and]
      by_cases hm : ((x.r.k.toList == key.toList) && hasB x.r.f x.r.e c) = true
      · rw [if_pos hm, if_pos hm]
      · rw [if_neg hm, if_neg hm]; exact ih
theorem getT_none {n : Int} {key : ByteArray} {c : Int} {zs : List VerV} (h : ∀ (q : Nat) (y : VerV), zs[q]? = some y → tellB n key c y = false) : getT n key c zs = ⟨#[]⟩ := by
  induction zs with
  | nil => rfl
  | cons x l ih =>
    have h0 : tellB n key c x = false := h 0 x rfl
    rw [getT, if_neg (by simp [h0])]
    exact ih fun q y hq => h (q + 1) y (by simpa using hq)
theorem getT_hit {n : Int} {key : ByteArray} {c : Int} {zs : List VerV} {k : Nat} {x : VerV} (hx : zs[k]? = some x) (ht : tellB n key c x = true) (h : ∀ (q : Nat) (y : VerV), q < k → zs[q]? = some y → tellB n key c y = false) : getT n key c zs = x.r.t := by
  induction zs generalizing k with
  | nil => simp at hx
  | cons z l ih =>
    cases k with
    | zero =>
      obtain rfl : z = x := by simpa using hx
      rw [getT, if_pos ht]
    | succ k =>
      have h0 : tellB n key c z = false := h 0 z (by omega) rfl
      rw [getT, if_neg (by simp [h0])]
      exact ih (by simpa using hx) fun q y hq hy => h (q + 1) y (by omega) (by simpa using hy)

def matR (key : ByteArray) (c : Int) (x : RowV) : Bool := (x.k.toList == key.toList) && hasB x.f x.e c
theorem getR_or (key : ByteArray) (c : Int) : ∀ l : List RowV, (∃ x ∈ l, matR key c x = true ∧ getR key c l = x.t) ∨ ((∀ x ∈ l, matR key c x = false) ∧ getR key c l = ⟨#[]⟩)
  | [] => .inr ⟨fun x h => absurd h (by simp), rfl⟩
  | y :: l => by
    by_cases hm : matR key c y = true
    · exact .inl ⟨y, List.mem_cons_self .., hm, by rw [getR]; exact if_pos hm⟩
    · have hn : getR key c (y :: l) = getR key c l := by rw [getR]; exact if_neg hm
      rcases getR_or key c l with ⟨x, hx, h1, h2⟩ | ⟨h1, h2⟩
      · exact .inl ⟨x, List.mem_cons_of_mem _ hx, h1, by rw [hn]; exact h2⟩
      · refine .inr ⟨fun x hx => ?_, by rw [hn]; exact h2⟩
        rcases List.mem_cons.1 hx with rfl | hx
        · simpa using hm
        · exact h1 x hx
theorem getR_perm {key : ByteArray} {c : Int} {l m : List RowV} (hp : l.Perm m) (hu : ∀ x ∈ l, ∀ y ∈ l, matR key c x = true → matR key c y = true → x = y) : getR key c l = getR key c m := by
  rcases getR_or key c l with ⟨x, hx, h1, h2⟩ | ⟨h1, h2⟩ <;> rcases getR_or key c m with ⟨y, hy, g1, g2⟩ | ⟨g1, g2⟩
  · rw [h2, g2, hu x hx y (hp.symm.subset hy) h1 g1]
  · exact absurd h1 (by rw [g1 x (hp.subset hx)]; simp)
  · exact absurd g1 (by rw [h1 y (hp.symm.subset hy)]; simp)
  · rw [h2, g2]
theorem mat_one {key : ByteArray} {c : Int} {l : List RowV} (h : relOk l = true) : ∀ x ∈ l, ∀ y ∈ l, matR key c x = true → matR key c y = true → x = y := fun x hx y hy mx my => by
  obtain ⟨_, ha⟩ := rel_apart h
  have two : ∀ a b : RowV, adj a b → matR key c a = true → matR key c b = true → False := fun a b hab ma mb => by
    unfold matR at ma mb
    rw [Bool.and_eq_true] at ma mb
    have ka := same_key.1 ma.1
    have kb := same_key.1 mb.1
    have h1 := ma.2
    have h2 := mb.2
    unfold hasB at h1 h2
    rw [decide_eq_true_eq] at h1 h2
    rcases hab with hk | ⟨_, he⟩
    · rw [ka, kb, kl_irrefl] at hk; cases hk
    · omega
  obtain ⟨i, hi, rfl⟩ := List.mem_iff_getElem.1 hx
  obtain ⟨j, hj, rfl⟩ := List.mem_iff_getElem.1 hy
  rcases Nat.lt_trichotomy i j with hlt | rfl | hlt
  · exact (two _ _ (List.pairwise_iff_getElem.1 ha i j hi hj hlt) mx my).elim
  · rfl
  · exact (two _ _ (List.pairwise_iff_getElem.1 ha j i hj hi hlt) my mx).elim
/-- What a table has of a key at a point is what its first version tells. -/
theorem getT_store {zs : List VerV} {now : Int} {n : Nat} {key : ByteArray} {c : Int} (h : storeB zs now = true) (hn : (n : Int) ≤ now) : getR key c (liveS zs n) = getT n key c zs := by
  have h1 := (storeB_iff.1 h).2.2
  unfold stampsB at h1
  have h2 := List.all_eq_true.1 h1 n (by rw [List.mem_range]; omega)
  rw [getT_live]
  exact getR_perm (liveS_facts zs n).2 (mat_one h2)

/-- A list of traces, and what is known next. -/
def noteL (l : List TraV) (x : TraV) : List TraV := if ((traAt l x.k).toList == x.t.toList) = true then l else l ++ [x]
def trUp (f : Nat → ByteArray) : Nat → List TraV
  | 0 => []
  | n + 1 => noteL (trUp f n) ⟨(n + 1 : Nat), f (n + 1)⟩
def lastF (f : Nat → ByteArray) : Nat → ByteArray
  | 0 => ⟨#[]⟩
  | n + 1 => f (n + 1)
theorem traAt_snoc (l : List TraV) (x : TraV) (m : Int) : traAt (l ++ [x]) m = if x.k ≤ m then x.t else traAt l m := by
  have h := traAt_take (zs := l ++ [x]) (k := l.length) (x := x) m (by simp)
  rw [show l.length + 1 = (l ++ [x]).length from by simp, List.take_length, List.take_left] at h
  exact h
theorem noteL_len (l : List TraV) (x : TraV) : (noteL l x).length ≤ l.length + 1 := by
  unfold noteL
  split
  · omega
  · simp
theorem trUp_len (f : Nat → ByteArray) : ∀ n, (trUp f n).length ≤ n
  | 0 => Nat.le_refl _
  | n + 1 => by
    have h1 := noteL_len (trUp f n) ⟨(n + 1 : Nat), f (n + 1)⟩
    have h2 := trUp_len f n
    rw [trUp]
    omega
theorem trUp_at (f : Nat → ByteArray) : ∀ (n : Nat) (m : Int), (n : Int) ≤ m → traAt (trUp f n) m = lastF f n
  | 0, m, _ => rfl
  | n + 1, m, hm => by
    rw [trUp, noteL]
    by_cases h : ((traAt (trUp f n) ((n + 1 : Nat) : Int)).toList == (f (n + 1)).toList) = true
    · rw [if_pos h]
      have e := same_key.1 h
      rw [trUp_at f n _ (by omega)] at e
      rw [trUp_at f n m (by omega), e]
      rfl
    · rw [if_neg h, traAt_snoc, if_pos (by show ((n + 1 : Nat) : Int) ≤ m; omega)]
      rfl
/-- The next step, by what was known last. -/
theorem trUp_next (f : Nat → ByteArray) (n : Nat) : trUp f (n + 1) = if ((f (n + 1)).toList == (lastF f n).toList) = true then trUp f n else trUp f n ++ [⟨(n + 1 : Nat), f (n + 1)⟩] := by
  rw [trUp, noteL, trUp_at f n _ (by show (n : Int) ≤ ((n + 1 : Nat) : Int); omega)]
  by_cases h : ((f (n + 1)).toList == (lastF f n).toList) = true
  · rw [if_pos h, if_pos (by rw [same_key] at h ⊢; exact h.symm)]
  · rw [if_neg h, if_neg (by intro h'; exact h (by rw [same_key] at h' ⊢; exact h'.symm))]
/-- What was known of a key at a point. -/
def traceL (zs : List VerV) (now : Int) (key : ByteArray) (c : Int) : List TraV := if storeB zs now = true then trUp (fun n => getT n key c zs) now.toNat else []
theorem trace_len {zs : List VerV} {now : Int} (key : ByteArray) (c : Int) : (traceL zs now key c).length ≤ 30 := by
  unfold traceL
  split
  · rename_i h
    have := (storeB_iff.1 h).1
    have h2 := trUp_len (fun n => getT n key c zs) now.toNat
    omega
  · simp
end Go.Proofs.Ytkalanjgjeijbaa
