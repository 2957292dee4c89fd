/-
  Plain: stores: when one is ok, and what it was at a stamp.
-/
import Derived.Test.YtacddgipcafdlaaVerD
import Derived.Test.YtacddgipcafdlaaRelQ
namespace Go.Proofs.Ytacddgipcafdlaa
open Go.RowKit

theorem take_less {r : RowV} : ∀ l : List RowV, ∀ x ∈ l.takeWhile (lessB · r), lessB x r = true
  | [], x, h => by cases h
  | y :: l, x, h => by
    rw [List.takeWhile_cons] at h
    by_cases hy : lessB y r = true
    · rw [if_pos hy] at h
      rcases List.mem_cons.1 h with rfl | h
      · exact hy
      · exact take_less l x h
    · rw [if_neg hy] at h; cases h
theorem drop_notless {r : RowV} : ∀ l : List RowV, Ordered l → ∀ x ∈ l.dropWhile (lessB · r), lessB x r = false
  | [], _, x, h => by cases h
  | y :: l, ho, x, h => by
    obtain ⟨h1, h2⟩ := List.pairwise_cons.1 ho
    rw [List.dropWhile_cons] at h
    by_cases hy : lessB y r = true
    · rw [if_pos hy] at h
      exact drop_notless l h2 x h
    · rw [if_neg hy] at h
      have hy' : lessB y r = false := by simpa using hy
      rcases List.mem_cons.1 h with rfl | h
      · exact hy'
      · exact swoRow.ntrans x y r (h1 x h) hy'
theorem putR_ordered {l : List RowV} {r : RowV} (h : Ordered l) : Ordered (putR l r) := by
  have hl : l.takeWhile (lessB · r) ++ l.dropWhile (lessB · r) = l := List.takeWhile_append_dropWhile
  have h' : (l.takeWhile (lessB · r) ++ l.dropWhile (lessB · r)).Pairwise fun x y => lessB y x = false := by rw [hl]; exact h
  obtain ⟨h1, h2, h3⟩ := List.pairwise_append.1 h'
  refine List.pairwise_append.2 ⟨h1, List.pairwise_cons.2 ⟨fun y hy => drop_notless l h y hy, h2⟩, fun x hx y hy => ?_⟩
  rcases List.mem_cons.1 hy with rfl | hy
  · have hx' := take_less l x hx
    cases hn : lessB y x with
    | false => rfl
    | true =>
      have := swoRow.trans _ _ _ hx' hn
      rw [swoRow.irrefl] at this
      cases this
  · exact h3 x hx y hy
theorem foldPut : ∀ (l o : List RowV), Ordered o → Ordered (l.foldl putR o) ∧ (l.foldl putR o).Perm (o ++ l)
  | [], o, h => ⟨h, by simp⟩
  | r :: l, o, h => by
    obtain ⟨h1, h2⟩ := foldPut l (putR o r) (putR_ordered h)
    exact ⟨h1, h2.trans (((putR_perm o r).append_right l).trans (by simpa using (List.perm_middle (a := r) (l₁ := o) (l₂ := l)).symm))⟩
/-- Rows in order are a table just if they are in another order by the same rows. -/
theorem rel_perm {s l : List RowV} (hl : Ordered l) (hp : s.Perm l) : relOk s = true → s = l := fun h => by
  obtain ⟨h1, h2⟩ := rel_apart h
  exact (apart_unique l s hl h2 (fun x hx => (rowOk_iff.1 (h1 x hx)).2.2.2.1) hp.symm).symm
theorem rel_perm_eq {s l : List RowV} (hs : Ordered s) (hl : Ordered l) (hp : s.Perm l) : relOk s = relOk l := by
  cases h : relOk s with
  | true => rw [rel_perm hl hp h] at h; exact h.symm
  | false =>
    cases h' : relOk l with
    | false => rfl
    | true => rw [rel_perm hs hp.symm h'] at h'; rw [h] at h'; cases h'

/-! ### what a store was at a stamp -/
def liveB (s : Int) (x : VerV) : Bool := decide (x.i ≤ s ∧ s < x.o)
def liveL (vs : List VerV) (s : Int) : List RowV := (vs.filter (liveB s)).map (·.r)
def liveS (vs : List VerV) (s : Int) : List RowV := (liveL vs s).foldl putR []
theorem live_take {vs : List VerV} {s : Int} {k : Nat} {x : VerV} (hx : vs[k]? = some x) : liveL (vs.take (k + 1)) s = liveL (vs.take k) s ++ (if liveB s x = true then [x.r] else []) := by
  obtain ⟨hk, rfl⟩ := List.getElem?_eq_some_iff.1 hx
  unfold liveL
  rw [List.take_succ_eq_append_getElem hk, List.filter_append, List.map_append]
  by_cases h : liveB s vs[k] = true
  · rw [List.filter_cons, if_pos h, if_pos h]; rfl
  · rw [List.filter_cons, if_neg h, if_neg h]; rfl
theorem liveS_take {vs : List VerV} {s : Int} {k : Nat} {x : VerV} (hx : vs[k]? = some x) : liveS (vs.take (k + 1)) s = if liveB s x = true then putR (liveS (vs.take k) s) x.r else liveS (vs.take k) s := by
  unfold liveS
  rw [live_take hx]
  by_cases h : liveB s x = true
  · rw [if_pos h, if_pos h, List.foldl_append]; rfl
  · rw [if_neg h, if_neg h, List.append_nil]
theorem live_len (vs : List VerV) (s : Int) : (liveL vs s).length ≤ vs.length := by
  unfold liveL
  rw [List.length_map]
  exact List.length_filter_le _ _
theorem liveS_facts (vs : List VerV) (s : Int) : Ordered (liveS vs s) ∧ (liveS vs s).Perm (liveL vs s) := by
  have := foldPut (liveL vs s) [] List.Pairwise.nil
  refine ⟨this.1, ?_⟩
  have h2 := this.2
  rw [List.nil_append] at h2
  exact h2
theorem liveS_len (vs : List VerV) (s : Int) : (liveS vs s).length ≤ vs.length := by
  rw [(liveS_facts vs s).2.length_eq]
  exact live_len vs s

/-! ### when a store is ok -/
def verB (now : Int) (x : VerV) : Bool := rowOk x.r && decide (1 ≤ x.i ∧ x.i ≤ now ∧ x.i < x.o ∧ (x.o ≤ now ∨ x.o = 999))
def verAt (vs : List VerV) (now : Int) (k : Nat) : Bool := verB now (vs.getD k ver0) && (k == 0 || decide ((vs.getD (k - 1) ver0).i ≤ (vs.getD k ver0).i))
def versB (vs : List VerV) (now : Int) : Bool := decide (vs.length ≤ 120) && (List.range vs.length).all (verAt vs now)
def stampsB (vs : List VerV) (now : Int) : Bool := (List.range (now + 1).toNat).all fun s => relOk (liveS vs s)
def storeB (vs : List VerV) (now : Int) : Bool := decide (0 ≤ now ∧ now ≤ 30) && versB vs now && stampsB vs now
theorem versB_no {vs : List VerV} {now : Int} {k : Nat} (hk : k < vs.length) (h : verAt vs now k = false) : versB vs now = false := by
  have : (List.range vs.length).all (verAt vs now) = false := by
    rw [List.all_eq_false]
    exact ⟨k, by simpa using hk, by simp [h]⟩
  simp [versB, this]
theorem versB_long {vs : List VerV} {now : Int} (h : 120 < vs.length) : versB vs now = false := by
  have : decide (vs.length ≤ 120) = false := by simp; omega
  simp only [versB, this, Bool.false_and]
theorem versB_yes {vs : List VerV} {now : Int} (hl : vs.length ≤ 120) (h : ∀ j, j < vs.length → verAt vs now j = true) : versB vs now = true := by
  have : (List.range vs.length).all (verAt vs now) = true := by
    rw [List.all_eq_true]
    intro k hk
    exact h k (by simpa using hk)
  simp [versB, this, hl]
theorem versB_len {vs : List VerV} {now : Int} (h : versB vs now = true) : vs.length ≤ 120 := by
  simp only [versB, Bool.and_eq_true, decide_eq_true_eq] at h
  exact h.1
theorem stampsB_no {vs : List VerV} {now : Int} {s : Nat} (hs : (s : Int) ≤ now) (h : relOk (liveS vs s) = false) : stampsB vs now = false := by
  unfold stampsB
  rw [List.all_eq_false]
  exact ⟨s, by simp; omega, by simp [h]⟩
theorem stampsB_yes {vs : List VerV} {now : Int} (h : ∀ s : Nat, (s : Int) ≤ now → relOk (liveS vs s) = true) : stampsB vs now = true := by
  unfold stampsB
  rw [List.all_eq_true]
  intro s hs
  exact h s (by simp at hs; omega)
theorem storeB_now {vs : List VerV} {now : Int} (h : ¬ (0 ≤ now ∧ now ≤ 30)) : storeB vs now = false := by
  have : decide (0 ≤ now ∧ now ≤ 30) = false := by simpa using h
  simp only [storeB, this, Bool.false_and]
theorem storeB_vers {vs : List VerV} {now : Int} (h : versB vs now = false) : storeB vs now = false := by simp [storeB, h]
theorem storeB_in {vs : List VerV} {now : Int} (h0 : 0 ≤ now ∧ now ≤ 30) (h : versB vs now = true) : storeB vs now = stampsB vs now := by simp [storeB, h0, h]
theorem storeB_iff {vs : List VerV} {now : Int} : storeB vs now = true ↔ (0 ≤ now ∧ now ≤ 30) ∧ versB vs now = true ∧ stampsB vs now = true := by
  simp [storeB, Bool.and_eq_true, and_assoc]
theorem getV_of {vs : List VerV} {k : Nat} {x : VerV} (h : vs[k]? = some x) : vs.getD k ver0 = x := by simp [List.getD, h]
theorem verAt_of {vs : List VerV} {now : Int} {k : Nat} {x : VerV} (hx : vs[k]? = some x) (h0 : k = 0) : verAt vs now k = verB now x := by
  subst h0
  rw [verAt, getV_of hx]
  simp
theorem verAt_of2 {vs : List VerV} {now : Int} {k : Nat} {x y : VerV} (hx : vs[k]? = some x) (h0 : k ≠ 0) (hy : vs[k - 1]? = some y) : verAt vs now k = (verB now x && decide (y.i ≤ x.i)) := by
  rw [verAt, getV_of hx, getV_of hy]
  have : (k == 0) = false := by simpa using h0
  rw [this, Bool.false_or]
theorem live_short {vs : List VerV} {s : Int} (h : ShortV vs) : ∀ r ∈ liveL vs s, r.k.size ≤ maxLen ∧ r.t.size ≤ maxLen := fun r hr => by
  obtain ⟨x, hx, rfl⟩ := List.mem_map.1 hr
  exact h x (List.mem_filter.1 hx).1
theorem liveS_short {vs : List VerV} {s : Int} (h : ShortV vs) : ∀ r ∈ liveS vs s, r.k.size ≤ maxLen ∧ r.t.size ≤ maxLen := fun r hr => live_short h r ((liveS_facts vs s).2.subset hr)
end Go.Proofs.Ytacddgipcafdlaa
