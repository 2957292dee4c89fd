/-
  Plain: tables changed for a while.
-/
import Derived.Test.YtacddgipcafdlaaRelP
namespace Go.Proofs.Ytacddgipcafdlaa
open Go.RowKit

/-- In order, no two of a key at once, none to be put together. -/
def tadj (x y : RowV) : Prop := adj x y ∧ touchB x y = false
theorem lead_tadj {y x : RowV} : leadB y x = true ↔ tadj y x := by
  cases h : touchB y x with
  | false => rw [lead_adj h, tadj, h]; simp
  | true =>
    rw [tadj, h]
    obtain ⟨e1, e2, e3⟩ := touch_iff.1 h
    constructor
    · intro hl
      unfold leadB at hl
      rw [if_pos (same_key.2 e1), same_key.2 e2] at hl
      simp [e3] at hl
    · rintro ⟨_, h⟩; cases h
theorem tadj_trans {x y z : RowV} (hy : y.f < y.e) (h1 : tadj x y) (h2 : tadj y z) : tadj x z := by
  refine ⟨adj_trans hy h1.1 h2.1, ?_⟩
  cases h : touchB x z with
  | false => rfl
  | true =>
    obtain ⟨e1, e2, e3⟩ := touch_iff.1 h
    rcases h1.1 with a | ⟨a, a'⟩ <;> rcases h2.1 with b | ⟨b, b'⟩
    · have := kl_trans a b; rw [e1, kl_irrefl] at this; cases this
    · rw [b, e1, kl_irrefl] at a; cases a
    · rw [← a, e1, kl_irrefl] at b; cases b
    · omega
theorem leadsGo_iff : ∀ (l : List RowV) (y : RowV), leadsGo y l = true ↔ (∀ x ∈ l, rowOk x = true) ∧ (y.f < y.e → (y :: l).Pairwise tadj) ∧ (leadsGo y l = true)
  | _, _ => ⟨fun h => ⟨fun x hx => by
      rename_i l y
      induction l generalizing y with
      | nil => cases hx
      | cons z l ih =>
        rw [leadsGo, Bool.and_eq_true, Bool.and_eq_true] at h
        rcases List.mem_cons.1 hx with rfl | hx
        · exact h.1.1
        · exact ih z h.2 hx, fun hy => by
      rename_i l y
      induction l generalizing y with
      | nil => simp
      | cons z l ih =>
        rw [leadsGo, Bool.and_eq_true, Bool.and_eq_true] at h
        have hz : z.f < z.e := (rowOk_iff.1 h.1.1).2.2.2.1
        have h2 := ih z h.2 hz
        rw [List.pairwise_cons]
        refine ⟨fun v hv => ?_, h2⟩
        rcases List.mem_cons.1 hv with rfl | hv
        · exact lead_tadj.1 h.1.2
        · exact tadj_trans hz (lead_tadj.1 h.1.2) ((List.pairwise_cons.1 h2).1 v hv), h⟩, fun h => h.2.2⟩
theorem leads_of : ∀ (l : List RowV) (y : RowV), (∀ x ∈ l, rowOk x = true) → (y :: l).Pairwise tadj → leadsGo y l = true
  | [], _, _, _ => rfl
  | x :: l, y, h1, h2 => by
    rw [leadsGo, Bool.and_eq_true, Bool.and_eq_true]
    have h3 := List.pairwise_cons.1 h2
    exact ⟨⟨h1 x (List.mem_cons_self ..), lead_tadj.2 (h3.1 x (List.mem_cons_self ..))⟩, leads_of l x (fun z hz => h1 z (List.mem_cons_of_mem _ hz)) h3.2⟩
/-- A table is ok just if its rows are, and it is in order, with nothing at once and nothing to be put together. -/
theorem relAll_pair (l : List RowV) : relAll l = true ↔ (∀ x ∈ l, rowOk x = true) ∧ l.Pairwise tadj := by
  cases l with
  | nil => simp [relAll]
  | cons y l =>
    rw [relAll, Bool.and_eq_true]
    constructor
    · rintro ⟨h1, h2⟩
      obtain ⟨h3, h4, _⟩ := (leadsGo_iff l y).1 h2
      refine ⟨fun x hx => ?_, h4 (rowOk_iff.1 h1).2.2.2.1⟩
      rcases List.mem_cons.1 hx with rfl | hx
      · exact h1
      · exact h3 x hx
    · rintro ⟨h1, h2⟩
      exact ⟨h1 y (List.mem_cons_self ..), leads_of l y (fun x hx => h1 x (List.mem_cons_of_mem _ hx)) h2⟩

/-- What the sorted rows give: the table, or nothing. -/
def tableO (s : List RowV) : Option (List RowV) := if relOk (joinRows s) = true then some (joinRows s) else none
/-- Rows that are apart in some order: sorted they are in that order. -/
theorem tableO_apart {s m : List RowV} (hm : Apart m) (hr : ∀ x ∈ m, rowOk x = true) (hs : Ordered s) (hp : s.Perm m) : tableO s = if (joinRows m).length ≤ 24 then some (joinRows m) else none := by
  have hv : ∀ x ∈ m, spanOk x := fun x hx => (rowOk_iff.1 (hr x hx)).2.2
  have : s = m := apart_unique s m hs hm (fun x hx => (hv x hx).2.1) hp
  subst this
  unfold tableO
  by_cases hl : (joinRows s).length ≤ 24
  · rw [if_pos hl, if_pos ((relOk_join s hv).2 ⟨hl, hr, hm⟩)]
  · rw [if_neg hl, if_neg fun h => hl ((relOk_join s hv).1 h).1]
theorem tableO_clash {s l : List RowV} (hr : ∀ x ∈ l, rowOk x = true) (hp : s.Perm l) (hc : ¬ l.Pairwise fun x y => meetB x y = false) : tableO s = none := by
  have hv : ∀ x ∈ s, spanOk x := fun x hx => (rowOk_iff.1 (hr x (hp.subset hx))).2.2
  unfold tableO
  rw [if_neg]
  intro h
  have ha := ((relOk_join s hv).1 h).2.2
  have h3 : List.Pairwise (fun x y => meetB x y = false) s := List.Pairwise.imp adj_meet ha
  exact hc (List.Perm.pairwise hp h3 (fun {a b} h => by rw [meet_comm]; exact h))

/-- A table and whether it was done: the old one if there are too many rows. -/
def fitsL (l old : List RowV) : List RowV × Bool := if l.length ≤ 24 then (l, true) else (old, false)
/-- What becomes of a change: the table of these rows, or the old one. -/
def changedL (s old : List RowV) : List RowV × Bool := match tableO s with | some l => (l, true) | none => (old, false)
theorem changed_fits {s m old : List RowV} (hm : Apart m) (hr : ∀ x ∈ m, rowOk x = true) (hs : Ordered s) (hp : s.Perm m) : changedL s old = fitsL (joinRows m) old := by
  unfold changedL fitsL
  rw [tableO_apart hm hr hs hp]
  by_cases hl : (joinRows m).length ≤ 24
  · rw [if_pos hl, if_pos hl]
  · rw [if_neg hl, if_neg hl]

theorem rel_apart {t : List RowV} (h : relOk t = true) : (∀ x ∈ t, rowOk x = true) ∧ Apart t := rel_rows ((relOk_iff t).1 h).2

/-! ### insert -/
def insertL (t : List RowV) (r : RowV) : List RowV × Bool := if rowOk r = true ∧ holdsR t r = false then fitsL (joinRows (putR t r)) t else (t, false)
theorem insert_eq {t s : List RowV} {r : RowV} (ht : relOk t = true) (hr : rowOk r = true) (hs : Ordered s) (hp : s.Perm (t ++ [r])) : changedL s t = insertL t r := by
  obtain ⟨h1, h2⟩ := rel_apart ht
  unfold insertL
  cases hh : holdsR t r with
  | false =>
    rw [if_pos ⟨hr, rfl⟩]
    have ha := putR_apart h2 (fun x hx => (rowOk_iff.1 (h1 x hx)).2.2.2.1) (rowOk_iff.1 hr).2.2.2.1 hh
    refine changed_fits ha (fun x hx => ?_) hs (hp.trans ?_)
    · rcases putR_mem.1 hx with rfl | hx
      · exact hr
      · exact h1 x hx
    · exact (List.perm_append_singleton r t).trans (putR_perm t r).symm
  | true =>
    rw [if_neg (by simp)]
    unfold changedL
    rw [tableO_clash (l := t ++ [r]) (fun x hx => ?_) hp fun h => ?_]
    · rcases List.mem_append.1 hx with hx | hx
      · exact h1 x hx
      · rw [List.mem_singleton.1 hx]; exact hr
    · unfold holdsR at hh
      rw [List.any_eq_true] at hh
      obtain ⟨x, hx, hm⟩ := hh
      have := (List.pairwise_append.1 h).2.2 x hx r (List.mem_singleton.2 rfl)
      rw [hm] at this; cases this

/-! ### delete -/
def leftS (f e a b : Int) : List (Int × Int) := if max f a < min e b then (if f < a then [(f, a)] else []) ++ (if b < e then [(b, e)] else []) else [(f, e)]
def cutRow (key : ByteArray) (a b : Int) (x : RowV) : List RowV := if (x.k.toList == key.toList) = true then (leftS x.f x.e a b).map fun p => ⟨x.k, x.t, p.1, p.2⟩ else [x]
def cutL (t : List RowV) (key : ByteArray) (a b : Int) : List RowV := t.flatMap (cutRow key a b)
theorem left_in {f e a b : Int} {p : Int × Int} (hfe : f < e) (hab : a < b) (h : p ∈ leftS f e a b) : f ≤ p.1 ∧ p.1 < p.2 ∧ p.2 ≤ e ∧ (p.2 ≤ a ∨ b ≤ p.1) := by
  unfold leftS at h
  by_cases hm : max f a < min e b
  · rw [if_pos hm, List.mem_append] at h
    rcases h with h | h
    · by_cases h1 : f < a
      · rw [if_pos h1, List.mem_singleton] at h
        subst h
        exact ⟨by simp, by simpa using h1, by simp; omega, .inl (by simp)⟩
      · rw [if_neg h1] at h; cases h
    · by_cases h1 : b < e
      · rw [if_pos h1, List.mem_singleton] at h
        subst h
        exact ⟨by simp; omega, by simpa using h1, by simp, .inr (by simp)⟩
      · rw [if_neg h1] at h; cases h
  · rw [if_neg hm, List.mem_singleton] at h
    subst h
    exact ⟨by simp, hfe, by simp, by simp; omega⟩
theorem left_pair {f e a b : Int} (hab : a < b) : (leftS f e a b).Pairwise fun p q => p.2 < q.1 := by
  unfold leftS
  by_cases hm : max f a < min e b
  · rw [if_pos hm]
    by_cases h1 : f < a <;> by_cases h2 : b < e <;> simp [h1, h2, hab]
  · rw [if_neg hm]; simp
theorem left_len (f e a b : Int) : (leftS f e a b).length ≤ 2 := by
  unfold leftS
  split
  · split <;> split <;> simp
  · simp
theorem cut_in {key : ByteArray} {a b : Int} {x y : RowV} (hx : x.f < x.e) (hab : a < b) (h : y ∈ cutRow key a b x) : y.k = x.k ∧ y.t = x.t ∧ x.f ≤ y.f ∧ y.f < y.e ∧ y.e ≤ x.e ∧ (x.k = key → y.e ≤ a ∨ b ≤ y.f) := by
  unfold cutRow at h
  by_cases hk : (x.k.toList == key.toList) = true
  · rw [if_pos hk, List.mem_map] at h
    obtain ⟨p, hp, rfl⟩ := h
    obtain ⟨h1, h2, h3, h4⟩ := left_in hx hab hp
    exact ⟨rfl, rfl, h1, h2, h3, fun _ => h4⟩
  · rw [if_neg hk, List.mem_singleton] at h
    subst h
    exact ⟨rfl, rfl, Int.le_refl _, hx, Int.le_refl _, fun e => absurd (same_key.2 e) hk⟩
theorem cut_len (key : ByteArray) (a b : Int) (x : RowV) : (cutRow key a b x).length ≤ 2 := by
  unfold cutRow
  split
  · rw [List.length_map]; exact left_len ..
  · simp
theorem cutL_len (key : ByteArray) (a b : Int) : ∀ t : List RowV, (cutL t key a b).length ≤ t.length * 2
  | [] => by simp [cutL]
  | x :: t => by
    have := cut_len key a b x
    have := cutL_len key a b t
    unfold cutL at *
    rw [List.flatMap_cons, List.length_append, List.length_cons]
    omega
theorem rowOk_in {x y : RowV} (hx : rowOk x = true) (h : y.k = x.k ∧ y.t = x.t ∧ x.f ≤ y.f ∧ y.f < y.e ∧ y.e ≤ x.e) : rowOk y = true := by
  rw [rowOk_iff] at *
  obtain ⟨a, b, c, d, e⟩ := hx
  obtain ⟨h1, h2, h3, h4, h5⟩ := h
  rw [h1, h2]
  exact ⟨a, b, by omega, h4, by omega⟩
theorem tadj_in {x y x' y' : RowV} (h : tadj x y) (hx : x'.k = x.k ∧ x'.t = x.t ∧ x'.e ≤ x.e) (hy : y'.k = y.k ∧ y'.t = y.t ∧ y.f ≤ y'.f) : tadj x' y' := by
  obtain ⟨a, b, c⟩ := hx
  obtain ⟨a', b', c'⟩ := hy
  constructor
  · rcases h.1 with h1 | ⟨h1, h2⟩
    · exact .inl (by rw [a, a']; exact h1)
    · exact .inr ⟨by rw [a, a', h1], by omega⟩
  · cases ht : touchB x' y' with
    | false => rfl
    | true =>
      obtain ⟨e1, e2, e3⟩ := touch_iff.1 ht
      rw [a, a'] at e1
      rw [b, b'] at e2
      rcases h.1 with h1 | ⟨h1, h2⟩
      · rw [e1, kl_irrefl] at h1; cases h1
      · have := touch_iff.2 ⟨e1, e2, (by omega : x.e = y.f)⟩
        rw [h.2] at this; cases this
theorem cut_rel {t : List RowV} {key : ByteArray} {a b : Int} (hab : a < b) (h : relAll t = true) : relAll (cutL t key a b) = true := by
  rw [relAll_pair] at *
  obtain ⟨h1, h2⟩ := h
  have hv : ∀ x ∈ t, x.f < x.e := fun x hx => (rowOk_iff.1 (h1 x hx)).2.2.2.1
  constructor
  · intro y hy
    obtain ⟨x, hx, hy⟩ := List.mem_flatMap.1 hy
    obtain ⟨k1, k2, k3, k4, k5, _⟩ := cut_in (hv x hx) hab hy
    exact rowOk_in (h1 x hx) ⟨k1, k2, k3, k4, k5⟩
  · unfold cutL
    rw [List.pairwise_flatMap]
    constructor
    · intro x hx
      unfold cutRow
      by_cases hk : (x.k.toList == key.toList) = true
      · rw [if_pos hk, List.pairwise_map]
        refine (left_pair hab).imp fun {p q} h => ?_
        refine ⟨.inr ⟨rfl, by show p.2 ≤ q.1; omega⟩, ?_⟩
        cases ht : touchB _ _ with
        | false => rfl
        | true =>
          have h3 : p.2 = q.1 := (touch_iff.1 ht).2.2
          omega
      · rw [if_neg hk]; simp
    · have hboth : t.Pairwise fun x y => (x ∈ t ∧ y ∈ t) ∧ tadj x y := by
        have hm : t.Pairwise fun x y => x ∈ t ∧ y ∈ t := List.pairwise_iff_forall_sublist.2 fun {x y} hs => ⟨hs.subset (by simp), hs.subset (by simp)⟩
        exact hm.and h2
      refine hboth.imp fun {x y} hxy x' hx' y' hy' => ?_
      obtain ⟨⟨mx, my⟩, hxy⟩ := hxy
      obtain ⟨k1, k2, k3, k4, k5, _⟩ := cut_in (hv x mx) hab hx'
      obtain ⟨j1, j2, j3, j4, j5, _⟩ := cut_in (hv y my) hab hy'
      exact tadj_in hxy ⟨k1, k2, k5⟩ ⟨j1, j2, j3⟩
def deleteL (t : List RowV) (key : ByteArray) (a b : Int) : List RowV × Bool := fitsL (cutL t key a b) t
theorem delete_eq {t s : List RowV} {key : ByteArray} {a b : Int} (ht : relOk t = true) (hab : a < b) (hs : Ordered s) (hp : s.Perm (cutL t key a b)) : changedL s t = deleteL t key a b := by
  have hc := cut_rel (key := key) hab ((relOk_iff t).1 ht).2
  obtain ⟨h1, h2⟩ := rel_rows hc
  rw [changed_fits h2 h1 hs hp, joinRows_rel _ hc]
  rfl

/-! ### merge -/
def mergeL (t : List RowV) (r : RowV) : List RowV × Bool := fitsL (joinRows (putR (cutL t r.k r.f r.e) r)) t
theorem cut_holds {t : List RowV} {r : RowV} (ht : ∀ x ∈ t, x.f < x.e) (hr : r.f < r.e) : holdsR (cutL t r.k r.f r.e) r = false := by
  unfold holdsR
  rw [List.any_eq_false]
  intro y hy hm
  obtain ⟨x, hx, hy⟩ := List.mem_flatMap.1 hy
  obtain ⟨k1, k2, k3, k4, k5, k6⟩ := cut_in (ht x hx) hr hy
  obtain ⟨m1, m2, m3⟩ := meet_yes hm
  have := k6 (k1.symm.trans m1)
  omega
theorem merge_eq {t s : List RowV} {r : RowV} (ht : relOk t = true) (hr : rowOk r = true) (hs : Ordered s) (hp : s.Perm (cutL t r.k r.f r.e ++ [r])) : changedL s t = mergeL t r := by
  have hre : r.f < r.e := (rowOk_iff.1 hr).2.2.2.1
  have hc := cut_rel (key := r.k) hre ((relOk_iff t).1 ht).2
  obtain ⟨h1, h2⟩ := rel_rows hc
  have hv : ∀ x ∈ t, x.f < x.e := fun x hx => (rowOk_iff.1 ((rel_apart ht).1 x hx)).2.2.2.1
  have ha := putR_apart h2 (fun x hx => (rowOk_iff.1 (h1 x hx)).2.2.2.1) hre (cut_holds hv hre)
  refine changed_fits ha (fun x hx => ?_) hs (hp.trans ((List.perm_append_singleton _ _).trans (putR_perm _ _).symm))
  rcases putR_mem.1 hx with rfl | hx
  · exact hr
  · exact h1 x hx

/-! ### update -/
def meetRow (r x : RowV) : Option RowV := if meetB x r = true then some ⟨r.k, r.t, max x.f r.f, min x.e r.e⟩ else none
def updRows (t : List RowV) (r : RowV) : List RowV := t.filterMap (meetRow r)
def updateOut (t : List RowV) (r : RowV) : List RowV := (updRows t r).foldl putR (cutL t r.k r.f r.e)
def updateL (t : List RowV) (r : RowV) : List RowV × Bool := fitsL (joinRows (updateOut t r)) t
theorem meet_in {r x y : RowV} (h : meetRow r x = some y) : y.k = r.k ∧ y.t = r.t ∧ x.k = r.k ∧ x.f ≤ y.f ∧ r.f ≤ y.f ∧ y.f < y.e ∧ y.e ≤ x.e ∧ y.e ≤ r.e := by
  unfold meetRow at h
  by_cases hm : meetB x r = true
  · rw [if_pos hm] at h
    injection h with h
    subst h
    have h0 := hm
    unfold meetB at h0
    rw [Bool.and_eq_true, same_key, decide_eq_true_eq] at h0
    refine ⟨rfl, rfl, h0.1, ?_, ?_, h0.2, ?_, ?_⟩ <;> dsimp only <;> omega
  · rw [if_neg hm] at h; cases h
theorem upd_lay : ∀ (l out : List RowV), Apart out → (∀ x ∈ out, rowOk x = true) → (∀ x ∈ l, rowOk x = true) → (∀ x ∈ l, holdsR out x = false) → (l.Pairwise fun x y => meetB x y = false) →
    Apart (l.foldl putR out) ∧ (∀ x ∈ l.foldl putR out, rowOk x = true) ∧ (l.foldl putR out).Perm (out ++ l)
  | [], out, h1, h2, _, _, _ => ⟨h1, h2, by simp⟩
  | r :: l, out, h1, h2, h3, h4, h5 => by
    have hr := h3 r (List.mem_cons_self ..)
    have h6 := List.pairwise_cons.1 h5
    have ha := putR_apart h1 (fun x hx => (rowOk_iff.1 (h2 x hx)).2.2.2.1) (rowOk_iff.1 hr).2.2.2.1 (h4 r (List.mem_cons_self ..))
    obtain ⟨a, b, c⟩ := upd_lay l (putR out r) ha (fun x hx => by
      rcases putR_mem.1 hx with rfl | hx
      · exact hr
      · exact h2 x hx) (fun x hx => h3 x (List.mem_cons_of_mem _ hx)) (fun x hx => by
      unfold holdsR
      rw [List.any_eq_false]
      intro z hz
      rcases putR_mem.1 hz with rfl | hz
      · simp [h6.1 x hx]
      · have := h4 x (List.mem_cons_of_mem _ hx)
        unfold holdsR at this
        rw [List.any_eq_false] at this
        exact this z hz) h6.2
    refine ⟨a, b, c.trans ?_⟩
    exact ((putR_perm out r).append_right l).trans (by simpa using (List.perm_middle (a := r) (l₁ := out) (l₂ := l)).symm)
theorem upd_rows {t : List RowV} {r : RowV} (ht : relOk t = true) (hr : rowOk r = true) : (∀ x ∈ updRows t r, rowOk x = true) ∧ (∀ x ∈ updRows t r, holdsR (cutL t r.k r.f r.e) x = false) ∧ (updRows t r).Pairwise fun x y => meetB x y = false := by
  obtain ⟨h1, h2⟩ := rel_apart ht
  have hre : r.f < r.e := (rowOk_iff.1 hr).2.2.2.1
  have hv : ∀ x ∈ t, x.f < x.e := fun x hx => (rowOk_iff.1 (h1 x hx)).2.2.2.1
  refine ⟨fun y hy => ?_, fun y hy => ?_, ?_⟩
  · obtain ⟨x, hx, hy⟩ := List.mem_filterMap.1 hy
    obtain ⟨k1, k2, k3, k4, k5, k6, k7, k8⟩ := meet_in hy
    exact rowOk_in hr ⟨k1, k2, k5, k6, k8⟩
  · obtain ⟨x, hx, hy⟩ := List.mem_filterMap.1 hy
    obtain ⟨k1, k2, k3, k4, k5, k6, k7, k8⟩ := meet_in hy
    unfold holdsR
    rw [List.any_eq_false]
    intro z hz hm
    obtain ⟨v, hv', hz⟩ := List.mem_flatMap.1 hz
    obtain ⟨j1, j2, j3, j4, j5, j6⟩ := cut_in (hv v hv') hre hz
    obtain ⟨m1, m2, m3⟩ := meet_yes hm
    have := j6 (j1.symm.trans (m1.trans k1))
    omega
  · unfold updRows
    rw [List.pairwise_filterMap]
    refine List.Pairwise.imp ?_ h2
    intro x y hxy x' hx' y' hy'
    obtain ⟨k1, k2, k3, k4, k5, k6, k7, k8⟩ := meet_in hx'
    obtain ⟨j1, j2, j3, j4, j5, j6, j7, j8⟩ := meet_in hy'
    cases hm : meetB x' y' with
    | false => rfl
    | true =>
      obtain ⟨m1, m2, m3⟩ := meet_yes hm
      rcases hxy with h | ⟨h, h'⟩
      · rw [k3, j3, kl_irrefl] at h; cases h
      · omega
theorem update_eq {t s : List RowV} {r : RowV} (ht : relOk t = true) (hr : rowOk r = true) (hs : Ordered s) (hp : s.Perm (cutL t r.k r.f r.e ++ updRows t r)) : changedL s t = updateL t r := by
  have hre : r.f < r.e := (rowOk_iff.1 hr).2.2.2.1
  have hc := cut_rel (key := r.k) hre ((relOk_iff t).1 ht).2
  obtain ⟨h1, h2⟩ := rel_rows hc
  obtain ⟨u1, u2, u3⟩ := upd_rows ht hr
  obtain ⟨a, b, c⟩ := upd_lay (updRows t r) _ h2 h1 u1 u2 u3
  exact changed_fits a b hs (hp.trans c.symm)

/-! ### move -/
def moveRow (n : Int) (x : RowV) : Option RowV := if max (x.f + n) 0 < min (x.e + n) 100 then some ⟨x.k, x.t, max (x.f + n) 0, min (x.e + n) 100⟩ else none
def moveL (t : List RowV) (n : Int) : List RowV := t.filterMap (moveRow n)
theorem move_in {n : Int} {x y : RowV} (h : moveRow n x = some y) : y.k = x.k ∧ y.t = x.t ∧ 0 ≤ y.f ∧ x.f + n ≤ y.f ∧ y.f < y.e ∧ y.e ≤ 100 ∧ y.e ≤ x.e + n := by
  unfold moveRow at h
  by_cases hm : max (x.f + n) 0 < min (x.e + n) 100
  · rw [if_pos hm] at h
    injection h with h
    subst h
    refine ⟨rfl, rfl, ?_, ?_, hm, ?_, ?_⟩ <;> dsimp only <;> omega
  · rw [if_neg hm] at h; cases h
theorem move_rel {t : List RowV} (n : Int) (h : relAll t = true) : relAll (moveL t n) = true := by
  rw [relAll_pair] at *
  obtain ⟨h1, h2⟩ := h
  constructor
  · intro y hy
    obtain ⟨x, hx, hy⟩ := List.mem_filterMap.1 hy
    obtain ⟨k1, k2, k3, k4, k5, k6, k7⟩ := move_in hy
    have := h1 x hx
    rw [rowOk_iff] at *
    rw [k1, k2]
    exact ⟨this.1, this.2.1, k3, k5, k6⟩
  · unfold moveL
    rw [List.pairwise_filterMap]
    refine h2.imp ?_
    intro x y hxy x' hx' y' hy'
    obtain ⟨k1, k2, k3, k4, k5, k6, k7⟩ := move_in hx'
    obtain ⟨j1, j2, j3, j4, j5, j6, j7⟩ := move_in hy'
    constructor
    · rcases hxy.1 with h | ⟨h, h'⟩
      · exact .inl (by rw [k1, j1]; exact h)
      · exact .inr ⟨by rw [k1, j1, h], by omega⟩
    · cases ht : touchB x' y' with
      | false => rfl
      | true =>
        obtain ⟨e1, e2, e3⟩ := touch_iff.1 ht
        rw [k1, j1] at e1
        rw [k2, j2] at e2
        rcases hxy.1 with h | ⟨h, h'⟩
        · rw [e1, kl_irrefl] at h; cases h
        · have := touch_iff.2 ⟨e1, e2, (by omega : x.e = y.f)⟩
          rw [hxy.2] at this; cases this
theorem move_len (t : List RowV) (n : Int) : (moveL t n).length ≤ t.length := List.length_filterMap_le ..
theorem move_eq {t s : List RowV} {n : Int} (ht : relOk t = true) (hs : Ordered s) (hp : s.Perm (moveL t n)) : tableL s = moveL t n := by
  have hc := move_rel n ((relOk_iff t).1 ht).2
  obtain ⟨h1, h2⟩ := rel_rows hc
  have : s = moveL t n := apart_unique s _ hs h2 (fun x hx => (rowOk_iff.1 (h1 x hx)).2.2.2.1) hp
  subst this
  unfold tableL
  rw [joinRows_rel _ hc, if_pos ((relOk_iff _).2 ⟨?_, hc⟩)]
  have := move_len t n
  have := ((relOk_iff t).1 ht).1
  omega
end Go.Proofs.Ytacddgipcafdlaa
