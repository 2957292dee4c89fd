/-
  Plain: what the laws say of a table's tree.
-/
import Derived.Test.YtphinkcfmdnpfaaTreI
import Derived.Test.YtphinkcfmdnpfaaRelOf
import Derived.Test.YtphinkcfmdnpfaaRelU
namespace Go.Proofs.Ytphinkcfmdnpfaa
open Go.RowKit

def rowsN (x : List NodV) : List RowV := x.map (·.r)
theorem rowsN_len (x : List NodV) : (rowsN x).length = x.length := List.length_map ..
def sameRow (x y : RowV) : Bool := (x.k.toList == y.k.toList) && ((x.t.toList == y.t.toList) && ((x.f == y.f) && (x.e == y.e)))
def sameNod (x y : NodV) : Bool := sameRow x.r y.r && ((x.i == y.i) && (x.o == y.o))
theorem sameRow_iff {x y : RowV} : sameRow x y = true ↔ x = y := by
  unfold sameRow
  rw [Bool.and_eq_true, Bool.and_eq_true, Bool.and_eq_true, same_key, same_key, beq_iff_eq, beq_iff_eq]
  constructor
  · rintro ⟨h1, h2, h3, h4⟩
    cases x; cases y
    simp_all
  · rintro rfl
    exact ⟨rfl, rfl, rfl, rfl⟩
theorem sameNod_iff {x y : NodV} : sameNod x y = true ↔ x = y := by
  unfold sameNod
  rw [Bool.and_eq_true, Bool.and_eq_true, sameRow_iff, beq_iff_eq, beq_iff_eq]
  constructor
  · rintro ⟨h1, h2, h3⟩
    cases x; cases y
    simp_all
  · rintro rfl
    exact ⟨rfl, rfl, rfl⟩
def eqNs : List NodV → List NodV → Bool
  | [], [] => true
  | x :: xs, y :: ys => sameNod x y && eqNs xs ys
  | [], _ :: _ => false
  | _ :: _, [] => false
theorem eqNs_iff : ∀ {xs ys : List NodV}, eqNs xs ys = true ↔ xs = ys
  | [], [] => by simp [eqNs]
  | x :: xs, y :: ys => by
    unfold eqNs
    rw [Bool.and_eq_true, sameNod_iff, eqNs_iff (xs := xs) (ys := ys), List.cons.injEq]
  | [], _ :: _ => by simp [eqNs]
  | _ :: _, [] => by simp [eqNs]
/-- What IndexOk answers. -/
def idxB (x : List NodV) : Bool := decide ((relOfL (rowsN x)).length = x.length) && eqNs (indexL (relOfL (rowsN x))) x
theorem idxB_iff {x : List NodV} : idxB x = true ↔ (relOfL (rowsN x)).length = x.length ∧ indexL (relOfL (rowsN x)) = x := by
  unfold idxB
  rw [Bool.and_eq_true, decide_eq_true_eq, eqNs_iff]
theorem fold_full : ∀ (l out : List RowV), (l.foldl joinStep out).length = out.length + l.length → l.foldl joinStep out = out ++ l
  | [], out, _ => by simp
  | x :: l, out, h => by
    have h1 := joinStep_len out x
    have h2 := joinFold_len l (joinStep out x)
    rw [List.foldl_cons, List.length_cons] at h
    have h3 : (joinStep out x).length = out.length + 1 := by omega
    have h4 : joinStep out x = out ++ [x] := by
      rcases List.eq_nil_or_concat out with e | ⟨o, y, e⟩
      · subst e; simp [joinStep]
      · rw [List.concat_eq_append] at e
        subst e
        rw [joinStep_at] at h3 ⊢
        by_cases hc : touchB y x = true
        · rw [if_pos hc] at h3; simp at h3
        · rw [if_neg hc]
    rw [List.foldl_cons, fold_full l _ (by omega), h4, List.append_assoc]
    rfl
theorem joinRows_full {l : List RowV} (h : (joinRows l).length = l.length) : joinRows l = l := by
  have := fold_full l [] (by rw [List.length_nil, Nat.zero_add]; exact h)
  exact this
/-- What the program asks, the rows put in order, is what IndexOk answers. -/
theorem idx_table {x : List NodV} {s : List RowV} (hs : Ordered s) (hp : s.Perm (rowsN x)) : (relOk s = true ∧ indexL s = x ↔ idxB x = true) ∧ (relOk s = true → relOfL (rowsN x) = s) := by
  have key : relOk s = true → relOfL (rowsN x) = s := fun h => by
    have ha := ((relOk_iff s).1 h).2
    have hr := (rel_rows ha).1
    rw [← table_of (rowsN x) s (fun y hy => hr y (hp.symm.subset hy)) hs hp]
    unfold tableL
    rw [joinRows_rel s ha, if_pos h]
  refine ⟨⟨fun ⟨h1, h2⟩ => ?_, fun h => ?_⟩, key⟩
  · rw [idxB_iff, key h1]
    exact ⟨by rw [hp.length_eq, rowsN_len], h2⟩
  · obtain ⟨h1, h2⟩ := idxB_iff.1 h
    by_cases hn : x = []
    · subst hn
      have e : s = [] := List.length_eq_zero_iff.1 (by rw [hp.length_eq]; rfl)
      subst e
      refine ⟨rfl, ?_⟩
      have e2 : relOfL (rowsN []) = [] := rfl
      rw [e2] at h2
      exact h2
    · have hr : ∀ y ∈ rowsN x, rowOk y = true := fun y hy => by
        cases hc : rowOk y with
        | true => rfl
        | false =>
          rw [relOf_bad hy hc] at h1
          exact absurd (List.length_eq_zero_iff.1 h1.symm) hn
      have ht := table_of (rowsN x) s hr hs hp
      have hl : (tableL s).length = s.length := by rw [ht, h1, hp.length_eq, rowsN_len]
      have h0 : 0 < s.length := by
        rw [hp.length_eq, rowsN_len]
        exact List.length_pos_iff.2 hn
      unfold tableL at hl ht
      by_cases hk : relOk (joinRows s) = true
      · rw [if_pos hk] at hl ht
        have he := joinRows_full hl
        rw [he] at hk ht
        exact ⟨hk, by rw [ht]; exact h2⟩
      · rw [if_neg hk] at hl
        exact absurd hl (by simp; omega)
theorem idxB_len {x : List NodV} (h : idxB x = true) : x.length ≤ 24 := by
  obtain ⟨h1, _⟩ := idxB_iff.1 h
  have := relOf_len (rowsN x)
  omega

/-- A tree's rows, in their order. -/
def Tr.rows : Tr → List RowV
  | .nil => []
  | .node x l r => l.rows ++ x.r :: r.rows
theorem Tr.rows_len : ∀ T : Tr, T.rows.length = T.many
  | .nil => rfl
  | .node x l r => by
    show (l.rows ++ x.r :: r.rows).length = l.many + 1 + r.many
    rw [List.length_append, List.length_cons, l.rows_len, r.rows_len]
    omega
theorem growT_rows : ∀ (n : Nat) (zs : List RowV), zs.length ≤ n → (growT n zs).rows = zs
  | 0, zs, h => by rw [List.length_eq_zero_iff.1 (Nat.le_zero.1 h)]; rfl
  | n + 1, zs, h => by
    rcases Nat.eq_zero_or_pos zs.length with h0 | h0
    · rw [List.length_eq_zero_iff.1 h0, growT_nil]; rfl
    · have hlt : zs.length / 2 < zs.length := by omega
      have hx := List.getElem?_eq_getElem hlt
      rw [growT_some hx]
      show (growT n _).rows ++ zs[zs.length / 2] :: (growT n _).rows = zs
      rw [growT_rows n _ (by rw [List.length_take]; omega), growT_rows n _ (by rw [List.length_drop]; omega)]
      rw [← List.drop_eq_getElem_cons hlt, List.take_append_drop]
/-- Each node tells how many stand in its first tree, and a point that none of its own passes. -/
def GoodT : Tr → Prop
  | .nil => True
  | .node x l r => x.i = l.many ∧ (∀ y ∈ l.rows ++ x.r :: r.rows, y.e ≤ x.o) ∧ GoodT l ∧ GoodT r
theorem last_rows : ∀ {T : Tr}, GoodT T → ∀ y ∈ T.rows, y.e ≤ T.last
  | .nil, _, y, hy => by cases hy
  | .node x l r, h, y, hy => h.2.1 y hy
theorem growT_good : ∀ (n : Nat) (zs : List RowV), GoodT (growT n zs)
  | 0, _ => trivial
  | n + 1, zs => by
    cases hx : zs[zs.length / 2]? with
    | none =>
      have e1 : growT (n + 1) zs = .nil := by simp [growT, hx]
      rw [e1]; trivial
    | some x =>
      rw [growT_some hx]
      have a := growT_good n (zs.take (zs.length / 2))
      have b := growT_good n (zs.drop (zs.length / 2 + 1))
      generalize growT n (zs.take (zs.length / 2)) = L at a ⊢
      generalize growT n (zs.drop (zs.length / 2 + 1)) = R at b ⊢
      refine ⟨rfl, fun y hy => ?_, a, b⟩
      show y.e ≤ max (max x.e L.last) R.last
      rcases List.mem_append.1 hy with hy | hy
      · have := last_rows a y hy; omega
      · rcases List.mem_cons.1 hy with he | hy
        · have : y.e = x.e := congrArg RowV.e he
          omega
        · have := last_rows b y hy; omega
theorem treeL_good (t : List RowV) : GoodT (treeL t) := by
  unfold treeL
  split
  · exact growT_good _ _
  · trivial
theorem treeL_rows {t : List RowV} (h : relOk t = true) : (treeL t).rows = sortF t := by
  unfold treeL
  rw [if_pos h]
  exact growT_rows _ _ (by rw [sortF_len]; exact ((relOk_iff t).1 h).1)

/-- What of a tree meets a span, and at how many nodes that looks. -/
def meetT (a e : Int) : Tr → List RowV × Nat
  | .nil => ([], 0)
  | .node x l r =>
    if x.o ≤ a then ([], 0) else
    if e ≤ x.r.f then ((meetT a e l).1, (meetT a e l).2 + 1) else
    ((meetT a e l).1 ++ (if a < x.r.e then [x.r] else []) ++ (meetT a e r).1, (meetT a e l).2 + 1 + (meetT a e r).2)
theorem meetT_nil (a e : Int) : meetT a e .nil = ([], 0) := rfl
theorem meetT_far {a e : Int} {x : NodV} {l r : Tr} (h : x.o ≤ a) : meetT a e (.node x l r) = ([], 0) := by
  unfold meetT; rw [if_pos h]
theorem meetT_ahead {a e : Int} {x : NodV} {l r : Tr} (h1 : ¬ x.o ≤ a) (h2 : e ≤ x.r.f) : meetT a e (.node x l r) = ((meetT a e l).1, (meetT a e l).2 + 1) := by
  rw [meetT, if_neg h1, if_pos h2]
theorem meetT_in {a e : Int} {x : NodV} {l r : Tr} (h1 : ¬ x.o ≤ a) (h2 : ¬ e ≤ x.r.f) : meetT a e (.node x l r) = ((meetT a e l).1 ++ (if a < x.r.e then [x.r] else []) ++ (meetT a e r).1, (meetT a e l).2 + 1 + (meetT a e r).2) := by
  rw [meetT, if_neg h1, if_neg h2]
theorem meetT_many (a e : Int) : ∀ T : Tr, (meetT a e T).2 ≤ T.many ∧ (meetT a e T).1.length ≤ (meetT a e T).2
  | .nil => ⟨Nat.le_refl _, Nat.le_refl _⟩
  | .node x l r => by
    have h1 := meetT_many a e l
    have h2 := meetT_many a e r
    have h3 : (Tr.node x l r).many = l.many + 1 + r.many := rfl
    by_cases c1 : x.o ≤ a
    · rw [meetT_far c1]; exact ⟨Nat.zero_le _, Nat.le_refl _⟩
    · by_cases c2 : e ≤ x.r.f
      · rw [meetT_ahead c1 c2, h3]
        dsimp only
        omega
      · rw [meetT_in c1 c2, h3]
        dsimp only
        rw [List.length_append, List.length_append]
        have h4 : (if a < x.r.e then [x.r] else []).length ≤ 1 := by split <;> simp
        omega
def meetsB (a e : Int) (x : RowV) : Bool := decide (x.f < e) && decide (a < x.e)
theorem meetT_filter (a e : Int) : ∀ T : Tr, GoodT T → T.rows.Pairwise (fun x y => x.f ≤ y.f) → (meetT a e T).1 = T.rows.filter (meetsB a e)
  | .nil, _, _ => rfl
  | .node x l r, hg, hs => by
    have hs' : (l.rows ++ x.r :: r.rows).Pairwise (fun x y => x.f ≤ y.f) := hs
    obtain ⟨sl, sr, -⟩ := List.pairwise_append.1 hs'
    obtain ⟨sx, sr⟩ := List.pairwise_cons.1 sr
    have hl := meetT_filter a e l hg.2.2.1 sl
    have hr := meetT_filter a e r hg.2.2.2 sr
    have e0 : (Tr.node x l r).rows = l.rows ++ x.r :: r.rows := rfl
    rw [e0, List.filter_append, List.filter_cons]
    by_cases c1 : x.o ≤ a
    · rw [meetT_far c1]
      have hno : ∀ y ∈ l.rows ++ x.r :: r.rows, meetsB a e y = false := fun y hy => by
        have := hg.2.1 y hy
        unfold meetsB
        rw [show decide (a < y.e) = false from decide_eq_false (by omega), Bool.and_false]
      rw [List.filter_eq_nil_iff.2 fun y hy => by rw [hno y (List.mem_append_left _ hy)]; simp]
      rw [hno x.r (List.mem_append_right _ (List.mem_cons_self ..))]
      rw [List.filter_eq_nil_iff.2 fun y hy => by rw [hno y (List.mem_append_right _ (List.mem_cons_of_mem _ hy))]; simp]
      rfl
    · by_cases c2 : e ≤ x.r.f
      · rw [meetT_ahead c1 c2]
        have hx : meetsB a e x.r = false := by
          unfold meetsB
          rw [show decide (x.r.f < e) = false from decide_eq_false (by omega), Bool.false_and]
        have hno : r.rows.filter (meetsB a e) = [] := List.filter_eq_nil_iff.2 fun y hy => by
          have := sx y hy
          unfold meetsB
          rw [show decide (y.f < e) = false from decide_eq_false (by omega), Bool.false_and]; simp
        rw [hx, hno]
        show (meetT a e l).1 = _
        rw [hl]
        simp
      · rw [meetT_in c1 c2]
        show (meetT a e l).1 ++ (if a < x.r.e then [x.r] else []) ++ (meetT a e r).1 = _
        rw [hl, hr, List.append_assoc]
        congr 1
        unfold meetsB
        rw [show decide (x.r.f < e) = true from decide_eq_true (by omega), Bool.true_and]
        by_cases c3 : a < x.r.e
        · rw [if_pos c3, decide_eq_true c3]; rfl
        · rw [if_neg c3, decide_eq_false c3]; rfl
theorem orderedF_from {l : List RowV} (h : OrderedF l) : l.Pairwise fun x y => x.f ≤ y.f := h.imp fun {x y} hxy => by
  rcases lessFK_no.1 hxy with a | ⟨a, _⟩ <;> omega
theorem treeL_meet {t : List RowV} (h : relOk t = true) (a e : Int) : (meetT a e (treeL t)).1 = (sortF t).filter (meetsB a e) := by
  have e0 := treeL_rows h
  rw [meetT_filter a e _ (treeL_good t) (by rw [e0]; exact orderedF_from (sortF_ordered t)), e0]
end Go.Proofs.Ytphinkcfmdnpfaa
namespace Go.Proofs.Ytphinkcfmdnpfaa
open Go.RowKit

theorem perm_list : ∀ T : Tr, (rowsN T.list).Perm T.rows
  | .nil => List.Perm.refl _
  | .node x l r => by
    show ((x :: (l.list ++ r.list)).map (·.r)).Perm (l.rows ++ x.r :: r.rows)
    rw [List.map_cons, List.map_append]
    refine (List.Perm.cons x.r ((perm_list l).append (perm_list r))).trans ?_
    exact List.perm_middle.symm
theorem index_perm {t : List RowV} (h : relOk t = true) : (rowsN (indexL t)).Perm t := by
  rw [← tree_index]
  refine (perm_list _).trans ?_
  rw [treeL_rows h]
  exact sortF_perm t
theorem rel_orderedU {t : List RowV} (h : relOk t = true) : Ordered t := by
  have := rel_apart h
  exact apart_ordered this.2 fun x hx => (rowOk_iff.1 (this.1 x hx)).2.2.2.1
/-- A table's tree is one, and its rows are the table. -/
theorem index_ok {t : List RowV} (h : relOk t = true) : idxB (indexL t) = true ∧ relOfL (rowsN (indexL t)) = t := by
  have := idx_table (x := indexL t) (rel_orderedU h) (index_perm h).symm
  exact ⟨this.1.1 ⟨h, rfl⟩, this.2 h⟩
theorem relOf_isOk (zs : List RowV) : relOk (relOfL zs) = true := by
  by_cases he : relOfL zs = []
  · rw [he]; rfl
  · exact relOf_table he
/-- What is known of a list that is a table's tree. -/
theorem idx_known {x : List NodV} (h : idxB x = true) : ∃ t, relOk t = true ∧ x = indexL t ∧ relOfL (rowsN x) = t := by
  obtain ⟨_, h2⟩ := idxB_iff.1 h
  exact ⟨_, relOf_isOk _, h2.symm, rfl⟩

/-- The last of all points of rows. -/
def lastR (e : Int) (zs : List RowV) : Int := zs.foldl (fun m y => if y.e > m then y.e else m) e
theorem lastR_step (zs : List RowV) (k : Nat) (x : RowV) (e : Int) (hx : zs[k]? = some x) : lastR e (zs.take (k + 1)) = if x.e > lastR e (zs.take k) then x.e else lastR e (zs.take k) := by
  obtain ⟨hk, rfl⟩ := List.getElem?_eq_some_iff.1 hx
  unfold lastR
  rw [List.take_succ_eq_append_getElem hk, List.foldl_append]
  rfl
theorem lastR_facts : ∀ (zs : List RowV) (e : Int), e ≤ lastR e zs ∧ (∀ y ∈ zs, y.e ≤ lastR e zs) ∧ (lastR e zs = e ∨ ∃ y ∈ zs, lastR e zs = y.e)
  | [], e => ⟨Int.le_refl _, fun y hy => (by cases hy), .inl rfl⟩
  | z :: zs, e => by
    have h := lastR_facts zs (if z.e > e then z.e else e)
    have e0 : lastR e (z :: zs) = lastR (if z.e > e then z.e else e) zs := rfl
    rw [e0]
    obtain ⟨h1, h2, h3⟩ := h
    by_cases hc : z.e > e
    · rw [if_pos hc] at h1 h2 h3 ⊢
      refine ⟨by omega, fun y hy => ?_, ?_⟩
      · rcases List.mem_cons.1 hy with hy | hy
        · rw [hy]; exact h1
        · exact h2 y hy
      · rcases h3 with h3 | ⟨y, hy, h3⟩
        · exact .inr ⟨z, List.mem_cons_self .., h3⟩
        · exact .inr ⟨y, List.mem_cons_of_mem _ hy, h3⟩
    · rw [if_neg hc] at h1 h2 h3 ⊢
      refine ⟨h1, fun y hy => ?_, ?_⟩
      · rcases List.mem_cons.1 hy with hy | hy
        · rw [hy]; omega
        · exact h2 y hy
      · rcases h3 with h3 | ⟨y, hy, h3⟩
        · exact .inl h3
        · exact .inr ⟨y, List.mem_cons_of_mem _ hy, h3⟩
theorem growT_last : ∀ (n : Nat) (zs : List RowV), (∀ y ∈ zs, 0 ≤ y.e) → ((growT n zs).last = 0 ∨ ∃ y ∈ zs, (growT n zs).last = y.e)
  | 0, _, _ => .inl rfl
  | n + 1, zs, h => by
    cases hx : zs[zs.length / 2]? with
    | none =>
      have e1 : growT (n + 1) zs = .nil := by simp [growT, hx]
      rw [e1]; exact .inl rfl
    | some x =>
      rw [growT_some hx]
      have a := growT_last n (zs.take (zs.length / 2)) fun y hy => h y (List.mem_of_mem_take hy)
      have b := growT_last n (zs.drop (zs.length / 2 + 1)) fun y hy => h y (List.mem_of_mem_drop hy)
      generalize growT n (zs.take (zs.length / 2)) = L at a ⊢
      generalize growT n (zs.drop (zs.length / 2 + 1)) = R at b ⊢
      have hm := List.mem_of_getElem? hx
      have h0 := h x hm
      show max (max x.e L.last) R.last = 0 ∨ ∃ y ∈ zs, max (max x.e L.last) R.last = y.e
      by_cases c1 : R.last ≤ max x.e L.last
      · by_cases c2 : L.last ≤ x.e
        · exact .inr ⟨x, hm, by omega⟩
        · rcases a with a | ⟨y, hy, a⟩
          · omega
          · exact .inr ⟨y, List.mem_of_mem_take hy, by omega⟩
      · rcases b with b | ⟨y, hy, b⟩
        · omega
        · exact .inr ⟨y, List.mem_of_mem_drop hy, by omega⟩
theorem tree_last {t : List RowV} (h : relOk t = true) : (treeL t).last = lastR 0 (rowsN (indexL t)) := by
  have hp := index_perm h
  have hv : ∀ y ∈ t, 0 ≤ y.e := fun y hy => by
    obtain ⟨h1, h2, h3⟩ := (tight_rel h).1 y hy
    omega
  obtain ⟨a1, a2, a3⟩ := lastR_facts (rowsN (indexL t)) 0
  have hg := treeL_good t
  have hu : ∀ y ∈ t, y.e ≤ (treeL t).last := fun y hy => last_rows hg y (by rw [treeL_rows h]; exact (sortF_perm t).symm.subset hy)
  have hl : (treeL t).last = 0 ∨ ∃ y ∈ t, (treeL t).last = y.e := by
    have e0 : treeL t = growT 24 (sortF t) := by unfold treeL; rw [if_pos h]
    rw [e0]
    rcases growT_last 24 (sortF t) (fun y hy => hv y ((sortF_perm t).subset hy)) with c | ⟨y, hy, c⟩
    · exact .inl c
    · exact .inr ⟨y, (sortF_perm t).subset hy, c⟩
  have x1 : lastR 0 (rowsN (indexL t)) ≤ (treeL t).last := by
    rcases a3 with a3 | ⟨y, hy, a3⟩
    · rw [a3]
      rcases hl with hl | ⟨y, hy, hl⟩
      · omega
      · rw [hl]; exact hv y hy
    · rw [a3]; exact hu y (hp.subset hy)
  have x2 : (treeL t).last ≤ lastR 0 (rowsN (indexL t)) := by
    rcases hl with hl | ⟨y, hy, hl⟩
    · rw [hl]; exact a1
    · rw [hl]; exact a2 y (hp.symm.subset hy)
  omega
/-- The first of a table's tree. -/
theorem index_first {t : List RowV} (h : relOk t = true) {x : NodV} {l : List NodV} (hx : indexL t = x :: l) : x.o = lastR 0 (rowsN (indexL t)) ∧ x.i = ((indexL t).length / 2 : Nat) := by
  have e1 := tree_last h
  have e2 := tree_index t
  have e0 : treeL t = growT 24 (sortF t) := by unfold treeL; rw [if_pos h]
  have hlen : (indexL t).length = (sortF t).length := by rw [← rowsN_len, (index_perm h).length_eq, sortF_len]
  have hz : 0 < (sortF t).length := by rw [← hlen, hx]; simp
  have hlt : (sortF t).length / 2 < (sortF t).length := by omega
  have hs := growT_some (n := 23) (List.getElem?_eq_getElem hlt)
  rw [← e0] at hs
  have hm := growT_many 23 ((sortF t).take ((sortF t).length / 2)) (by
    rw [List.length_take, sortF_len]
    have := ((relOk_iff t).1 h).1
    rw [sortF_len] at hlt
    omega)
  rw [hs] at e1 e2
  have e3 : overN (sortF t)[(sortF t).length / 2] (growT 23 ((sortF t).take ((sortF t).length / 2))) (growT 23 ((sortF t).drop ((sortF t).length / 2 + 1))) :: ((growT 23 ((sortF t).take ((sortF t).length / 2))).list ++ (growT 23 ((sortF t).drop ((sortF t).length / 2 + 1))).list) = x :: l := e2.trans hx
  injection e3 with e3 _
  rw [← e3]
  refine ⟨e1, ?_⟩
  show ((growT 23 _).many : Int) = _
  rw [hm, hlen, List.length_take, Nat.min_eq_left (by omega)]

/-- Of two rows that stand so in a tree's order the first is ahead. -/
theorem strictF {l : List RowV} (ho : OrderedF l) (hn : NoTie l) (hd : l.Nodup) : l.Pairwise fun x y => lessFK x y = true := by
  refine List.Pairwise.imp_of_mem ?_ (List.Pairwise.and ho hd)
  intro x y hx hy ⟨h1, h2⟩
  cases hc : lessFK x y with
  | true => rfl
  | false => exact absurd (hn x hx y hy hc h1) h2
theorem nodup_rel {t : List RowV} (h : relOk t = true) : t.Nodup := by
  have ha := rel_apart h
  refine List.Pairwise.imp_of_mem ?_ ha.2
  intro x y hx hy hxy e
  subst e
  have hv := (rowOk_iff.1 (ha.1 x hx)).2.2.2.1
  rcases hxy with hc | ⟨_, hc⟩
  · rw [kl_irrefl] at hc; cases hc
  · omega
theorem sortF_strict {t : List RowV} (h : relOk t = true) : (sortF t).Pairwise fun x y => lessFK x y = true :=
  strictF (sortF_ordered t) (fun x hx y hy => tie_ok h x ((sortF_perm t).subset hx) y ((sortF_perm t).subset hy)) ((sortF_perm t).nodup_iff.2 (nodup_rel h))
/-- What meets a span of a tree that is a table's. -/
def metL (x : List NodV) (a e : Int) : List RowV := (meetT a e (treeL (relOfL (rowsN x)))).1
def looksL (x : List NodV) (a e : Int) : Nat := (meetT a e (treeL (relOfL (rowsN x)))).2
theorem met_facts {x : List NodV} (h : idxB x = true) (a e : Int) : metL x a e = (sortF (relOfL (rowsN x))).filter (meetsB a e) ∧ (metL x a e).length = (rowsN x).countP (meetsB a e) ∧ (metL x a e).length ≤ looksL x a e ∧ looksL x a e ≤ x.length ∧ (metL x a e).Pairwise (fun x y => lessFK x y = true) ∧ ∀ r ∈ metL x a e, meetsB a e r = true ∧ r ∈ relOfL (rowsN x) := by
  obtain ⟨t, ht, hx, e0⟩ := idx_known h
  have hm := treeL_meet ht a e
  have e1 : metL x a e = (sortF t).filter (meetsB a e) := by unfold metL; rw [e0, hm]
  have hc : (rowsN x).Perm (sortF t) := by
    rw [hx]; exact (index_perm ht).trans (sortF_perm t).symm
  have hmm := meetT_many a e (treeL t)
  refine ⟨by rw [e1, e0], ?_, ?_, ?_, ?_, fun r hr => ?_⟩
  · rw [e1, ← List.countP_eq_length_filter, hc.countP_eq]
  · unfold metL looksL; rw [e0]; exact hmm.2
  · unfold looksL; rw [e0]
    have : x.length = (treeL t).many := by rw [hx, ← tree_index, Tr.list_len]
    rw [this]; exact hmm.1
  · rw [e1]; exact (sortF_strict ht).filter _
  · rw [e1, List.mem_filter] at hr
    exact ⟨hr.2, by rw [e0]; exact (sortF_perm t).subset hr.1⟩
theorem metL_len {x : List NodV} (h : idxB x = true) (a e : Int) : (metL x a e).length ≤ 24 := by
  have h1 := met_facts h a e
  have h2 := idxB_len h
  omega
/-- The rows that hold at a point are a table that has there what the whole one has. -/
theorem stab_rel {x : List NodV} (h : idxB x = true) (c : Int) : relOfL (metL x c (c + 1)) = (relOfL (rowsN x)).filter (meetsB c (c + 1)) := by
  obtain ⟨t, ht, hx, e0⟩ := idx_known h
  rw [(met_facts h c (c + 1)).1, e0]
  have hs : relOk (t.filter (meetsB c (c + 1))) = true := rel_subU ht List.filter_sublist
  have ha := rel_apart hs
  have hp : (t.filter (meetsB c (c + 1))).Perm ((sortF t).filter (meetsB c (c + 1))) := (sortF_perm t).symm.filter _
  rw [← table_of ((sortF t).filter (meetsB c (c + 1))) (t.filter (meetsB c (c + 1))) (fun y hy => ha.1 y (hp.symm.subset hy)) (rel_orderedU hs) hp]
  unfold tableL
  rw [joinRows_rel _ ((relOk_iff _).1 hs).2, if_pos hs]
end Go.Proofs.Ytphinkcfmdnpfaa
