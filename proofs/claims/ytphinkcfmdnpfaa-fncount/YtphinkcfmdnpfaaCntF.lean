/-
  Plain: what the steps of a count are at each point, and how they follow one another.
-/
import Derived.Test.YtphinkcfmdnpfaaStepD
import Derived.Test.YtphinkcfmdnpfaaCombJ
import Derived.Test.YtphinkcfmdnpfaaCntW
import Derived.Test.YtphinkcfmdnpfaaRelAtS
import Derived.IntWalk
import Derived.BigQuiet
namespace Go.Proofs.Ytphinkcfmdnpfaa
open Go.RowKit

def isEdge (t : List RowV) (c : Int) : Bool := t.any fun x => decide (x.f = c) || decide (x.e = c)
def edgeTo (t : List RowV) (k : Nat) : List Int := ((List.range k).map fun j : Nat => (j : Int)).filter (isEdge t)
theorem edgeTo_succ (t : List RowV) (k : Nat) : edgeTo t (k + 1) = edgeTo t k ++ (if isEdge t k = true then [(k : Int)] else []) := by
  unfold edgeTo
  rw [List.range_succ, List.map_append, List.filter_append]
  by_cases h : isEdge t (k : Int) = true
  · rw [if_pos h]; simp [h]
  · rw [if_neg h]; simp [h]
theorem edgeTo_len (t : List RowV) (k : Nat) : (edgeTo t k).length ≤ k := by
  unfold edgeTo
  have := List.length_filter_le (isEdge t) ((List.range k).map fun j : Nat => (j : Int))
  simpa using this
theorem isEdge_iff {t : List RowV} {c : Int} : isEdge t c = true ↔ ∃ x ∈ t, c = x.f ∨ c = x.e := by
  unfold isEdge
  rw [List.any_eq_true]
  constructor
  · rintro ⟨x, hx, h⟩
    rw [Bool.or_eq_true, decide_eq_true_eq, decide_eq_true_eq] at h
    exact ⟨x, hx, h.imp Eq.symm Eq.symm⟩
  · rintro ⟨x, hx, h⟩
    exact ⟨x, hx, by rw [Bool.or_eq_true, decide_eq_true_eq, decide_eq_true_eq]; exact h.imp Eq.symm Eq.symm⟩
theorem ints_same : ∀ (a b : List Int), a.Pairwise (· < ·) → b.Pairwise (· < ·) → (∀ x, x ∈ a ↔ x ∈ b) → a = b
  | [], [], _, _, _ => rfl
  | [], y :: b, _, _, h => by have := (h y).2 (List.mem_cons_self ..); cases this
  | x :: a, [], _, _, h => by have := (h x).1 (List.mem_cons_self ..); cases this
  | x :: a, y :: b, ha, hb, h => by
    obtain ⟨a1, a2⟩ := List.pairwise_cons.1 ha
    obtain ⟨b1, b2⟩ := List.pairwise_cons.1 hb
    have e : x = y := by
      rcases List.mem_cons.1 ((h x).1 (List.mem_cons_self ..)) with e | h1
      · exact e
      · rcases List.mem_cons.1 ((h y).2 (List.mem_cons_self ..)) with e | h2
        · exact e.symm
        · have := a1 y h2; have := b1 x h1; omega
    subst e
    rw [ints_same a b a2 b2 fun r => ?_]
    constructor
    · intro hr
      rcases List.mem_cons.1 ((h r).1 (List.mem_cons_of_mem _ hr)) with e | h1
      · subst e; have := a1 r hr; omega
      · exact h1
    · intro hr
      rcases List.mem_cons.1 ((h r).2 (List.mem_cons_of_mem _ hr)) with e | h1
      · subst e; have := b1 r hr; omega
      · exact h1
/-- All bounds of a table lie in 0 to 100. -/
theorem edges_eq {t : List RowV} (h : ∀ x ∈ t, spanOk x) : edgeTo t 101 = edgesOf t := by
  refine ints_same _ _ ?_ (edges_pair t) fun c => ?_
  · unfold edgeTo
    refine List.Pairwise.sublist List.filter_sublist ?_
    rw [List.pairwise_map]
    exact List.pairwise_lt_range.imp fun {i j} h => by omega
  · rw [mem_edges]
    unfold edgeTo
    rw [List.mem_filter, isEdge_iff]
    constructor
    · exact fun h => h.2
    · rintro ⟨x, hx, hc⟩
      refine ⟨?_, x, hx, hc⟩
      obtain ⟨h1, h2, h3⟩ := h x hx
      have hc0 : 0 ≤ c ∧ c ≤ 100 := by rcases hc with rfl | rfl <;> omega
      rw [List.mem_map]
      exact ⟨c.toNat, List.mem_range.2 (by omega), by omega⟩
theorem any_take {t : List RowV} {k : Nat} {x : RowV} {c : Int} (hx : t[k]? = some x) : isEdge (t.take (k + 1)) c = (isEdge (t.take k) c || (decide (x.f = c) || decide (x.e = c))) := by
  obtain ⟨hk, rfl⟩ := List.getElem?_eq_some_iff.1 hx
  unfold isEdge
  rw [List.take_succ_eq_append_getElem hk, List.any_append]
  simp

/-- What the steps of the first periods are, put together. -/
def cntTo (t : List RowV) (es : List Int) (k : Nat) : List StepV := joinSts (countRaw t ((stepsGo es).take k))
theorem cntTo_zero (t : List RowV) (es : List Int) : cntTo t es 0 = [] := by simp [cntTo, countRaw, joinSts]
theorem cntTo_succ {t : List RowV} {es : List Int} {k : Nat} (h : k + 1 < es.length) : cntTo t es (k + 1) = (if (atR t (es.getD k 0)).length = 0 then cntTo t es k else stepSt (cntTo t es k) ⟨(atR t (es.getD k 0)).length, es.getD k 0, es.getD (k + 1) 0⟩) := by
  unfold cntTo
  have h1 := steps_get es k h
  obtain ⟨hl, e⟩ := List.getElem?_eq_some_iff.1 h1
  rw [List.take_succ_eq_append_getElem hl, e]
  have d0 : es.getD k 0 = es[k] := by simp [List.getD, show k < es.length by omega]
  have d1 : es.getD (k + 1) 0 = es[k + 1] := by simp [List.getD, h]
  rw [d0, d1]
  unfold countRaw
  rw [List.flatMap_append, List.flatMap_singleton]
  unfold joinSts
  rw [List.foldl_append]
  unfold countOne
  by_cases h0 : (atR t es[k]).length = 0
  · rw [if_pos h0, if_pos h0]; rfl
  · rw [if_neg h0, if_neg h0]; rfl
theorem cntTo_all {t : List RowV} {es : List Int} {k : Nat} (h : es.length ≤ k + 1) : cntTo t es k = joinSts (countRaw t (stepsGo es)) := by
  unfold cntTo
  rw [List.take_of_length_le (by rw [steps_len]; omega)]
theorem cntTo_len (t : List RowV) (es : List Int) (k : Nat) : (cntTo t es k).length ≤ k := by
  unfold cntTo
  have h1 := joinSts_len (countRaw t ((stepsGo es).take k))
  have h2 := countRaw_len t ((stepsGo es).take k)
  rw [List.length_take] at h2
  omega
end Go.Proofs.Ytphinkcfmdnpfaa
namespace Go.Proofs.Ytphinkcfmdnpfaa
open Go.RowKit

def manyAt (zs : List StepV) (c : Int) : Int := zs.foldl (fun m z => if hasB z.f z.e c = true then z.m else m) 0
theorem many_snoc (zs : List StepV) (x : StepV) (c : Int) : manyAt (zs ++ [x]) c = if hasB x.f x.e c = true then x.m else manyAt zs c := by
  unfold manyAt
  rw [List.foldl_append]
  rfl
theorem manyAt_nil (c : Int) : manyAt [] c = 0 := rfl
theorem many_take {zs : List StepV} {k : Nat} {x : StepV} {c : Int} (hx : zs[k]? = some x) : manyAt (zs.take (k + 1)) c = if hasB x.f x.e c = true then x.m else manyAt (zs.take k) c := by
  obtain ⟨hk, rfl⟩ := List.getElem?_eq_some_iff.1 hx
  rw [List.take_succ_eq_append_getElem hk, many_snoc]
theorem many_of {c m : Int} : ∀ (zs : List StepV) (a : Int), (∀ z ∈ zs, hasB z.f z.e c = true → z.m = m) → ((∃ z ∈ zs, hasB z.f z.e c = true) ∨ a = m) → zs.foldl (fun m z => if hasB z.f z.e c = true then z.m else m) a = m
  | [], a, _, h => by
    rcases h with ⟨z, hz, _⟩ | h
    · cases hz
    · exact h
  | z :: zs, a, h1, h => by
    rw [List.foldl_cons]
    refine many_of zs _ (fun y hy => h1 y (List.mem_cons_of_mem _ hy)) ?_
    by_cases hz : hasB z.f z.e c = true
    · right
      rw [if_pos hz]
      exact h1 z (List.mem_cons_self ..) hz
    · rw [if_neg hz]
      rcases h with ⟨y, hy, hc⟩ | h
      · rcases List.mem_cons.1 hy with e | hy
        · subst e; exact absurd hc hz
        · exact .inl ⟨y, hy, hc⟩
      · exact .inr h

/-- Neighbours are in order, and never one step. -/
def linked (l : List StepV) : Prop := ∀ i y z, l[i]? = some y → l[i + 1]? = some z → y.e ≤ z.f ∧ touchSt y z = false
theorem linked_one (x : StepV) : linked [x] := fun i y z _ hz => by simp at hz
theorem linked_snoc {o : List StepV} {x : StepV} (h : linked o) (hl : ∀ y, o.getLast? = some y → y.e ≤ x.f ∧ touchSt y x = false) : linked (o ++ [x]) := fun i y z hy hz => by
  have hlt : i + 1 < (o ++ [x]).length := (List.getElem?_eq_some_iff.1 hz).1
  rw [List.length_append, List.length_singleton] at hlt
  by_cases hi : i + 1 < o.length
  · rw [List.getElem?_append_left (by omega)] at hy
    rw [List.getElem?_append_left hi] at hz
    exact h i y z hy hz
  · have e : i + 1 = o.length := by omega
    rw [List.getElem?_append_left (by omega)] at hy
    rw [e, List.getElem?_append_right (Nat.le_refl _), Nat.sub_self] at hz
    have hz : x = z := by simpa using hz
    subst hz
    exact hl y (by rw [List.getLast?_eq_getElem?, show o.length - 1 = i by omega]; exact hy)
theorem linked_init {o : List StepV} {x : StepV} (h : linked (o ++ [x])) : linked o ∧ ∀ y, o.getLast? = some y → y.e ≤ x.f ∧ touchSt y x = false := by
  constructor
  · intro i y z hy hz
    have h1 : i + 1 < o.length := (List.getElem?_eq_some_iff.1 hz).1
    exact h i y z (by rw [List.getElem?_append_left (by omega)]; exact hy) (by rw [List.getElem?_append_left h1]; exact hz)
  · intro y hy
    rw [List.getLast?_eq_getElem?] at hy
    have h1 : o.length - 1 < o.length := (List.getElem?_eq_some_iff.1 hy).1
    exact h (o.length - 1) y x (by rw [List.getElem?_append_left h1]; exact hy) (by rw [List.getElem?_append_right (by omega), show o.length - 1 + 1 - o.length = 0 by omega]; rfl)

/-- Steps joined where they touch: the same at every point. -/
structure Fine (out raw : List StepV) : Prop where
  val : ∀ c, manyAt out c = manyAt raw c
  pos : ∀ x ∈ out, x.f < x.e
  ends : ∀ y, out.getLast? = some y → ∃ z ∈ raw, z.e = y.e
  link : linked out
theorem has_or {f m e c : Int} (h1 : f ≤ m) (h2 : m ≤ e) : hasB f e c = true ↔ hasB f m c = true ∨ hasB m e c = true := by
  rw [hasB_iff, hasB_iff, hasB_iff]
  omega
theorem fine_step {out raw : List StepV} {x : StepV} (h : Fine out raw) (hx : x.f < x.e) (hr : ∀ z ∈ raw, z.e ≤ x.f) : Fine (stepSt out x) (raw ++ [x]) := by
  rcases List.eq_nil_or_concat out with e | ⟨o, y, e⟩
  · subst e
    refine ⟨fun c => ?_, ?_, ?_, linked_one x⟩
    · show manyAt ([] ++ [x]) c = _
      rw [many_snoc, many_snoc, h.val c]
    · intro z hz
      rcases List.mem_cons.1 hz with e | hz
      · subst e; exact hx
      · cases hz
    · intro z hz
      have e : x = z := by simpa [stepSt] using hz
      exact ⟨x, List.mem_append_right _ (List.mem_cons_self ..), by rw [e]⟩
  · rw [List.concat_eq_append] at e
    subst e
    obtain ⟨l1, l2⟩ := linked_init h.link
    have hy := h.pos y (List.mem_append_right _ (List.mem_cons_self ..))
    obtain ⟨z, hz, hze⟩ := h.ends y (by simp)
    have hyx : y.e ≤ x.f := by rw [← hze]; exact hr z hz
    rw [stepSt_at]
    cases ht : touchSt y x
    · rw [if_neg (by simp)]
      refine ⟨fun c => ?_, ?_, ?_, ?_⟩
      · rw [many_snoc (o ++ [y]), many_snoc raw, h.val c]
      · intro u hu
        rcases List.mem_append.1 hu with hu | hu
        · exact h.pos u hu
        · rcases List.mem_cons.1 hu with e | hu
          · subst e; exact hx
          · cases hu
      · intro u hu
        have e : x = u := by simpa using hu
        exact ⟨x, List.mem_append_right _ (List.mem_cons_self ..), by rw [e]⟩
      · refine linked_snoc h.link fun u hu => ?_
        have e : y = u := by simpa using hu
        subst e
        exact ⟨hyx, ht⟩
    · rw [if_pos rfl]
      unfold touchSt at ht
      rw [Bool.and_eq_true, decide_eq_true_eq, decide_eq_true_eq] at ht
      obtain ⟨hm, he⟩ := ht
      refine ⟨fun c => ?_, ?_, ?_, ?_⟩
      · rw [many_snoc, many_snoc, ← h.val c, many_snoc]
        have ho := has_or (c := c) (show y.f ≤ x.f by omega) (Int.le_of_lt hx)
        have hj : hasB (joinSt y x).f (joinSt y x).e c = hasB y.f x.e c := rfl
        have hjm : (joinSt y x).m = y.m := rfl
        rw [hj, hjm, he]
        by_cases h1 : hasB x.f x.e c = true
        · rw [if_pos h1, if_pos (ho.2 (.inr h1)), hm]
        · rw [if_neg h1]
          by_cases h2 : hasB y.f x.f c = true
          · rw [if_pos h2, if_pos (ho.2 (.inl h2))]
          · rw [if_neg h2, if_neg fun h3 => (ho.1 h3).elim h2 h1]
      · intro u hu
        rcases List.mem_append.1 hu with hu | hu
        · exact h.pos u (List.mem_append_left _ hu)
        · rcases List.mem_cons.1 hu with e | hu
          · subst e
            show y.f < x.e
            omega
          · cases hu
      · intro u hu
        have e : joinSt y x = u := by simpa using hu
        exact ⟨x, List.mem_append_right _ (List.mem_cons_self ..), by rw [← e]; rfl⟩
      · refine linked_snoc l1 fun u hu => ?_
        obtain ⟨g1, g2⟩ := l2 u hu
        exact ⟨g1, g2⟩
theorem fine_all : ∀ (xs out raw : List StepV), Fine out raw → (∀ x ∈ xs, x.f < x.e) → ((raw ++ xs).Pairwise fun z x => z.e ≤ x.f) → Fine (xs.foldl stepSt out) (raw ++ xs)
  | [], out, raw, h, _, _ => by rw [List.append_nil]; exact h
  | x :: xs, out, raw, h, hp, hw => by
    rw [show raw ++ x :: xs = (raw ++ [x]) ++ xs by simp] at hw ⊢
    rw [List.foldl_cons]
    refine fine_all xs _ _ (fine_step h (hp x (List.mem_cons_self ..)) fun z hz => ?_) (fun y hy => hp y (List.mem_cons_of_mem _ hy)) hw
    have h1 := (List.pairwise_append.1 hw).1
    exact (List.pairwise_append.1 h1).2.2 z hz x (List.mem_cons_self ..)

theorem raw_mem {t : List RowV} {ss : List (Int × Int)} {z : StepV} (h : z ∈ countRaw t ss) : ∃ s ∈ ss, (atR t s.1).length ≠ 0 ∧ z = ⟨(atR t s.1).length, s.1, s.2⟩ := by
  unfold countRaw at h
  obtain ⟨s, hs, hz⟩ := List.mem_flatMap.1 h
  unfold countOne at hz
  by_cases h0 : (atR t s.1).length = 0
  · rw [if_pos h0] at hz; cases hz
  · rw [if_neg h0, List.mem_singleton] at hz
    exact ⟨s, hs, h0, hz⟩
theorem raw_mk {t : List RowV} {ss : List (Int × Int)} {s : Int × Int} (hs : s ∈ ss) (h0 : (atR t s.1).length ≠ 0) : (⟨(atR t s.1).length, s.1, s.2⟩ : StepV) ∈ countRaw t ss := by
  unfold countRaw
  refine List.mem_flatMap.2 ⟨s, hs, ?_⟩
  unfold countOne
  rw [if_neg h0]
  exact List.mem_cons_self ..
theorem raw_link (t : List RowV) : (countRaw t (stepsOf t)).Pairwise fun z x => z.e ≤ x.f := by
  unfold countRaw
  rw [List.pairwise_flatMap]
  constructor
  · intro s _
    unfold countOne
    split <;> simp
  · refine List.Pairwise.imp ?_ (steps_pair (edges_pair t))
    intro s s' h x hx y hy
    unfold countOne at hx hy
    by_cases e : (atR t s.1).length = 0
    · rw [if_pos e] at hx; cases hx
    · rw [if_neg e, List.mem_singleton] at hx
      by_cases e' : (atR t s'.1).length = 0
      · rw [if_pos e'] at hy; cases hy
      · rw [if_neg e', List.mem_singleton] at hy
        subst hx hy
        exact h
theorem count_facts {t : List RowV} (ht : relOk t = true) : linked (relCountL t) ∧ ∀ c, manyAt (relCountL t) c = (relAtL t c).length := by
  have e : relCountL t = joinSts (countRaw t (stepsOf t)) := if_pos ht
  have hf : Fine (joinSts (countRaw t (stepsOf t))) ([] ++ countRaw t (stepsOf t)) :=
    fine_all _ [] [] ⟨fun _ => rfl, (fun x hx => by cases hx), (fun y hy => by simp at hy), (fun i y z hy => by simp at hy)⟩ (fun x hx => by
      obtain ⟨s, hs, _, rfl⟩ := raw_mem hx
      exact (step_bounds hs).1) (raw_link t)
  rw [List.nil_append] at hf
  rw [e]
  refine ⟨hf.link, fun c => ?_⟩
  rw [hf.val c, relAt_R ht]
  refine many_of _ 0 (fun z hz hc => ?_) ?_
  · obtain ⟨s, hs, _, rfl⟩ := raw_mem hz
    obtain ⟨h1, h2⟩ := hasB_iff.1 hc
    rw [at_steady (step_bounds hs).2.2.2 h1 h2]
  · by_cases h0 : (atR t c).length = 0
    · right; omega
    · left
      have hx : ∃ x ∈ t, x.f ≤ c ∧ c < x.e := by
        refine Classical.byContradiction fun hn => h0 ?_
        rw [at_nil fun x hx hc => hn ⟨x, hx, hc⟩]
        rfl
      obtain ⟨x, hx, h1, h2⟩ := hx
      obtain ⟨s, hs, g1, g2⟩ := steps_cover (edges_pair t) (mem_edges.2 ⟨x, hx, .inl rfl⟩) (mem_edges.2 ⟨x, hx, .inr rfl⟩) h1 h2
      have hst := at_steady (step_bounds hs).2.2.2 g1 g2
      exact ⟨_, raw_mk hs (by rw [← hst]; exact h0), hasB_iff.2 ⟨g1, g2⟩⟩
end Go.Proofs.Ytphinkcfmdnpfaa
namespace Go.Proofs.Ytphinkcfmdnpfaa
open Go.Shelf Go.RowKit Go.Lib Go.Sort

theorem owns_types {w : World} {base base' n n' s s' : Nat} {t t' : TypeId} {v v' : Value} {xs xs' : List Value} (h : w.ownsRow base t s v n xs) (h' : w.ownsRow base' t' s' v' n' xs') (ht : t ≠ t') : v.ownBlock = none ∨ v.ownBlock ≠ v'.ownBlock := by
  rcases h.2 with ⟨e, _⟩ | ⟨g, c, cur, e, _, hg, _⟩
  · left; subst e; rfl
  · right
    rcases h'.2 with ⟨e', _⟩ | ⟨g', c', cur', e', _, hg', _⟩
    · subst e e'; simp [Value.ownBlock]
    · subst e e'
      intro h0
      simp [Value.ownBlock] at h0
      subst h0
      have := hg.symm.trans hg'
      simp at this
      exact absurd (by first | exact this.2 | exact this.2.1) ht
theorem owns_snocI {w : World} {base n g cap : Nat} {o : List Int} {c : Int} (h : w.ownsRow base 3 1 (.slice (some ⟨g, 0, none⟩) (n + 1) cap) (n + 1) (o.map (Value.int .i64) ++ [.int .i64 c])) (hn : n = o.length) : w.ownsRow base 3 1 (.slice (some ⟨g, 0, none⟩) (n + 1) cap) (o ++ [c]).length ((o ++ [c]).map (Value.int .i64)) := by
  subst hn
  rw [List.length_append, List.map_append]
  exact h
theorem owns_snocT {w : World} {base n : Nat} {v : Value} {o : List StepV} {x : StepV} (h : w.ownsRow base 31 3 v (n + 1) (flatOf stepC o ++ [.int .i64 x.m, .int .i64 x.f, .int .i64 x.e])) (hn : n = o.length) : w.ownsRow base 31 3 v (o ++ [x]).length (flatOf stepC (o ++ [x])) := by
  subst hn
  rw [List.length_append, flatOf_append, flatOf_one]
  exact h
theorem edge_zero (t : List RowV) : edgeTo t 0 = [] := by simp [edgeTo]

theorem news_int1 {w : World} {g : Nat} {a : Int} (h0 : w.cell? ⟨g, 0, none⟩ = some (.int .i64 a)) : ∀ j u, [Value.int .i64 a][j]? = some u → w.cell? ((⟨g, 0, none⟩ : Addr).add j) = some u := by
  intro j u hu
  match j with
  | 0 => simp at hu; subst hu; simpa [Addr.add] using h0
  | j + 1 => simp at hu

/-- Numbers in a slice of one's own. -/
def GetsN (w : World) (zs : List Int) (e : Ending) (w' : World) : Prop :=
  ∃ A cap, e = .returned (.slice A zs.length cap) ∧ w'.ownsRow w.heap.size 3 1 (.slice A zs.length cap) zs.length (zs.map (Value.int .i64)) ∧ Below w.heap.size w w'
theorem owns_formI {w : World} {base n : Nat} {v : Value} {xs : List Value} (h : w.ownsRow base 3 1 v n xs) : ∃ A cap, v = .slice A n cap := by
  rcases h.2 with ⟨h0, h1⟩ | ⟨g, c, cur, e1, _⟩
  · exact ⟨none, 0, by rw [h0, h1]⟩
  · exact ⟨_, _, e1⟩

set_option maxRecDepth 100000 in
set_option maxHeartbeats 4000000 in
theorem l4Edges_any (A : Option Addr) (ca : Nat) (t : List RowV) (w : World) (hx : RowsA w A t) (hla : t.length ≤ 1048577) :
    Calls Try.prog 65 #[.slice A t.length ca] w (GetsN w (edgeTo t 101)) := by
  obtain ⟨i0, hi, hz0, hz1, hz2⟩ := info_parts Try.infoN3
  have Hi := Lib.hid hi
  have Hz0 := Lib.hid hz0
  have Hz1 := Lib.hid hz1
  have Hz2 := Lib.hid hz2
  have HX := Lib.hid hx
  clear hi hz0 hz1 hz2 hx
  go_enter Try.func65, Try.ntmps65
  go_wp2
  go_loopw [3, 4] (fun v i wr => ∃ k : Nat, k ≤ 101 ∧ i = .int .i64 k ∧ wr.ownsRow w.heap.size 3 1 v (edgeTo t k).length ((edgeTo t k).map (Value.int .i64)) ∧ Below w.heap.size w wr) (fun _ i _ => 101 - (intOf i).toNat)
  case atStart =>
    refine ⟨0, Nat.zero_le _, rfl, ?_, (Below.refl _ _).alloc (Nat.le_refl _) _⟩
    have := World.ownsRow_lit (base := w.heap.size) (e := 3) (size := 1) w #[] 0 (by simp) (by simp [maxLen]) (by simp)
    simpa [edge_zero] using this
  case round =>
    obtain ⟨k, hk, rfl, hown, hbr⟩ := hrel
    have Hown := Lib.hid hown
    have hlo := edgeTo_len t k
    have HT := Lib.hid (edgeTo_succ t k)
    clear hown
    by_cases hlt : k < 101
    · obtain ⟨oo, hoo⟩ : ∃ oo, edgeTo t k = oo := ⟨_, rfl⟩
      rw [hoo] at Hown HT hlo
      have hk100 : (k : Int) ≤ 100 := by omega
      have hs5 := hbr.size
      have BR := Lib.hid hbr
      clear hoo hbr
      go_wp2
      go_loopw [5, 6] (fun b i w' => ∃ j : Nat, j ≤ t.length ∧ i = .int .i64 j ∧ b = .bool (isEdge (t.take j) k) ∧ w' = wr) (fun _ i _ => t.length - (intOf i).toNat)
      case atStart => exact ⟨0, Nat.zero_le _, rfl, by simp [isEdge], rfl⟩
      case round =>
        obtain ⟨j, hj, rfl, rfl, rfl⟩ := hrel
        by_cases hjl : j < t.length
        · obtain ⟨b, off, x, rfl, hb, hxj, c0, c1, c2, c3⟩ := (HX.out.below BR.out).at_ hjl
          have HE := Lib.hid (any_take (c := (k : Int)) hxj)
          have HFD := Lib.hid (show decide (x.f = (k : Int)) = (x.f == (k : Int)) from rfl)
          have HED := Lib.hid (show decide (x.e = (k : Int)) = (x.e == (k : Int)) from rfl)
          have hjz : (j : Int) < (t.length : Int) := by omega
          have hjz0 : (0 : Int) ≤ (j : Int) := by omega
          clear hxj c0 c1
          rw [HFD.out, HED.out] at HE
          obtain ⟨b0, hb0⟩ : ∃ b0, isEdge (t.take j) k = b0 := ⟨_, rfl⟩
          obtain ⟨b1, hb1⟩ : ∃ b1, (x.f == (k : Int)) = b1 := ⟨_, rfl⟩
          obtain ⟨b2, hb2⟩ : ∃ b2, (x.e == (k : Int)) = b2 := ⟨_, rfl⟩
          rw [hb0, hb1, hb2] at HE
          rw [hb0]
          clear hb0
          cases b0 <;> cases b1 <;> cases b2
          all_goals go_wp2
          all_goals go_roundw
          all_goals first
            | (case rel => exact ⟨j + 1, by omega, by go_num, (by first | (rw [HE.out]; done) | (rw [HE.out]; rfl) | (rw [HE.out]; simp)), (by first | trivial | rfl)⟩)
            | (case measure => simp [intOf]; omega)
        · obtain rfl : j = t.length := by omega
          rw [List.take_length]
          obtain ⟨eb, heb⟩ : ∃ eb, isEdge t k = eb := ⟨_, rfl⟩
          rw [heb] at HT ⊢
          clear heb
          cases eb
          · rw [if_neg (by simp), List.append_nil] at HT
            go_wp2
            go_roundw
            case rel => exact ⟨k + 1, by omega, by go_num, by rw [HT.out]; exact Hown.out, BR.out⟩
            case measure => simp [intOf]; omega
          · rw [if_pos rfl] at HT
            go_wp2_with (at_builtin; refine wpList_append_own _ rfl _ _ 93 rfl w.heap.size 3 i0 _ 1 8 Try.underlying93 Hi.out Hz0.out Hz1.out Hz2.out rfl (by decide) _ oo.length (oo.map (Value.int .i64)) rfl (Hown.out.alloc _) ⟨wr.heap.size, 0, none⟩ 1 1 [.int .i64 k] rfl rfl (news_int1 (by simp)) (by simp [Value.oneCell']) (by unfold maxLen; omega) (by omega) (by simp; omega) ?_; intro v' w3 hown' hgrow hnil; have O3 := Lib.hid hown'; have B3 := Lib.hid ((BR.out.alloc hs5 _).grown hgrow (by simp; omega) (fun i e => by have := (Hown.out.lt i e).1; omega)); clear hown' hgrow hnil)
            go_roundw
            case rel => exact ⟨k + 1, by omega, by go_num, by rw [HT.out, List.length_append, List.map_append]; exact O3.out, B3.out⟩
            case measure => simp [intOf]; omega
    · obtain rfl : k = 101 := by omega
      obtain ⟨A', c', hv⟩ := owns_formI Hown.out
      subst hv
      go_wp2
      go_ret
      exact ⟨A', c', rfl, Hown.out, hbr⟩

theorem flat_toT (o : List StepV) (y : StepV) (e : Int) : (flatOf stepC (o ++ [y])).set (o.length * 3 + 2) (.int .i64 e) = flatOf stepC (o ++ [⟨y.m, y.f, e⟩]) := by
  have hl : (flatOf stepC o).length = o.length * 3 := flatOf_length stepC_len o
  rw [flatOf_append, flatOf_append, flatOf_one, flatOf_one, ← hl, List.set_append_right _ _ (by omega)]
  simp [stepC]
theorem stepSt_nil (x : StepV) : stepSt [] x = [x] := rfl
theorem touch_noM {y x : StepV} (h : (y.m == x.m) = false) : touchSt y x = false := by
  have : decide (y.m = x.m) = false := by simpa using h
  rw [touchSt, this]; rfl
theorem touch_noE {y x : StepV} (h : (y.e == x.f) = false) : touchSt y x = false := by
  have : decide (y.e = x.f) = false := by simpa using h
  rw [touchSt, this, Bool.and_false]
theorem touch_yesT {y x : StepV} (h1 : (y.m == x.m) = true) (h2 : (y.e == x.f) = true) : touchSt y x = true := by
  have e1 : decide (y.m = x.m) = true := by simpa using h1
  have e2 : decide (y.e = x.f) = true := by simpa using h2
  rw [touchSt, e1, e2]; rfl

set_option maxRecDepth 100000 in
set_option maxHeartbeats 4000000 in
theorem sRelCount_any (A : Option Addr) (ca : Nat) (t : List RowV) (w : World) (hx : RowsA w A t) (hla : t.length ≤ 1048577) (hsa : Short t) :
    Calls Try.prog 16 #[.slice A t.length ca] w (GetsE stepC 3 31 w (relCountL t)) := by
  obtain ⟨i0, hi, hz0, hz1, hz2⟩ := info_parts Try.infoSt31
  have Hi := Lib.hid hi
  have Hz0 := Lib.hid hz0
  have Hz1 := Lib.hid hz1
  have Hz2 := Lib.hid hz2
  have HX := Lib.hid hx
  have HSA := Lib.hid hsa
  have BL0 := Lib.hid ((Below.refl w.heap.size w).alloc (Nat.le_refl _) (.cells #[] 31))
  have OL0 := Lib.hid (World.ownsRow_lit (base := w.heap.size) (e := 31) (size := 3) w #[] 0 (by simp) (by simp [maxLen]) (by simp))
  obtain ⟨o, ho⟩ : ∃ o, relOk t = o := ⟨_, rfl⟩
  have HO := Lib.hid ho
  clear hx hsa ho hi hz0 hz1 hz2
  go_enter Try.func16, Try.ntmps16
  go_wp2_with fail
  refine (l2Ok_any A ca t _ (HX.out.below BL0.out) hla HSA.out).mono ?_
  rw [HO.out]
  rintro e w2 ⟨rfl, hb⟩
  have B2 := Lib.hid (BL0.out.trans (hb.mono BL0.out.size))
  have OL2 := Lib.hid (ownsKeep OL0.out hb)
  clear hb BL0 OL0
  cases o
  · have HR := Lib.hid (show relCountL t = [] from if_neg (by rw [HO.out]; simp))
    go_wp2
    go_ret
    rw [HR.out]
    exact getsE_nil _ _ _ B2.out
  · have HED := Lib.hid (edges_eq (tight_all ((relOk_iff t).1 HO.out).2).1)
    have HR := Lib.hid (show relCountL t = joinSts (countRaw t (stepsGo (edgeTo t 101))) from by rw [HED.out]; exact if_pos HO.out)
    have hl1 := ((relOk_iff t).1 HO.out).1
    have hel := edgeTo_len t 101
    obtain ⟨es, hes⟩ : ∃ es, edgeTo t 101 = es := ⟨_, rfl⟩
    have HES := Lib.hid hes
    rw [hes] at HR hel
    clear hes
    go_wp2_with fail
    refine (l4Edges_any A ca t _ (HX.out.below B2.out) hla).mono ?_
    rw [HES.out]
    rintro e w3 ⟨AE, cE, rfl, hoE, hb⟩
    have OE := Lib.hid (ownsBase (base' := w.heap.size) hoE B2.out.size)
    have B3 := Lib.hid (B2.out.trans (hb.mono B2.out.size))
    have OL3 := Lib.hid (ownsKeep OL2.out hb)
    clear hoE hb B2 OL2 HED HES
    go_wp2
    go_loopw [3, 5] (fun v i wr => ∃ k : Nat, (k + 1 ≤ es.length ∨ k = 0) ∧ i = .int .i64 k ∧ wr.ownsRow w.heap.size 31 3 v (cntTo t es k).length (flatOf stepC (cntTo t es k)) ∧ wr.ownsRow w.heap.size 3 1 (.slice AE es.length cE) es.length (es.map (Value.int .i64)) ∧ Below w.heap.size w wr) (fun _ i _ => es.length - (intOf i).toNat)
    case atStart => exact ⟨0, .inr rfl, rfl, by rw [cntTo_zero]; exact OL3.out, OE.out, B3.out⟩
    case round =>
      obtain ⟨k, hk, rfl, hown, hownE, hbr⟩ := hrel
      have Hown := Lib.hid hown
      have HE := Lib.hid hownE
      have BR := Lib.hid hbr
      have hlo := cntTo_len t es k
      clear hown hownE hbr
      by_cases hlt : k + 1 < es.length
      · obtain ⟨gE, cE', hv, hgb0, hgE⟩ := HE.out.form (by omega)
        injection hv with e1 e2 e3
        subst e1 e3
        clear e2
        have HT := Lib.hid (cntTo_succ (t := t) hlt)
        obtain ⟨p, hp⟩ : ∃ p, es.getD k 0 = p := ⟨_, rfl⟩
        obtain ⟨q, hq⟩ : ∃ q, es.getD (k + 1) 0 = q := ⟨_, rfl⟩
        rw [hp, hq] at HT
        have d0 : wr.cell? ⟨gE, k, none⟩ = some (.int .i64 p) := by
          rw [HE.out.cellAt k (by omega), ← hp, List.getElem?_map, List.getElem?_eq_getElem (by omega)]; simp [List.getD, show k < es.length by omega]
        have d1 : wr.cell? ⟨gE, k + 1, none⟩ = some (.int .i64 q) := by
          rw [HE.out.cellAt (k + 1) (by omega), ← hq, List.getElem?_map, List.getElem?_eq_getElem (by omega)]; simp [List.getD, hlt]
        obtain ⟨ps, hps⟩ : ∃ ps, atR t p = ps := ⟨_, rfl⟩
        have HPS := Lib.hid hps
        have hpl : ps.length ≤ 24 := by rw [← hps]; exact Nat.le_trans (at_len ..) hl1
        rw [hps] at HT
        obtain ⟨oo, hoo⟩ : ∃ oo, cntTo t es k = oo := ⟨_, rfl⟩
        rw [hoo] at Hown HT hlo
        have hkz : (k : Int) < (es.length : Int) := by omega
        have hkz0 : (0 : Int) ≤ (k : Int) := by omega
        clear hp hq hps hoo hgb0
        go_wp2_with fail
        refine (l2At_any A ca t p _ (HX.out.below BR.out) hla).mono ?_
        rw [atTo_R, HPS.out]
        rintro e w4 ⟨AP, cP, rfl, hoP, hb⟩
        have O4 := Lib.hid (ownsKeep Hown.out hb)
        have E4 := Lib.hid (ownsKeep HE.out hb)
        have B4 := Lib.hid (BR.out.trans (hb.mono BR.out.size))
        replace d0 := cellBelow hb hgE d0
        replace d1 := cellBelow hb hgE d1
        have hg4 : gE < w4.heap.size := Nat.lt_of_lt_of_le hgE hb.size
        clear hoP hb Hown HE BR hgE
        obtain ⟨k1, hk1⟩ : ∃ k1, k + 1 = k1 := ⟨_, rfl⟩
        rw [hk1] at d1
        have hk1z : (k1 : Int) < (es.length : Int) := by omega
        have hk1z0 : (0 : Int) ≤ (k1 : Int) := by omega
        have hk1w : IntKind.i64.wrap ((k : Int) + 1) = (k1 : Int) := (IntWalk.i64_in _ (by omega)).trans (by omega)
        obtain ⟨A5, c5, rfl⟩ := owns_formN O4.out
        by_cases h0 : ps.length = 0
        · rw [if_pos h0] at HT
          have hz : ((ps.length : Int) == 0) = true := by simp [h0]
          clear h0 d0 d1
          go_wp2
          go_roundw
          case rel => exact ⟨k + 1, .inl (by omega), by go_num, by rw [HT.out]; exact O4.out, E4.out, B4.out⟩
          case measure => simp [intOf]; omega
        · rw [if_neg h0] at HT
          have hz : ((ps.length : Int) == 0) = false := by rw [beq_eq_false_iff_ne]; omega
          clear h0
          rcases List.eq_nil_or_concat oo with h1 | ⟨o, y, h1⟩
          · subst h1
            have HT2 := Lib.hid (HT.out.trans (stepSt_nil _))
            go_wp2_with fail
            go_quiet (fail)
            have BW := Lib.hid (show Below w.heap.size w (w4.drewN nq) from below_drewN B4.out _)
            have OW := Lib.hid (show (w4.drewN nq).ownsRow w.heap.size 31 3 (.slice A5 0 c5) 0 (flatOf stepC []) from O4.out)
            have EW := Lib.hid (show (w4.drewN nq).ownsRow w.heap.size 3 1 (.slice (some ⟨gE, 0, none⟩) es.length cE) es.length (es.map (Value.int .i64)) from E4.out)
            replace d0 : (w4.drewN nq).cell? ⟨gE, k, none⟩ = some (.int .i64 p) := d0
            replace d1 : (w4.drewN nq).cell? ⟨gE, k1, none⟩ = some (.int .i64 q) := d1
            have hs6 : w.heap.size ≤ (w4.drewN nq).heap.size := BW.out.size
            have hg6 : gE < (w4.drewN nq).heap.size := hg4
            clear O4 B4 E4 hg4
            generalize w4.drewN nq = W1 at *
            have ag : Value.ownBlock (.slice A5 0 c5) ≠ some gE := fun e => by
              rcases owns_types EW.out OW.out (by decide) with h | h
              · simp [Value.ownBlock] at h
              · exact h (by rw [e]; rfl)
            go_wp2_with fail
            go_region_held3 (fun w' => w'.cell? ⟨gE, k, none⟩ = some (.int .i64 p) ∧ w'.cell? ⟨gE, k1, none⟩ = some (.int .i64 q))
              (first
                | go_keep
                | (go_split_ands
                   refine ⟨?_, ?_⟩
                   · (rw [hgrow.cell_far _ (by simp; omega) (Ne.symm ag)]; assumption)
                   · (rw [hgrow.cell_far _ (by simp; omega) (Ne.symm ag)]; assumption)))
              ((refine step_append_lies _ (by rfl) _ _ _ (by rfl) w.heap.size 31 i0 _ 3 24 Try.underlying25 Hi.out Hz0.out Hz1.out Hz2.out rfl (by omega) (.slice A5 0 c5) 0 (flatOf stepC []) (by rfl) ((OW.out.alloc _).drew)
                  ⟨W1.heap.size, 0, none⟩ 1 1 [.int .i64 ps.length, .int .i64 p, .int .i64 q] (by rfl) (by rfl) (World.news_of_block (cs := #[.int .i64 ps.length, .int .i64 p, .int .i64 q]) (t := 31) (fr := (0, 0)) (heap_alloc_new W1 _)) (by simp [Value.oneCell'])
                  (by omega) (by unfold maxLen; omega) (by omega) (by simp; omega) (W1.heap.size + 1) (by simp) ?_; intro gg cap1 w3 hown' hgrow hat hlt3))
            have O3 := Lib.hid (owns_snocT (x := ⟨ps.length, p, q⟩) hown' (by first | rfl | simp))
            have E3 := Lib.hid (((EW.out.alloc _).drew).kept hgrow (owns_types ((EW.out.alloc (.cells #[] 3))) (OW.out.alloc (.cells #[] 3)) (by decide)))
            have B3 := Lib.hid (((BW.out.alloc hs6 _).drew).grown hgrow (by simp; omega) (fun i e => by have := (OW.out.lt i e).1; omega))
            clear hown' hgrow hat
            go_wp2
            go_roundw
            case rel => exact ⟨k + 1, .inl (by omega), by go_num, (by rw [HT2.out]; exact O3.out), E3.out, B3.out⟩
            case measure => simp [intOf]; omega
          · rw [List.concat_eq_append] at h1
            subst h1
            have hlen : (o ++ [y]).length = o.length + 1 := by simp
            rw [hlen] at O4 hlo ⊢
            obtain ⟨g, c6, hv, hgb, hgl, p0, p1, p2, pf⟩ := last_ownT O4.out rfl
            injection hv with e1 e2 e3
            subst e1 e3
            clear e2
            clear hlen
            have hob1 : ((o.length : Nat) : Int) < (o.length : Int) + 1 := by omega
            have hob0 : (0 : Int) ≤ (o.length : Int) := by omega
            have hobn : ((o.length : Int) + 1 - 1).toNat = o.length := by omega
            cases hmm : (y.m == (ps.length : Int))
            · have hxx := touch_noM (y := y) (x := ⟨ps.length, p, q⟩) hmm
              have HT2 := Lib.hid (show cntTo t es (k + 1) = o ++ [y] ++ [⟨ps.length, p, q⟩] from by rw [HT.out, stepSt_at, hxx]; rfl)
              go_wp2_with fail
              go_quiet (fail)
              have BW := Lib.hid (show Below w.heap.size w (w4.drewN nq) from below_drewN B4.out _)
              have OW := Lib.hid (show (w4.drewN nq).ownsRow w.heap.size 31 3 (.slice (some ⟨g, 0, none⟩) (o.length + 1) c5) (o.length + 1) (flatOf stepC (o ++ [y])) from O4.out)
              have EW := Lib.hid (show (w4.drewN nq).ownsRow w.heap.size 3 1 (.slice (some ⟨gE, 0, none⟩) es.length cE) es.length (es.map (Value.int .i64)) from E4.out)
              replace d0 : (w4.drewN nq).cell? ⟨gE, k, none⟩ = some (.int .i64 p) := d0
              replace d1 : (w4.drewN nq).cell? ⟨gE, k1, none⟩ = some (.int .i64 q) := d1
              have hs6 : w.heap.size ≤ (w4.drewN nq).heap.size := BW.out.size
              have hg6 : gE < (w4.drewN nq).heap.size := hg4
              clear p0 p1 p2 pf O4 B4 E4 hg4
              generalize w4.drewN nq = W1 at *
              have ag : Value.ownBlock (.slice (some ⟨g, 0, none⟩) (o.length + 1) c5) ≠ some gE := fun e => by
                rcases owns_types EW.out OW.out (by decide) with h | h
                · simp [Value.ownBlock] at h
                · exact h (by rw [e]; rfl)
              go_wp2_with fail
              go_region_held3 (fun w' => w'.cell? ⟨gE, k, none⟩ = some (.int .i64 p) ∧ w'.cell? ⟨gE, k1, none⟩ = some (.int .i64 q))
                (first
                  | go_keep
                  | (go_split_ands
                     refine ⟨?_, ?_⟩
                     · (rw [hgrow.cell_far _ (by simp; omega) (Ne.symm ag)]; assumption)
                     · (rw [hgrow.cell_far _ (by simp; omega) (Ne.symm ag)]; assumption)))
                ((refine step_append_lies _ (by rfl) _ _ _ (by rfl) w.heap.size 31 i0 _ 3 24 Try.underlying25 Hi.out Hz0.out Hz1.out Hz2.out rfl (by omega) (.slice (some ⟨g, 0, none⟩) (o.length + 1) c5) (o.length + 1) (flatOf stepC (o ++ [y])) (by rfl) ((OW.out.alloc _).drew)
                    ⟨W1.heap.size, 0, none⟩ 1 1 [.int .i64 ps.length, .int .i64 p, .int .i64 q] (by rfl) (by rfl) (World.news_of_block (cs := #[.int .i64 ps.length, .int .i64 p, .int .i64 q]) (t := 31) (fr := (0, 0)) (heap_alloc_new W1 _)) (by simp [Value.oneCell'])
                    (by omega) (by unfold maxLen; omega) (by omega) (by simp; omega) (W1.heap.size + 1) (by simp) ?_; intro gg cap1 w3 hown' hgrow hat hlt3))
              have O3 := Lib.hid (owns_snocT (x := ⟨ps.length, p, q⟩) hown' (by first | rfl | simp))
              have E3 := Lib.hid (((EW.out.alloc _).drew).kept hgrow (owns_types ((EW.out.alloc (.cells #[] 3))) (OW.out.alloc (.cells #[] 3)) (by decide)))
              have B3 := Lib.hid (((BW.out.alloc hs6 _).drew).grown hgrow (by simp; omega) (fun i e => by have := (OW.out.lt i e).1; omega))
              clear hown' hgrow hat
              go_wp2
              go_roundw
              case rel => exact ⟨k + 1, .inl (by omega), by go_num, (by rw [HT2.out]; exact O3.out), E3.out, B3.out⟩
              case measure => simp [intOf]; omega
            · cases hee : (y.e == p)
              · have hxx := touch_noE (y := y) (x := ⟨ps.length, p, q⟩) hee
                have HT2 := Lib.hid (show cntTo t es (k + 1) = o ++ [y] ++ [⟨ps.length, p, q⟩] from by rw [HT.out, stepSt_at, hxx]; rfl)
                go_wp2_with fail
                go_quiet (fail)
                have BW := Lib.hid (show Below w.heap.size w (w4.drewN nq) from below_drewN B4.out _)
                have OW := Lib.hid (show (w4.drewN nq).ownsRow w.heap.size 31 3 (.slice (some ⟨g, 0, none⟩) (o.length + 1) c5) (o.length + 1) (flatOf stepC (o ++ [y])) from O4.out)
                have EW := Lib.hid (show (w4.drewN nq).ownsRow w.heap.size 3 1 (.slice (some ⟨gE, 0, none⟩) es.length cE) es.length (es.map (Value.int .i64)) from E4.out)
                replace d0 : (w4.drewN nq).cell? ⟨gE, k, none⟩ = some (.int .i64 p) := d0
                replace d1 : (w4.drewN nq).cell? ⟨gE, k1, none⟩ = some (.int .i64 q) := d1
                have hs6 : w.heap.size ≤ (w4.drewN nq).heap.size := BW.out.size
                have hg6 : gE < (w4.drewN nq).heap.size := hg4
                clear p0 p1 p2 pf O4 B4 E4 hg4
                generalize w4.drewN nq = W1 at *
                have ag : Value.ownBlock (.slice (some ⟨g, 0, none⟩) (o.length + 1) c5) ≠ some gE := fun e => by
                  rcases owns_types EW.out OW.out (by decide) with h | h
                  · simp [Value.ownBlock] at h
                  · exact h (by rw [e]; rfl)
                go_wp2_with fail
                go_region_held3 (fun w' => w'.cell? ⟨gE, k, none⟩ = some (.int .i64 p) ∧ w'.cell? ⟨gE, k1, none⟩ = some (.int .i64 q))
                  (first
                    | go_keep
                    | (go_split_ands
                       refine ⟨?_, ?_⟩
                       · (rw [hgrow.cell_far _ (by simp; omega) (Ne.symm ag)]; assumption)
                       · (rw [hgrow.cell_far _ (by simp; omega) (Ne.symm ag)]; assumption)))
                  ((refine step_append_lies _ (by rfl) _ _ _ (by rfl) w.heap.size 31 i0 _ 3 24 Try.underlying25 Hi.out Hz0.out Hz1.out Hz2.out rfl (by omega) (.slice (some ⟨g, 0, none⟩) (o.length + 1) c5) (o.length + 1) (flatOf stepC (o ++ [y])) (by rfl) ((OW.out.alloc _).drew)
                      ⟨W1.heap.size, 0, none⟩ 1 1 [.int .i64 ps.length, .int .i64 p, .int .i64 q] (by rfl) (by rfl) (World.news_of_block (cs := #[.int .i64 ps.length, .int .i64 p, .int .i64 q]) (t := 31) (fr := (0, 0)) (heap_alloc_new W1 _)) (by simp [Value.oneCell'])
                      (by omega) (by unfold maxLen; omega) (by omega) (by simp; omega) (W1.heap.size + 1) (by simp) ?_; intro gg cap1 w3 hown' hgrow hat hlt3))
                have O3 := Lib.hid (owns_snocT (x := ⟨ps.length, p, q⟩) hown' (by first | rfl | simp))
                have E3 := Lib.hid (((EW.out.alloc _).drew).kept hgrow (owns_types ((EW.out.alloc (.cells #[] 3))) (OW.out.alloc (.cells #[] 3)) (by decide)))
                have B3 := Lib.hid (((BW.out.alloc hs6 _).drew).grown hgrow (by simp; omega) (fun i e => by have := (OW.out.lt i e).1; omega))
                clear hown' hgrow hat
                go_wp2
                go_roundw
                case rel => exact ⟨k + 1, .inl (by omega), by go_num, (by rw [HT2.out]; exact O3.out), E3.out, B3.out⟩
                case measure => simp [intOf]; omega
              · have HT2 := Lib.hid (show cntTo t es (k + 1) = o ++ [⟨y.m, y.f, q⟩] from by rw [HT.out, stepSt_at, touch_yesT (y := y) (x := ⟨ps.length, p, q⟩) hmm hee]; rfl)
                go_wp2_with fail
                go_quiet (fail)
                have BW := Lib.hid (show Below w.heap.size w (w4.drewN nq) from below_drewN B4.out _)
                have OW := Lib.hid (show (w4.drewN nq).ownsRow w.heap.size 31 3 (.slice (some ⟨g, 0, none⟩) (o.length + 1) c5) (o.length + 1) (flatOf stepC (o ++ [y])) from O4.out)
                have EW := Lib.hid (show (w4.drewN nq).ownsRow w.heap.size 3 1 (.slice (some ⟨gE, 0, none⟩) es.length cE) es.length (es.map (Value.int .i64)) from E4.out)
                replace d0 : (w4.drewN nq).cell? ⟨gE, k, none⟩ = some (.int .i64 p) := d0
                replace d1 : (w4.drewN nq).cell? ⟨gE, k1, none⟩ = some (.int .i64 q) := d1
                have hs6 : w.heap.size ≤ (w4.drewN nq).heap.size := BW.out.size
                have hg6 : gE < (w4.drewN nq).heap.size := hg4
                replace pf : ∀ j, (w4.drewN nq).frozen? ⟨g, j, none⟩ = false := pf
                replace p0 : (w4.drewN nq).cell? ⟨g, o.length * 3, none⟩ = some (.int .i64 y.m) := p0
                replace p1 : (w4.drewN nq).cell? ⟨g, o.length * 3 + 1, none⟩ = some (.int .i64 y.f) := p1
                replace p2 : (w4.drewN nq).cell? ⟨g, o.length * 3 + 2, none⟩ = some (.int .i64 y.e) := p2
                clear O4 B4 E4 hg4
                generalize w4.drewN nq = W1 at *
                go_wp2
                go_roundw
                case measure => simp [intOf]; omega
                case rel =>
                  refine ⟨k + 1, .inl (by omega), by go_num, ?_, (EW.out.kept (OW.out.stored (o.length * 3 + 2) (.int .i64 q)).2 (owns_types EW.out OW.out (by decide))), BW.out.setCell (by simpa using hgb) _⟩
                  have e : flatOf stepC (o ++ [⟨y.m, y.f, q⟩]) = (flatOf stepC (o ++ [y])).set (o.length * 3 + 2) (.int .i64 q) := (flat_toT o y q).symm
                  rw [HT2.out, show (o ++ [(⟨y.m, y.f, q⟩ : StepV)]).length = o.length + 1 by simp, e]
                  exact (OW.out.stored (o.length * 3 + 2) (.int .i64 q)).1
      · have HF := Lib.hid (show cntTo t es k = relCountL t from by rw [HR.out, cntTo_all (by omega)])
        rw [HF.out] at Hown
        obtain ⟨A', c', hv⟩ := owns_sliceE Hown.out
        subst hv
        go_wp2
        go_ret
        exact ⟨A', c', rfl, Hown.out, BR.out⟩
end Go.Proofs.Ytphinkcfmdnpfaa
