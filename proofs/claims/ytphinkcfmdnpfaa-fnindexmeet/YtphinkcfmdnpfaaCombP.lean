/-
  Plain: rows made period by period out of what two tables are in it, put together, are one table: that which has the same at each point.
-/
import Derived.Test.YtphinkcfmdnpfaaRelG
import Derived.Lib.SlicesCompact
namespace Go.Proofs.Ytphinkcfmdnpfaa
open Go.RowKit

theorem compact_mem {zs : List Int} {x : Int} : x ∈ Lib.compact zs ↔ x ∈ zs := by
  unfold Lib.compact Lib.compactUpTo
  rw [List.mem_map]
  constructor
  · rintro ⟨i, hi, rfl⟩
    have hlt : i < zs.length := by simpa using (List.mem_filter.1 hi).1
    rw [getElem!_pos zs.toArray i (by simpa using hlt)]
    simp
  · intro hx
    obtain ⟨j, hj, rfl⟩ := List.mem_iff_getElem.1 hx
    -- the first place of that number
    have key : ∀ j (hj : j < zs.length), ∃ i, i < zs.length ∧ Lib.keeps zs.toArray i = true ∧ zs.toArray[i]! = zs[j] := by
      intro j
      induction j with
      | zero => intro hj; exact ⟨0, hj, by simp [Lib.keeps], by rw [getElem!_pos zs.toArray 0 (by simpa using hj)]; simp⟩
      | succ j ih =>
        intro hj
        by_cases he : zs[j + 1] = zs[j]
        · obtain ⟨i, h1, h2, h3⟩ := ih (by omega)
          exact ⟨i, h1, h2, by rw [h3, he]⟩
        · refine ⟨j + 1, hj, Lib.keeps_pos ?_, by rw [getElem!_pos zs.toArray (j + 1) (by simpa using hj)]; simp⟩
          rw [getElem!_pos zs.toArray (j + 1) (by simpa using hj), getElem!_pos zs.toArray (j + 1 - 1) (by simp; omega)]
          simpa using he
    obtain ⟨i, h1, h2, h3⟩ := key j hj
    exact ⟨i, List.mem_filter.2 ⟨List.mem_range.2 (by simpa using h1), h2⟩, h3⟩
theorem compact_pair {zs : List Int} (h : zs.Pairwise (· ≤ ·)) : (Lib.compact zs).Pairwise (· < ·) := by
  unfold Lib.compact Lib.compactUpTo
  rw [List.pairwise_map]
  have hr : ((List.range zs.length).filter (Lib.keeps zs.toArray)).Pairwise fun i j => i < j := List.pairwise_lt_range.sublist List.filter_sublist
  refine List.Pairwise.imp_of_mem ?_ hr
  intro i j hi hj hij
  have hi' : i < zs.length := by simpa using (List.mem_filter.1 hi).1
  have hj' : j < zs.length := by simpa using (List.mem_filter.1 hj).1
  have hk := (List.mem_filter.1 hj).2
  rw [getElem!_pos zs.toArray i (by simpa using hi'), getElem!_pos zs.toArray j (by simpa using hj')]
  unfold Lib.keeps at hk
  rw [decide_eq_true_eq] at hk
  rcases hk with hk | hk
  · omega
  · rw [getElem!_pos zs.toArray j (by simpa using hj'), getElem!_pos zs.toArray (j - 1) (by simp; omega)] at hk
    have h1 : zs[j - 1] ≤ zs[j] := List.pairwise_iff_getElem.1 h (j - 1) j (by omega) hj' (by omega)
    have h2 : zs[i] ≤ zs[j - 1] := by
      by_cases e : i = j - 1
      · subst e; exact Int.le_refl _
      · exact List.pairwise_iff_getElem.1 h i (j - 1) hi' (by omega) (by omega)
    have h3 : zs[j] ≠ zs[j - 1] := by simpa using hk
    show zs[i] < zs[j]
    omega
theorem compact_len (zs : List Int) : (Lib.compact zs).length ≤ zs.length := by
  unfold Lib.compact Lib.compactUpTo
  rw [List.length_map]
  have := List.length_filter_le (Lib.keeps zs.toArray) (List.range zs.length)
  simpa using this
theorem sort_pair (zs : List Int) : (zs.mergeSort fun x y => decide (x ≤ y)).Pairwise (· ≤ ·) := by
  have := List.pairwise_mergeSort (le := fun x y : Int => decide (x ≤ y)) (by intro a b c h1 h2; simp at *; omega) (by intro a b; simp; omega) zs
  exact this.imp (by intro a b h; simpa using h)

/-- All bounds of rows. -/
def boundsOf (zs : List RowV) : List Int := zs.flatMap fun x => [x.f, x.e]
theorem bounds_len : ∀ zs : List RowV, (boundsOf zs).length = zs.length * 2
  | [] => rfl
  | x :: l => by
    have := bounds_len l
    unfold boundsOf at *
    rw [List.flatMap_cons, List.length_append, this, List.length_cons]
    simp
    omega
theorem bounds_take {zs : List RowV} {k : Nat} {x : RowV} (hx : zs[k]? = some x) : boundsOf (zs.take (k + 1)) = boundsOf (zs.take k) ++ [x.f, x.e] := by
  obtain ⟨hk, rfl⟩ := List.getElem?_eq_some_iff.1 hx
  unfold boundsOf
  rw [List.take_succ_eq_append_getElem hk, List.flatMap_append]
  simp
theorem mem_bounds {zs : List RowV} {e : Int} : e ∈ boundsOf zs ↔ ∃ x ∈ zs, e = x.f ∨ e = x.e := by
  unfold boundsOf
  rw [List.mem_flatMap]
  constructor
  · rintro ⟨x, hx, h⟩; exact ⟨x, hx, by simpa using h⟩
  · rintro ⟨x, hx, h⟩; exact ⟨x, hx, by simpa using h⟩
/-- All bounds, in order, each once. -/
def edgesOf (zs : List RowV) : List Int := Lib.compact ((boundsOf zs).mergeSort fun x y => decide (x ≤ y))
theorem edges_pair (zs : List RowV) : (edgesOf zs).Pairwise (· < ·) := compact_pair (sort_pair _)
theorem mem_edges {zs : List RowV} {e : Int} : e ∈ edgesOf zs ↔ ∃ x ∈ zs, e = x.f ∨ e = x.e := by
  unfold edgesOf
  rw [compact_mem, List.mem_mergeSort, mem_bounds]
theorem edges_len (zs : List RowV) : (edgesOf zs).length ≤ zs.length * 2 := by
  have := compact_len ((boundsOf zs).mergeSort fun x y => decide (x ≤ y))
  rw [List.length_mergeSort, bounds_len] at this
  exact this

/-- The periods between neighbours. -/
def stepsGo : List Int → List (Int × Int)
  | a :: b :: l => (a, b) :: stepsGo (b :: l)
  | _ => []
theorem steps_len : ∀ l : List Int, (stepsGo l).length = l.length - 1
  | [] => rfl
  | [_] => rfl
  | a :: b :: l => by
    have := steps_len (b :: l)
    rw [stepsGo, List.length_cons, this]
    simp
theorem steps_get : ∀ (l : List Int) (i : Nat) (h : i + 1 < l.length), (stepsGo l)[i]? = some (l[i]'(by omega), l[i + 1])
  | [], i, h => by simp at h
  | [_], i, h => by simp at h
  | a :: b :: l, i, h => by
    cases i with
    | zero => rfl
    | succ i =>
      have := steps_get (b :: l) i (by simp at h ⊢; omega)
      rw [stepsGo, List.getElem?_cons_succ, this]
      rfl
theorem steps_mem : ∀ {l : List Int}, l.Pairwise (· < ·) → ∀ {p : Int × Int}, p ∈ stepsGo l → p.1 ∈ l ∧ p.2 ∈ l ∧ p.1 < p.2 ∧ ∀ e ∈ l, e ≤ p.1 ∨ p.2 ≤ e
  | [], _, p, hp => by cases hp
  | [_], _, p, hp => by cases hp
  | a :: b :: l, h, p, hp => by
    obtain ⟨h1, h2⟩ := List.pairwise_cons.1 h
    have hab : a < b := h1 b (List.mem_cons_self ..)
    rw [stepsGo] at hp
    rcases List.mem_cons.1 hp with rfl | hp
    · refine ⟨List.mem_cons_self .., List.mem_cons_of_mem _ (List.mem_cons_self ..), hab, fun e he => ?_⟩
      rcases List.mem_cons.1 he with rfl | he
      · exact .inl (Int.le_refl _)
      · rcases List.mem_cons.1 he with rfl | he
        · exact .inr (Int.le_refl _)
        · exact .inr (Int.le_of_lt ((List.pairwise_cons.1 h2).1 e he))
    · obtain ⟨q1, q2, q3, q4⟩ := steps_mem h2 hp
      refine ⟨List.mem_cons_of_mem _ q1, List.mem_cons_of_mem _ q2, q3, fun e he => ?_⟩
      rcases List.mem_cons.1 he with rfl | he
      · have := h1 p.1 q1
        exact .inl (by omega)
      · exact q4 e he
theorem steps_cover : ∀ {l : List Int}, l.Pairwise (· < ·) → ∀ {x y c : Int}, x ∈ l → y ∈ l → x ≤ c → c < y → ∃ p ∈ stepsGo l, p.1 ≤ c ∧ c < p.2
  | [], _, x, y, c, hx, _, _, _ => by cases hx
  | [a], _, x, y, c, hx, hy, h1, h2 => by
    rw [List.mem_singleton] at hx hy
    omega
  | a :: b :: l, h, x, y, c, hx, hy, h1, h2 => by
    obtain ⟨k1, k2⟩ := List.pairwise_cons.1 h
    by_cases hc : c < b
    · by_cases ha : a ≤ c
      · exact ⟨(a, b), by rw [stepsGo]; exact List.mem_cons_self .., ha, hc⟩
      · exfalso
        rcases List.mem_cons.1 hx with rfl | hx
        · omega
        · have := k1 x hx; omega
    · have hy' : y ∈ b :: l := by
        rcases List.mem_cons.1 hy with rfl | hy
        · have := k1 b (List.mem_cons_self ..); omega
        · exact hy
      obtain ⟨p, hp, q⟩ := steps_cover k2 (List.mem_cons_self ..) hy' (by omega) h2
      exact ⟨p, by rw [stepsGo]; exact List.mem_cons_of_mem _ hp, q⟩
theorem steps_pair : ∀ {l : List Int}, l.Pairwise (· < ·) → (stepsGo l).Pairwise fun p q => p.2 ≤ q.1
  | [], _ => List.Pairwise.nil
  | [_], _ => List.Pairwise.nil
  | a :: b :: l, h => by
    obtain ⟨h1, h2⟩ := List.pairwise_cons.1 h
    rw [stepsGo]
    refine List.pairwise_cons.2 ⟨fun q hq => ?_, steps_pair h2⟩
    have hq1 := (steps_mem h2 hq).1
    rcases List.mem_cons.1 hq1 with e | hq1
    · show b ≤ q.1; omega
    · have := (List.pairwise_cons.1 h2).1 q.1 hq1
      show b ≤ q.1; omega
/-- The periods in which no row begins or ends. -/
def stepsOf (zs : List RowV) : List (Int × Int) := stepsGo (edgesOf zs)
theorem stepsOf_len (zs : List RowV) : (stepsOf zs).length ≤ zs.length * 2 := by
  have := edges_len zs
  unfold stepsOf
  rw [steps_len]
  omega
end Go.Proofs.Ytphinkcfmdnpfaa
namespace Go.Proofs.Ytphinkcfmdnpfaa
open Go.RowKit

/-- What holds at a point. -/
def atR (zs : List RowV) (c : Int) : List PairV := (zs.filter fun x => hasB x.f x.e c).map pairOf
theorem atTo_R (zs : List RowV) (c : Int) : atTo zs c zs.length = atR zs c := by unfold atTo atR; rw [List.take_length]
theorem hasB_iff {f e c : Int} : hasB f e c = true ↔ f ≤ c ∧ c < e := by simp [hasB]
theorem mem_at {zs : List RowV} {k t : ByteArray} {c : Int} : (⟨k, t⟩ : PairV) ∈ atR zs c ↔ held zs k t c := by
  unfold atR held
  rw [List.mem_map]
  constructor
  · rintro ⟨x, hx, hp⟩
    obtain ⟨hx, hc⟩ := List.mem_filter.1 hx
    exact ⟨x, hx, congrArg PairV.k hp, congrArg PairV.t hp, hasB_iff.1 hc⟩
  · rintro ⟨x, hx, rfl, rfl, hc⟩
    exact ⟨x, List.mem_filter.2 ⟨hx, hasB_iff.2 hc⟩, rfl⟩
theorem at_len (zs : List RowV) (c : Int) : (atR zs c).length ≤ zs.length := by
  unfold atR
  rw [List.length_map]
  exact List.length_filter_le ..
def KeysApart (ps : List PairV) : Prop := ps.Pairwise fun p q => p.k ≠ q.k
theorem at_apart {zs : List RowV} (h : Apart zs) (c : Int) : KeysApart (atR zs c) := by
  unfold KeysApart atR
  rw [List.pairwise_map]
  refine List.Pairwise.imp_of_mem ?_ (h.sublist List.filter_sublist)
  intro x y hx hy hxy
  have h1 := hasB_iff.1 (List.mem_filter.1 hx).2
  have h2 := hasB_iff.1 (List.mem_filter.1 hy).2
  intro e
  have e : x.k = y.k := e
  rcases hxy with h | ⟨_, h⟩
  · rw [e, kl_irrefl] at h; cases h
  · omega
theorem getP_mem {key : ByteArray} : ∀ {ps : List PairV}, (∃ p ∈ ps, p.k = key) → ∃ p ∈ ps, p.k = key ∧ getP key ps = p.t
  | [], ⟨p, hp, _⟩ => by cases hp
  | q :: l, ⟨p, hp, e⟩ => by
    rw [getP]
    by_cases h : (q.k.toList == key.toList) = true
    · rw [if_pos h]; exact ⟨q, List.mem_cons_self .., same_key.1 h, rfl⟩
    · rw [if_neg h]
      rcases List.mem_cons.1 hp with rfl | hp
      · exact absurd (same_key.2 e) h
      · obtain ⟨r, h1, h2, h3⟩ := getP_mem ⟨p, hp, e⟩
        exact ⟨r, List.mem_cons_of_mem _ h1, h2, h3⟩
theorem getP_no {key : ByteArray} : ∀ {ps : List PairV}, (∀ p ∈ ps, p.k ≠ key) → getP key ps = ⟨#[]⟩
  | [], _ => rfl
  | q :: l, h => by
    rw [getP, if_neg (fun e => h q (List.mem_cons_self ..) (same_key.1 e))]
    exact getP_no fun p hp => h p (List.mem_cons_of_mem _ hp)

def rowsIn (ps : List PairV) (s : Int × Int) : List RowV := ps.map fun p => ⟨p.k, p.t, s.1, s.2⟩
/-- The rows of all periods. -/
def combR (F : List PairV → List PairV → List PairV) (a b : List RowV) (ss : List (Int × Int)) : List RowV := ss.flatMap fun s => rowsIn (F (atR a s.1) (atR b s.1)) s

theorem at_steady {zs : List RowV} {p : Int × Int} {c : Int} (h : ∀ x ∈ zs, (x.f ≤ p.1 ∨ p.2 ≤ x.f) ∧ (x.e ≤ p.1 ∨ p.2 ≤ x.e)) (h1 : p.1 ≤ c) (h2 : c < p.2) : atR zs c = atR zs p.1 := by
  unfold atR
  congr 1
  refine List.filter_congr fun x hx => ?_
  have := h x hx
  cases h3 : hasB x.f x.e p.1 with
  | true => rw [hasB_iff] at h3 ⊢; omega
  | false =>
    cases h4 : hasB x.f x.e c with
    | false => rfl
    | true =>
      rw [hasB_iff] at h4
      have h5 : hasB x.f x.e p.1 = true := hasB_iff.2 (by omega)
      rw [h3] at h5; cases h5
theorem step_bounds {zs : List RowV} {p : Int × Int} (hp : p ∈ stepsOf zs) : p.1 < p.2 ∧ (∃ x ∈ zs, p.1 = x.f ∨ p.1 = x.e) ∧ (∃ x ∈ zs, p.2 = x.f ∨ p.2 = x.e) ∧ ∀ x ∈ zs, (x.f ≤ p.1 ∨ p.2 ≤ x.f) ∧ (x.e ≤ p.1 ∨ p.2 ≤ x.e) := by
  obtain ⟨h1, h2, h3, h4⟩ := steps_mem (edges_pair zs) hp
  exact ⟨h3, mem_edges.1 h1, mem_edges.1 h2, fun x hx => ⟨h4 _ (mem_edges.2 ⟨x, hx, .inl rfl⟩), h4 _ (mem_edges.2 ⟨x, hx, .inr rfl⟩)⟩⟩
theorem step_in {zs : List RowV} (h : ∀ x ∈ zs, spanOk x) {p : Int × Int} (hp : p ∈ stepsOf zs) : 0 ≤ p.1 ∧ p.1 < p.2 ∧ p.2 ≤ 100 := by
  obtain ⟨h1, ⟨x, hx, h2⟩, ⟨y, hy, h3⟩, _⟩ := step_bounds hp
  obtain ⟨a1, a2, a3⟩ := h x hx
  obtain ⟨b1, b2, b3⟩ := h y hy
  refine ⟨?_, h1, ?_⟩
  · rcases h2 with h2 | h2 <;> omega
  · rcases h3 with h3 | h3 <;> omega
theorem at_nil {zs : List RowV} {c : Int} (h : ∀ x ∈ zs, ¬ (x.f ≤ c ∧ c < x.e)) : atR zs c = [] := by
  unfold atR
  rw [List.map_eq_nil_iff, List.filter_eq_nil_iff]
  intro x hx he
  exact h x hx (hasB_iff.1 he)
theorem held_comb {F : List PairV → List PairV → List PairV} {a b : List RowV} (hF : F [] [] = []) {k t : ByteArray} {c : Int} : held (combR F a b (stepsOf (a ++ b))) k t c ↔ (⟨k, t⟩ : PairV) ∈ F (atR a c) (atR b c) := by
  constructor
  · rintro ⟨y, hy, rfl, rfl, h1, h2⟩
    obtain ⟨s, hs, hy⟩ := List.mem_flatMap.1 hy
    obtain ⟨p, hp, rfl⟩ := List.mem_map.1 hy
    have hb := (step_bounds hs).2.2.2
    have h1 : s.1 ≤ c := h1
    have h2 : c < s.2 := h2
    rw [at_steady (zs := a) (fun x hx => hb x (List.mem_append_left _ hx)) h1 h2, at_steady (zs := b) (fun x hx => hb x (List.mem_append_right _ hx)) h1 h2]
    exact hp
  · intro hm
    have hx : ∃ x ∈ a ++ b, x.f ≤ c ∧ c < x.e := Classical.byContradiction fun hn => by
      have hn' : ∀ x ∈ a ++ b, ¬ (x.f ≤ c ∧ c < x.e) := fun x hx he => hn ⟨x, hx, he⟩
      rw [at_nil (fun x hx => hn' x (List.mem_append_left _ hx)), at_nil (fun x hx => hn' x (List.mem_append_right _ hx)), hF] at hm
      cases hm
    obtain ⟨x, hx, h1, h2⟩ := hx
    obtain ⟨p, hp, q1, q2⟩ := steps_cover (edges_pair (a ++ b)) (mem_edges.2 ⟨x, hx, .inl rfl⟩) (mem_edges.2 ⟨x, hx, .inr rfl⟩) h1 h2
    have hb := (step_bounds (zs := a ++ b) hp).2.2.2
    rw [at_steady (zs := a) (fun x hx => hb x (List.mem_append_left _ hx)) q1 q2, at_steady (zs := b) (fun x hx => hb x (List.mem_append_right _ hx)) q1 q2] at hm
    exact ⟨⟨k, t, p.1, p.2⟩, List.mem_flatMap.2 ⟨p, hp, List.mem_map.2 ⟨_, hm, rfl⟩⟩, rfl, rfl, q1, q2⟩

def noClash (x y : RowV) : Prop := x.k = y.k → x.e ≤ y.f ∨ y.e ≤ x.f
theorem comb_clash {F : List PairV → List PairV → List PairV} {a b : List RowV} (hK : ∀ c, KeysApart (F (atR a c) (atR b c))) : (combR F a b (stepsOf (a ++ b))).Pairwise noClash := by
  unfold combR
  rw [List.pairwise_flatMap]
  constructor
  · intro s _
    unfold rowsIn
    rw [List.pairwise_map]
    exact (hK s.1).imp fun {p q} h e => absurd e h
  · refine (steps_pair (edges_pair (a ++ b))).imp ?_
    intro s s' h x hx y hy _
    obtain ⟨p, _, rfl⟩ := List.mem_map.1 hx
    obtain ⟨q, _, rfl⟩ := List.mem_map.1 hy
    exact .inl h
theorem comb_span {F : List PairV → List PairV → List PairV} {a b : List RowV} (h : ∀ x ∈ a ++ b, spanOk x) : ∀ x ∈ combR F a b (stepsOf (a ++ b)), spanOk x := by
  intro x hx
  obtain ⟨s, hs, hx⟩ := List.mem_flatMap.1 hx
  obtain ⟨p, _, rfl⟩ := List.mem_map.1 hx
  exact step_in h hs
theorem apart_sorted {s l : List RowV} (hs : Ordered s) (hp : s.Perm l) (hn : l.Pairwise noClash) (hv : ∀ x ∈ l, x.f < x.e) : Apart s := by
  have hn' : s.Pairwise noClash := (hp.pairwise_iff (R := noClash) (fun {x y} h e => (h e.symm).symm)).2 hn
  refine List.Pairwise.imp_of_mem ?_ (hs.and hn')
  intro x y hx hy ⟨h1, h2⟩
  rcases lessB_no.1 h1 with h | ⟨hk, hf⟩
  · exact .inl h
  · have hxe := hv x (hp.subset hx)
    have hye := hv y (hp.subset hy)
    rcases h2 hk.symm with h | h
    · exact .inr ⟨hk.symm, h⟩
    · omega
theorem lead_adj' {x y : RowV} (h : adj x y) (ht : touchB x y = false) : lead x y := by
  rcases h with h | ⟨h, h'⟩
  · exact .inl h
  · refine .inr ⟨h, ?_⟩
    by_cases he : x.e = y.f
    · refine .inr ⟨he, fun e => ?_⟩
      have := touch_iff.2 ⟨h, e, he⟩
      rw [ht] at this; cases this
    · exact .inl (by omega)
theorem tight_all {l : List RowV} (h : relAll l = true) : (∀ x ∈ l, spanOk x) ∧ Tight l := by
  obtain ⟨h1, h2⟩ := (relAll_pair l).1 h
  exact ⟨fun x hx => (rowOk_iff.1 (h1 x hx)).2.2, h2.imp fun {x y} hh => lead_adj' hh.1 hh.2⟩
theorem tight_joinGo : ∀ (l : List RowV) (y : RowV), (∀ x ∈ y :: l, spanOk x) → Apart (y :: l) → (∀ x ∈ joinGo y l, spanOk x) ∧ Tight (joinGo y l)
  | [], y, h, _ => ⟨h, List.pairwise_singleton _ _⟩
  | x :: l, y, h, ha => by
    obtain ⟨a1, a2⟩ := List.pairwise_cons.1 ha
    have hy := h y (List.mem_cons_self ..)
    have hx := h x (List.mem_cons_of_mem _ (List.mem_cons_self ..))
    have hl : ∀ z ∈ x :: l, spanOk z := fun z hz => h z (List.mem_cons_of_mem _ hz)
    rw [joinGo]
    by_cases ht : touchB y x = true
    · rw [if_pos ht]
      obtain ⟨e1, e2, e3⟩ := touch_iff.1 ht
      have hj : spanOk (joinR y x) := ⟨hy.1, by show y.f < x.e; have := hy.2.1; have := hx.2.1; omega, hx.2.2⟩
      refine tight_joinGo l (joinR y x) (fun z hz => ?_) (List.pairwise_cons.2 ⟨fun z hz => ?_, (List.pairwise_cons.1 a2).2⟩)
      · rcases List.mem_cons.1 hz with rfl | hz
        · exact hj
        · exact hl z (List.mem_cons_of_mem _ hz)
      · have := (List.pairwise_cons.1 a2).1 z hz
        unfold adj at this ⊢
        show kl y.k z.k = true ∨ y.k = z.k ∧ x.e ≤ z.f
        rw [e1]; exact this
    · rw [if_neg ht]
      have ht' : touchB y x = false := by simpa using ht
      obtain ⟨ih1, ih2⟩ := tight_joinGo l x hl a2
      obtain ⟨z, m, e, k1, k2, k3⟩ := joinGo_head l x
      rw [e] at ih1 ih2 ⊢
      have hz := ih1 z (List.mem_cons_self ..)
      have hlead : lead y z := by
        have := lead_adj' (a1 x (List.mem_cons_self ..)) ht'
        unfold lead at this ⊢
        rw [k1, k2, k3]; exact this
      refine ⟨fun v hv => ?_, List.pairwise_cons.2 ⟨fun v hv => ?_, ih2⟩⟩
      · rcases List.mem_cons.1 hv with rfl | hv
        · exact hy
        · exact ih1 v hv
      · rcases List.mem_cons.1 hv with rfl | hv
        · exact hlead
        · exact lead_trans hz.2.1 hlead ((List.pairwise_cons.1 ih2).1 v hv)
theorem tight_join {l : List RowV} (h : ∀ x ∈ l, spanOk x) (ha : Apart l) : (∀ x ∈ joinRows l, spanOk x) ∧ Tight (joinRows l) := by
  cases l with
  | nil => exact ⟨fun x hx => (by cases hx), List.Pairwise.nil⟩
  | cons y l => rw [joinRows_cons]; exact tight_joinGo l y h ha

/-- The table, if it is one. -/
def fullL (l : List RowV) : List RowV × Bool := if relOk l = true then (l, true) else ([], false)
theorem comb_eq {F : List PairV → List PairV → List PairV} {a b s X : List RowV} (hab : ∀ x ∈ a ++ b, spanOk x) (hF : F [] [] = []) (hK : ∀ c, KeysApart (F (atR a c) (atR b c)))
    (hs : Ordered s) (hp : s.Perm (combR F a b (stepsOf (a ++ b)))) (sX : ∀ x ∈ X, spanOk x) (tX : Tight X) (hX : ∀ k t c, held X k t c ↔ (⟨k, t⟩ : PairV) ∈ F (atR a c) (atR b c)) : joinRows s = X := by
  have hsp : ∀ x ∈ s, spanOk x := fun x hx => comb_span hab x (hp.subset hx)
  have hap := apart_sorted hs hp (comb_clash hK) fun x hx => (comb_span hab x hx).2.1
  obtain ⟨s1, t1⟩ := tight_join hsp hap
  refine known _ _ s1 sX t1 tX fun k t c => ?_
  rw [held_join (fun x hx => (hsp x hx).2.1), held_mem (fun x => hp.mem_iff), held_comb hF, hX]

end Go.Proofs.Ytphinkcfmdnpfaa
