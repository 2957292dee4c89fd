/-
  Plain: both texts where two tables have a key.
-/
import Derived.Test.YtphinkcfmdnpfaaRelG
import Derived.Lib.SlicesCompact
namespace Go.Proofs.Ytphinkcfmdnpfaa
open Go.RowKit

theorem compact_mem {zs : List Int} {x : Int} : x ∈ Lib.compact zs ↔ x ∈ zs := by
  unfold Lib.compact Lib.compactUpTo
  rw [List.mem_map]
  constructor
  · rintro ⟨i, hi, rfl⟩
    have hlt : i < zs.length := by simpa using (List.mem_filter.1 hi).1
    rw [getElem!_pos zs.toArray i (by simpa using hlt)]
    simp
  · intro hx
    obtain ⟨j, hj, rfl⟩ := List.mem_iff_getElem.1 hx
    -- the first place of that number
    have key : ∀ j (hj : j < zs.length), ∃ i, i < zs.length ∧ Lib.keeps zs.toArray i = true ∧ zs.toArray[i]! = zs[j] := by
      intro j
      induction j with
      | zero => intro hj; exact ⟨0, hj, by simp [Lib.keeps], by rw [getElem!_pos zs.toArray 0 (by simpa using hj)]; simp⟩
      | succ j ih =>
        intro hj
        by_cases he : zs[j + 1] = zs[j]
        · obtain ⟨i, h1, h2, h3⟩ := ih (by omega)
          exact ⟨i, h1, h2, by rw [h3, he]⟩
        · refine ⟨j + 1, hj, Lib.keeps_pos ?_, by rw [getElem!_pos zs.toArray (j + 1) (by simpa using hj)]; simp⟩
          rw [getElem!_pos zs.toArray (j + 1) (by simpa using hj), getElem!_pos zs.toArray (j + 1 - 1) (by simp; omega)]
          simpa using he
    obtain ⟨i, h1, h2, h3⟩ := key j hj
    exact ⟨i, List.mem_filter.2 ⟨List.mem_range.2 (by simpa using h1), h2⟩, h3⟩
theorem compact_pair {zs : List Int} (h : zs.Pairwise (· ≤ ·)) : (Lib.compact zs).Pairwise (· < ·) := by
  unfold Lib.compact Lib.compactUpTo
  rw [List.pairwise_map]
  have hr : ((List.range zs.length).filter (Lib.keeps zs.toArray)).Pairwise fun i j => i < j := List.pairwise_lt_range.sublist List.filter_sublist
  refine List.Pairwise.imp_of_mem ?_ hr
  intro i j hi hj hij
  have hi' : i < zs.length := by simpa using (List.mem_filter.1 hi).1
  have hj' : j < zs.length := by simpa using (List.mem_filter.1 hj).1
  have hk := (List.mem_filter.1 hj).2
  rw [getElem!_pos zs.toArray i (by simpa using hi'), getElem!_pos zs.toArray j (by simpa using hj')]
  unfold Lib.keeps at hk
  rw [decide_eq_true_eq] at hk
  rcases hk with hk | hk
  · omega
  · rw [getElem!_pos zs.toArray j (by simpa using hj'), getElem!_pos zs.toArray (j - 1) (by simp; omega)] at hk
    have h1 : zs[j - 1] ≤ zs[j] := List.pairwise_iff_getElem.1 h (j - 1) j (by omega) hj' (by omega)
    have h2 : zs[i] ≤ zs[j - 1] := by
      by_cases e : i = j - 1
      · subst e; exact Int.le_refl _
      · exact List.pairwise_iff_getElem.1 h i (j - 1) hi' (by omega) (by omega)
    have h3 : zs[j] ≠ zs[j - 1] := by simpa using hk
    show zs[i] < zs[j]
    omega
theorem compact_len (zs : List Int) : (Lib.compact zs).length ≤ zs.length := by
  unfold Lib.compact Lib.compactUpTo
  rw [List.length_map]
  have := List.length_filter_le (Lib.keeps zs.toArray) (List.range zs.length)
  simpa using this
theorem sort_pair (zs : List Int) : (zs.mergeSort fun x y => decide (x ≤ y)).Pairwise (· ≤ ·) := by
  have := List.pairwise_mergeSort (le := fun x y : Int => decide (x ≤ y)) (by intro a b c h1 h2; simp at *; omega) (by intro a b; simp; omega) zs
  exact this.imp (by intro a b h; simpa using h)

/-- All bounds of rows. -/
def boundsOf (zs : List RowV) : List Int := zs.flatMap fun x => [x.f, x.e]
theorem bounds_len : ∀ zs : List RowV, (boundsOf zs).length = zs.length * 2
  | [] => rfl
  | x :: l => by
    have := bounds_len l
    unfold boundsOf at *
    rw [List.flatMap_cons, List.length_append, this, List.length_cons]
    simp
    omega
theorem bounds_take {zs : List RowV} {k : Nat} {x : RowV} (hx : zs[k]? = some x) : boundsOf (zs.take (k + 1)) = boundsOf (zs.take k) ++ [x.f, x.e] := by
  obtain ⟨hk, rfl⟩ := List.getElem?_eq_some_iff.1 hx
  unfold boundsOf
  rw [List.take_succ_eq_append_getElem hk, List.flatMap_append]
  simp
theorem mem_bounds {zs : List RowV} {e : Int} : e ∈ boundsOf zs ↔ ∃ x ∈ zs, e = x.f ∨ e = x.e := by
  unfold boundsOf
  rw [List.mem_flatMap]
  constructor
  · rintro ⟨x, hx, h⟩; exact ⟨x, hx, by simpa using h⟩
  · rintro ⟨x, hx, h⟩; exact ⟨x, hx, by simpa using h⟩
/-- All bounds, in order, each once. -/
def edgesOf (zs : List RowV) : List Int := Lib.compact ((boundsOf zs).mergeSort fun x y => decide (x ≤ y))
theorem edges_pair (zs : List RowV) : (edgesOf zs).Pairwise (· < ·) := compact_pair (sort_pair _)
theorem mem_edges {zs : List RowV} {e : Int} : e ∈ edgesOf zs ↔ ∃ x ∈ zs, e = x.f ∨ e = x.e := by
  unfold edgesOf
  rw [compact_mem, List.mem_mergeSort, mem_bounds]
theorem edges_len (zs : List RowV) : (edgesOf zs).length ≤ zs.length * 2 := by
  have := compact_len ((boundsOf zs).mergeSort fun x y => decide (x ≤ y))
  rw [List.length_mergeSort, bounds_len] at this
  exact this

/-- The periods between neighbours. -/
def stepsGo : List Int → List (Int × Int)
  | a :: b :: l => (a, b) :: stepsGo (b :: l)
  | _ => []
theorem steps_len : ∀ l : List Int, (stepsGo l).length = l.length - 1
  | [] => rfl
  | [_] => rfl
  | a :: b :: l => by
    have := steps_len (b :: l)
    rw [stepsGo, List.length_cons, this]
    simp
theorem steps_get : ∀ (l : List Int) (i : Nat) (h : i + 1 < l.length), (stepsGo l)[i]? = some (l[i]'(by omega), l[i + 1])
  | [], i, h => by simp at h
  | [_], i, h => by simp at h
  | a :: b :: l, i, h => by
    cases i with
    | zero => rfl
    | succ i =>
      have := steps_get (b :: l) i (by simp at h ⊢; omega)
      rw [stepsGo, List.getElem?_cons_succ, this]
      rfl
theorem steps_mem : ∀ {l : List Int}, l.Pairwise (· < ·) → ∀ {p : Int × Int}, p ∈ stepsGo l → p.1 ∈ l ∧ p.2 ∈ l ∧ p.1 < p.2 ∧ ∀ e ∈ l, e ≤ p.1 ∨ p.2 ≤ e
  | [], _, p, hp => by cases hp
  | [_], _, p, hp => by cases hp
  | a :: b :: l, h, p, hp => by
    obtain ⟨h1, h2⟩ := List.pairwise_cons.1 h
    have hab : a < b := h1 b (List.mem_cons_self ..)
    rw [stepsGo] at hp
    rcases List.mem_cons.1 hp with rfl | hp
    · refine ⟨List.mem_cons_self .., List.mem_cons_of_mem _ (List.mem_cons_self ..), hab, fun e he => ?_⟩
      rcases List.mem_cons.1 he with rfl | he
      · exact .inl (Int.le_refl _)
      · rcases List.mem_cons.1 he with rfl | he
        · exact .inr (Int.le_refl _)
        · exact .inr (Int.le_of_lt ((List.pairwise_cons.1 h2).1 e he))
    · obtain ⟨q1, q2, q3, q4⟩ := steps_mem h2 hp
      refine ⟨List.mem_cons_of_mem _ q1, List.mem_cons_of_mem _ q2, q3, fun e he => ?_⟩
      rcases List.mem_cons.1 he with rfl | he
      · have := h1 p.1 q1
        exact .inl (by omega)
      · exact q4 e he
theorem steps_cover : ∀ {l : List Int}, l.Pairwise (· < ·) → ∀ {x y c : Int}, x ∈ l → y ∈ l → x ≤ c → c < y → ∃ p ∈ stepsGo l, p.1 ≤ c ∧ c < p.2
  | [], _, x, y, c, hx, _, _, _ => by cases hx
  | [a], _, x, y, c, hx, hy, h1, h2 => by
    rw [List.mem_singleton] at hx hy
    omega
  | a :: b :: l, h, x, y, c, hx, hy, h1, h2 => by
    obtain ⟨k1, k2⟩ := List.pairwise_cons.1 h
    by_cases hc : c < b
    · by_cases ha : a ≤ c
      · exact ⟨(a, b), by rw [stepsGo]; exact List.mem_cons_self .., ha, hc⟩
      · exfalso
        rcases List.mem_cons.1 hx with rfl | hx
        · omega
        · have := k1 x hx; omega
    · have hy' : y ∈ b :: l := by
        rcases List.mem_cons.1 hy with rfl | hy
        · have := k1 b (List.mem_cons_self ..); omega
        · exact hy
      obtain ⟨p, hp, q⟩ := steps_cover k2 (List.mem_cons_self ..) hy' (by omega) h2
      exact ⟨p, by rw [stepsGo]; exact List.mem_cons_of_mem _ hp, q⟩
theorem steps_pair : ∀ {l : List Int}, l.Pairwise (· < ·) → (stepsGo l).Pairwise fun p q => p.2 ≤ q.1
  | [], _ => List.Pairwise.nil
  | [_], _ => List.Pairwise.nil
  | a :: b :: l, h => by
    obtain ⟨h1, h2⟩ := List.pairwise_cons.1 h
    rw [stepsGo]
    refine List.pairwise_cons.2 ⟨fun q hq => ?_, steps_pair h2⟩
    have hq1 := (steps_mem h2 hq).1
    rcases List.mem_cons.1 hq1 with e | hq1
    · show b ≤ q.1; omega
    · have := (List.pairwise_cons.1 h2).1 q.1 hq1
      show b ≤ q.1; omega
/-- The periods in which no row begins or ends. -/
def stepsOf (zs : List RowV) : List (Int × Int) := stepsGo (edgesOf zs)
theorem stepsOf_len (zs : List RowV) : (stepsOf zs).length ≤ zs.length * 2 := by
  have := edges_len zs
  unfold stepsOf
  rw [steps_len]
  omega
end Go.Proofs.Ytphinkcfmdnpfaa
namespace Go.Proofs.Ytphinkcfmdnpfaa
open Go.RowKit

/-- What holds at a point. -/
def atR (zs : List RowV) (c : Int) : List PairV := (zs.filter fun x => hasB x.f x.e c).map pairOf
theorem atTo_R (zs : List RowV) (c : Int) : atTo zs c zs.length = atR zs c := by unfold atTo atR; rw [List.take_length]
theorem hasB_iff {f e c : Int} : hasB f e c = true ↔ f ≤ c ∧ c < e := by simp [hasB]
theorem mem_at {zs : List RowV} {k t : ByteArray} {c : Int} : (⟨k, t⟩ : PairV) ∈ atR zs c ↔ held zs k t c := by
  unfold atR held
  rw [List.mem_map]
  constructor
  · rintro ⟨x, hx, hp⟩
    obtain ⟨hx, hc⟩ := List.mem_filter.1 hx
    exact ⟨x, hx, congrArg PairV.k hp, congrArg PairV.t hp, hasB_iff.1 hc⟩
  · rintro ⟨x, hx, rfl, rfl, hc⟩
    exact ⟨x, List.mem_filter.2 ⟨hx, hasB_iff.2 hc⟩, rfl⟩
theorem at_len (zs : List RowV) (c : Int) : (atR zs c).length ≤ zs.length := by
  unfold atR
  rw [List.length_map]
  exact List.length_filter_le ..
def KeysApart (ps : List PairV) : Prop := ps.Pairwise fun p q => p.k ≠ q.k
theorem at_apart {zs : List RowV} (h : Apart zs) (c : Int) : KeysApart (atR zs c) := by
  unfold KeysApart atR
  rw [List.pairwise_map]
  refine List.Pairwise.imp_of_mem ?_ (h.sublist List.filter_sublist)
  intro x y hx hy hxy
  have h1 := hasB_iff.1 (List.mem_filter.1 hx).2
  have h2 := hasB_iff.1 (List.mem_filter.1 hy).2
  intro e
  have e : x.k = y.k := e
  rcases hxy with h | ⟨_, h⟩
  · rw [e, kl_irrefl] at h; cases h
  · omega
theorem getP_mem {key : ByteArray} : ∀ {ps : List PairV}, (∃ p ∈ ps, p.k = key) → ∃ p ∈ ps, p.k = key ∧ getP key ps = p.t
  | [], ⟨p, hp, _⟩ => by cases hp
  | q :: l, ⟨p, hp, e⟩ => by
    rw [getP]
    by_cases h : (q.k.toList == key.toList) = true
    · rw [if_pos h]; exact ⟨q, List.mem_cons_self .., same_key.1 h, rfl⟩
    · rw [if_neg h]
      rcases List.mem_cons.1 hp with rfl | hp
      · exact absurd (same_key.2 e) h
      · obtain ⟨r, h1, h2, h3⟩ := getP_mem ⟨p, hp, e⟩
        exact ⟨r, List.mem_cons_of_mem _ h1, h2, h3⟩
theorem getP_no {key : ByteArray} : ∀ {ps : List PairV}, (∀ p ∈ ps, p.k ≠ key) → getP key ps = ⟨#[]⟩
  | [], _ => rfl
  | q :: l, h => by
    rw [getP, if_neg (fun e => h q (List.mem_cons_self ..) (same_key.1 e))]
    exact getP_no fun p hp => h p (List.mem_cons_of_mem _ hp)

def rowsIn (ps : List PairV) (s : Int × Int) : List RowV := ps.map fun p => ⟨p.k, p.t, s.1, s.2⟩
/-- The rows of all periods. -/
def combR (F : List PairV → List PairV → List PairV) (a b : List RowV) (ss : List (Int × Int)) : List RowV := ss.flatMap fun s => rowsIn (F (atR a s.1) (atR b s.1)) s

theorem at_steady {zs : List RowV} {p : Int × Int} {c : Int} (h : ∀ x ∈ zs, (x.f ≤ p.1 ∨ p.2 ≤ x.f) ∧ (x.e ≤ p.1 ∨ p.2 ≤ x.e)) (h1 : p.1 ≤ c) (h2 : c < p.2) : atR zs c = atR zs p.1 := by
  unfold atR
  congr 1
  refine List.filter_congr fun x hx => ?_
  have := h x hx
  cases h3 : hasB x.f x.e p.1 with
  | true => rw [hasB_iff] at h3 ⊢; omega
  | false =>
    cases h4 : hasB x.f x.e c with
    | false => rfl
    | true =>
      rw [hasB_iff] at h4
      have h5 : hasB x.f x.e p.1 = true := hasB_iff.2 (by omega)
      rw [h3] at h5; cases h5
theorem step_bounds {zs : List RowV} {p : Int × Int} (hp : p ∈ stepsOf zs) : p.1 < p.2 ∧ (∃ x ∈ zs, p.1 = x.f ∨ p.1 = x.e) ∧ (∃ x ∈ zs, p.2 = x.f ∨ p.2 = x.e) ∧ ∀ x ∈ zs, (x.f ≤ p.1 ∨ p.2 ≤ x.f) ∧ (x.e ≤ p.1 ∨ p.2 ≤ x.e) := by
  obtain ⟨h1, h2, h3, h4⟩ := steps_mem (edges_pair zs) hp
  exact ⟨h3, mem_edges.1 h1, mem_edges.1 h2, fun x hx => ⟨h4 _ (mem_edges.2 ⟨x, hx, .inl rfl⟩), h4 _ (mem_edges.2 ⟨x, hx, .inr rfl⟩)⟩⟩
theorem step_in {zs : List RowV} (h : ∀ x ∈ zs, spanOk x) {p : Int × Int} (hp : p ∈ stepsOf zs) : 0 ≤ p.1 ∧ p.1 < p.2 ∧ p.2 ≤ 100 := by
  obtain ⟨h1, ⟨x, hx, h2⟩, ⟨y, hy, h3⟩, _⟩ := step_bounds hp
  obtain ⟨a1, a2, a3⟩ := h x hx
  obtain ⟨b1, b2, b3⟩ := h y hy
  refine ⟨?_, h1, ?_⟩
  · rcases h2 with h2 | h2 <;> omega
  · rcases h3 with h3 | h3 <;> omega
theorem at_nil {zs : List RowV} {c : Int} (h : ∀ x ∈ zs, ¬ (x.f ≤ c ∧ c < x.e)) : atR zs c = [] := by
  unfold atR
  rw [List.map_eq_nil_iff, List.filter_eq_nil_iff]
  intro x hx he
  exact h x hx (hasB_iff.1 he)
theorem held_comb {F : List PairV → List PairV → List PairV} {a b : List RowV} (hF : F [] [] = []) {k t : ByteArray} {c : Int} : held (combR F a b (stepsOf (a ++ b))) k t c ↔ (⟨k, t⟩ : PairV) ∈ F (atR a c) (atR b c) := by
  constructor
  · rintro ⟨y, hy, rfl, rfl, h1, h2⟩
    obtain ⟨s, hs, hy⟩ := List.mem_flatMap.1 hy
    obtain ⟨p, hp, rfl⟩ := List.mem_map.1 hy
    have hb := (step_bounds hs).2.2.2
    have h1 : s.1 ≤ c := h1
    have h2 : c < s.2 := h2
    rw [at_steady (zs := a) (fun x hx => hb x (List.mem_append_left _ hx)) h1 h2, at_steady (zs := b) (fun x hx => hb x (List.mem_append_right _ hx)) h1 h2]
    exact hp
  · intro hm
    have hx : ∃ x ∈ a ++ b, x.f ≤ c ∧ c < x.e := Classical.byContradiction fun hn => by
      have hn' : ∀ x ∈ a ++ b, ¬ (x.f ≤ c ∧ c < x.e) := fun x hx he => hn ⟨x, hx, he⟩
      rw [at_nil (fun x hx => hn' x (List.mem_append_left _ hx)), at_nil (fun x hx => hn' x (List.mem_append_right _ hx)), hF] at hm
      cases hm
    obtain ⟨x, hx, h1, h2⟩ := hx
    obtain ⟨p, hp, q1, q2⟩ := steps_cover (edges_pair (a ++ b)) (mem_edges.2 ⟨x, hx, .inl rfl⟩) (mem_edges.2 ⟨x, hx, .inr rfl⟩) h1 h2
    have hb := (step_bounds (zs := a ++ b) hp).2.2.2
    rw [at_steady (zs := a) (fun x hx => hb x (List.mem_append_left _ hx)) q1 q2, at_steady (zs := b) (fun x hx => hb x (List.mem_append_right _ hx)) q1 q2] at hm
    exact ⟨⟨k, t, p.1, p.2⟩, List.mem_flatMap.2 ⟨p, hp, List.mem_map.2 ⟨_, hm, rfl⟩⟩, rfl, rfl, q1, q2⟩

def noClash (x y : RowV) : Prop := x.k = y.k → x.e ≤ y.f ∨ y.e ≤ x.f
theorem comb_clash {F : List PairV → List PairV → List PairV} {a b : List RowV} (hK : ∀ c, KeysApart (F (atR a c) (atR b c))) : (combR F a b (stepsOf (a ++ b))).Pairwise noClash := by
  unfold combR
  rw [List.pairwise_flatMap]
  constructor
  · intro s _
    unfold rowsIn
    rw [List.pairwise_map]
    exact (hK s.1).imp fun {p q} h e => absurd e h
  · refine (steps_pair (edges_pair (a ++ b))).imp ?_
    intro s s' h x hx y hy _
    obtain ⟨p, _, rfl⟩ := List.mem_map.1 hx
    obtain ⟨q, _, rfl⟩ := List.mem_map.1 hy
    exact .inl h
theorem comb_span {F : List PairV → List PairV → List PairV} {a b : List RowV} (h : ∀ x ∈ a ++ b, spanOk x) : ∀ x ∈ combR F a b (stepsOf (a ++ b)), spanOk x := by
  intro x hx
  obtain ⟨s, hs, hx⟩ := List.mem_flatMap.1 hx
  obtain ⟨p, _, rfl⟩ := List.mem_map.1 hx
  exact step_in h hs
theorem apart_sorted {s l : List RowV} (hs : Ordered s) (hp : s.Perm l) (hn : l.Pairwise noClash) (hv : ∀ x ∈ l, x.f < x.e) : Apart s := by
  have hn' : s.Pairwise noClash := (hp.pairwise_iff (R := noClash) (fun {x y} h e => (h e.symm).symm)).2 hn
  refine List.Pairwise.imp_of_mem ?_ (hs.and hn')
  intro x y hx hy ⟨h1, h2⟩
  rcases lessB_no.1 h1 with h | ⟨hk, hf⟩
  · exact .inl h
  · have hxe := hv x (hp.subset hx)
    have hye := hv y (hp.subset hy)
    rcases h2 hk.symm with h | h
    · exact .inr ⟨hk.symm, h⟩
    · omega
theorem lead_adj' {x y : RowV} (h : adj x y) (ht : touchB x y = false) : lead x y := by
  rcases h with h | ⟨h, h'⟩
  · exact .inl h
  · refine .inr ⟨h, ?_⟩
    by_cases he : x.e = y.f
    · refine .inr ⟨he, fun e => ?_⟩
      have := touch_iff.2 ⟨h, e, he⟩
      rw [ht] at this; cases this
    · exact .inl (by omega)
theorem tight_all {l : List RowV} (h : relAll l = true) : (∀ x ∈ l, spanOk x) ∧ Tight l := by
  obtain ⟨h1, h2⟩ := (relAll_pair l).1 h
  exact ⟨fun x hx => (rowOk_iff.1 (h1 x hx)).2.2, h2.imp fun {x y} hh => lead_adj' hh.1 hh.2⟩
theorem tight_joinGo : ∀ (l : List RowV) (y : RowV), (∀ x ∈ y :: l, spanOk x) → Apart (y :: l) → (∀ x ∈ joinGo y l, spanOk x) ∧ Tight (joinGo y l)
  | [], y, h, _ => ⟨h, List.pairwise_singleton _ _⟩
  | x :: l, y, h, ha => by
    obtain ⟨a1, a2⟩ := List.pairwise_cons.1 ha
    have hy := h y (List.mem_cons_self ..)
    have hx := h x (List.mem_cons_of_mem _ (List.mem_cons_self ..))
    have hl : ∀ z ∈ x :: l, spanOk z := fun z hz => h z (List.mem_cons_of_mem _ hz)
    rw [joinGo]
    by_cases ht : touchB y x = true
    · rw [if_pos ht]
      obtain ⟨e1, e2, e3⟩ := touch_iff.1 ht
      have hj : spanOk (joinR y x) := ⟨hy.1, by show y.f < x.e; have := hy.2.1; have := hx.2.1; omega, hx.2.2⟩
      refine tight_joinGo l (joinR y x) (fun z hz => ?_) (List.pairwise_cons.2 ⟨fun z hz => ?_, (List.pairwise_cons.1 a2).2⟩)
      · rcases List.mem_cons.1 hz with rfl | hz
        · exact hj
        · exact hl z (List.mem_cons_of_mem _ hz)
      · have := (List.pairwise_cons.1 a2).1 z hz
        unfold adj at this ⊢
        show kl y.k z.k = true ∨ y.k = z.k ∧ x.e ≤ z.f
        rw [e1]; exact this
    · rw [if_neg ht]
      have ht' : touchB y x = false := by simpa using ht
      obtain ⟨ih1, ih2⟩ := tight_joinGo l x hl a2
      obtain ⟨z, m, e, k1, k2, k3⟩ := joinGo_head l x
      rw [e] at ih1 ih2 ⊢
      have hz := ih1 z (List.mem_cons_self ..)
      have hlead : lead y z := by
        have := lead_adj' (a1 x (List.mem_cons_self ..)) ht'
        unfold lead at this ⊢
        rw [k1, k2, k3]; exact this
      refine ⟨fun v hv => ?_, List.pairwise_cons.2 ⟨fun v hv => ?_, ih2⟩⟩
      · rcases List.mem_cons.1 hv with rfl | hv
        · exact hy
        · exact ih1 v hv
      · rcases List.mem_cons.1 hv with rfl | hv
        · exact hlead
        · exact lead_trans hz.2.1 hlead ((List.pairwise_cons.1 ih2).1 v hv)
theorem tight_join {l : List RowV} (h : ∀ x ∈ l, spanOk x) (ha : Apart l) : (∀ x ∈ joinRows l, spanOk x) ∧ Tight (joinRows l) := by
  cases l with
  | nil => exact ⟨fun x hx => (by cases hx), List.Pairwise.nil⟩
  | cons y l => rw [joinRows_cons]; exact tight_joinGo l y h ha

/-- The table, if it is one. -/
def fullL (l : List RowV) : List RowV × Bool := if relOk l = true then (l, true) else ([], false)
theorem comb_eq {F : List PairV → List PairV → List PairV} {a b s X : List RowV} (hab : ∀ x ∈ a ++ b, spanOk x) (hF : F [] [] = []) (hK : ∀ c, KeysApart (F (atR a c) (atR b c)))
    (hs : Ordered s) (hp : s.Perm (combR F a b (stepsOf (a ++ b)))) (sX : ∀ x ∈ X, spanOk x) (tX : Tight X) (hX : ∀ k t c, held X k t c ↔ (⟨k, t⟩ : PairV) ∈ F (atR a c) (atR b c)) : joinRows s = X := by
  have hsp : ∀ x ∈ s, spanOk x := fun x hx => comb_span hab x (hp.subset hx)
  have hap := apart_sorted hs hp (comb_clash hK) fun x hx => (comb_span hab x hx).2.1
  obtain ⟨s1, t1⟩ := tight_join hsp hap
  refine known _ _ s1 sX t1 tX fun k t c => ?_
  rw [held_join (fun x hx => (hsp x hx).2.1), held_mem (fun x => hp.mem_iff), held_comb hF, hX]

end Go.Proofs.Ytphinkcfmdnpfaa
namespace Go.Proofs.Ytphinkcfmdnpfaa
open Go.RowKit

/-! ### the first, where the second has nothing -/
def lessAll (a b : List RowV) : List RowV := b.foldl (fun out y => cutL out y.k y.f y.e) a
theorem lessAll_snoc (a b : List RowV) (y : RowV) : lessAll a (b ++ [y]) = cutL (lessAll a b) y.k y.f y.e := by unfold lessAll; rw [List.foldl_append]; rfl
theorem lessAll_take {a b : List RowV} {k : Nat} {y : RowV} (hy : b[k]? = some y) : lessAll a (b.take (k + 1)) = cutL (lessAll a (b.take k)) y.k y.f y.e := by
  obtain ⟨hk, rfl⟩ := List.getElem?_eq_some_iff.1 hy
  rw [List.take_succ_eq_append_getElem hk, lessAll_snoc]
theorem lessAll_rel : ∀ (b a : List RowV), (∀ y ∈ b, y.f < y.e) → relAll a = true → relAll (lessAll a b) = true
  | [], _, _, h => h
  | y :: b, a, hb, h => lessAll_rel b (cutL a y.k y.f y.e) (fun z hz => hb z (List.mem_cons_of_mem _ hz)) (cut_rel (hb y (List.mem_cons_self ..)) h)
theorem relAll_span {l : List RowV} (h : relAll l = true) : ∀ x ∈ l, x.f < x.e := fun x hx => ((tight_all h).1 x hx).2.1
theorem held_lessAll : ∀ (b a : List RowV), (∀ y ∈ b, y.f < y.e) → relAll a = true → ∀ {k t : ByteArray} {c : Int}, held (lessAll a b) k t c ↔ held a k t c ∧ ∀ u, ¬ held b k u c
  | [], a, _, h, k, t, c => ⟨fun hh => ⟨hh, fun u ⟨y, hy, _⟩ => by cases hy⟩, fun hh => hh.1⟩
  | y :: b, a, hb, h, k, t, c => by
    have hy := hb y (List.mem_cons_self ..)
    show held (lessAll (cutL a y.k y.f y.e) b) k t c ↔ _
    rw [held_lessAll b (cutL a y.k y.f y.e) (fun z hz => hb z (List.mem_cons_of_mem _ hz)) (cut_rel hy h), held_cut hy (relAll_span h)]
    constructor
    · rintro ⟨⟨h1, h2⟩, h3⟩
      refine ⟨h1, fun u hu => ?_⟩
      rcases held_cons.1 hu with ⟨e, _, h4⟩ | hu
      · exact h2 ⟨e.symm, h4⟩
      · exact h3 u hu
    · rintro ⟨h1, h2⟩
      exact ⟨⟨h1, fun ⟨e, h4⟩ => h2 y.t (held_cons.2 (.inl ⟨e.symm, rfl, h4⟩))⟩, fun u hu => h2 u (held_cons.2 (.inr hu))⟩
theorem cut_len1 {key : ByteArray} {a b : Int} (hab : a < b) : ∀ {t : List RowV}, Apart t → (∀ x ∈ t, x.f < x.e) → (cutL t key a b).length ≤ t.length + 1
  | [], _, _ => by simp [cutL]
  | x :: t, ha, hv => by
    obtain ⟨h1, h2⟩ := List.pairwise_cons.1 ha
    have ih := cut_len1 (key := key) hab h2 (fun z hz => hv z (List.mem_cons_of_mem _ hz))
    have e : cutL (x :: t) key a b = cutRow key a b x ++ cutL t key a b := rfl
    rw [e, List.length_append, List.length_cons]
    by_cases hc : (cutRow key a b x).length ≤ 1
    · omega
    · -- the row is cut in two: all others of its key lie behind it
      have hk : (x.k.toList == key.toList) = true := by
        cases hh : (x.k.toList == key.toList) with
        | true => rfl
        | false => exfalso; apply hc; unfold cutRow; rw [hh]; simp
      have hbe : b < x.e := by
        apply Classical.byContradiction
        intro hn
        apply hc
        unfold cutRow
        rw [if_pos hk, List.length_map]
        unfold leftS
        split
        · simp only [List.append_nil]; split <;> simp
        · simp
      have hone : ∀ z ∈ t, (cutRow key a b z).length ≤ 1 := fun z hz => by
        unfold cutRow
        by_cases hzk : (z.k.toList == key.toList) = true
        · rw [if_pos hzk, List.length_map]
          rcases h1 z hz with h | ⟨_, h⟩
          · rw [same_key.1 hk, same_key.1 hzk, kl_irrefl] at h; cases h
          · unfold leftS
            have := hv z (List.mem_cons_of_mem _ hz)
            rw [if_neg (by omega)]
            simp
        · rw [if_neg hzk]; simp
      have hsum : ∀ l : List RowV, (∀ z ∈ l, (cutRow key a b z).length ≤ 1) → (cutL l key a b).length ≤ l.length := by
        intro l
        induction l with
        | nil => intro _; simp [cutL]
        | cons z l ih =>
          intro h
          have i1 := ih fun v hv => h v (List.mem_cons_of_mem _ hv)
          have i2 := h z (List.mem_cons_self ..)
          have e : cutL (z :: l) key a b = cutRow key a b z ++ cutL l key a b := rfl
          rw [e, List.length_append, List.length_cons]
          omega
      have h3 := hsum t hone
      have h4 := cut_len key a b x
      omega
theorem lessAll_len : ∀ (b a : List RowV), (∀ y ∈ b, y.f < y.e) → relAll a = true → (lessAll a b).length ≤ a.length + b.length
  | [], a, _, _ => by simp [lessAll]
  | y :: b, a, hb, h => by
    have hy := hb y (List.mem_cons_self ..)
    have h1 := lessAll_len b (cutL a y.k y.f y.e) (fun z hz => hb z (List.mem_cons_of_mem _ hz)) (cut_rel hy h)
    have h2 := cut_len1 (key := y.k) hy (rel_rows h).2 (relAll_span h)
    show (lessAll (cutL a y.k y.f y.e) b).length ≤ _
    rw [List.length_cons]
    omega

/-! ### what a snapshot has of a key -/
theorem at_get {zs : List RowV} (hz : relOk zs = true) {k : ByteArray} {c : Int} : getP k (atR zs c) = ⟨#[]⟩ ↔ ∀ u, ¬ held zs k u c := by
  unfold atR
  rw [getP_eq]
  rcases getR_or k c zs with ⟨h1, h2⟩ | h
  · exact ⟨fun _ => h2, fun _ => h1⟩
  · constructor
    · intro e
      have := held_text hz h
      rw [e] at this
      exact absurd this (by decide)
    · intro hn; exact absurd h (hn _)
theorem at_get_eq {zs : List RowV} (hz : relOk zs = true) {k u : ByteArray} {c : Int} (h : held zs k u c) : getP k (atR zs c) = u := by
  unfold atR
  rw [getP_eq]
  exact getR_held (rel_apart hz).2 h
def noText (u : ByteArray) : Bool := u.toList.isEmpty
theorem noText_iff {u : ByteArray} : noText u = true ↔ u = ⟨#[]⟩ := by
  rw [← same_key, beq_iff_eq, show (⟨#[]⟩ : ByteArray).toList = [] by rw [ByteArray.toList_eq]]
  exact List.isEmpty_iff

def lessF (ps qs : List PairV) : List PairV := ps.filter fun p => noText (getP p.k qs)
def bothF (ps qs : List PairV) : List PairV := ps.filter fun p => !noText (getP p.k qs)
def eitherF (ps qs : List PairV) : List PairV := ps ++ lessF qs ps
def pickF (text : ByteArray) (ps _qs : List PairV) : List PairV := ps.filter fun p => p.t.toList == text.toList
def badF (ps qs : List PairV) : List PairV := ps.filter fun p => noText (getP p.t qs)

theorem ok_spans {a b : List RowV} (ha : relOk a = true) (hb : relOk b = true) : ∀ x ∈ a ++ b, spanOk x := fun x hx => by
  rcases List.mem_append.1 hx with hx | hx
  · exact (tight_rel ha).1 x hx
  · exact (tight_rel hb).1 x hx
theorem less_held {a b : List RowV} (ha : relOk a = true) (hb : relOk b = true) (k t : ByteArray) (c : Int) : held (lessAll a b) k t c ↔ (⟨k, t⟩ : PairV) ∈ lessF (atR a c) (atR b c) := by
  rw [held_lessAll b a (rel_len hb) ((relOk_iff a).1 ha).2]
  unfold lessF
  rw [List.mem_filter, mem_at, noText_iff, at_get hb]
theorem less_comb {a b s : List RowV} (ha : relOk a = true) (hb : relOk b = true) (hs : Ordered s) (hp : s.Perm (combR lessF a b (stepsOf (a ++ b)))) : joinRows s = lessAll a b := by
  obtain ⟨s1, t1⟩ := tight_all (lessAll_rel b a (rel_len hb) ((relOk_iff a).1 ha).2)
  exact comb_eq (ok_spans ha hb) rfl (fun c => (at_apart (rel_apart ha).2 c).sublist List.filter_sublist) hs hp s1 t1 (less_held ha hb)
theorem both_held {a b : List RowV} (ha : relOk a = true) (hb : relOk b = true) (k t : ByteArray) (c : Int) : held (lessAll a (lessAll a b)) k t c ↔ (⟨k, t⟩ : PairV) ∈ bothF (atR a c) (atR b c) := by
  have hr := ((relOk_iff a).1 ha).2
  have hy := rel_len hb
  have hl := relAll_span (lessAll_rel b a hy hr)
  rw [held_lessAll (lessAll a b) a hl hr]
  unfold bothF
  rw [List.mem_filter, mem_at]
  refine and_congr_right fun hk => ?_
  rw [Bool.not_eq_true', ← Bool.not_eq_true, noText_iff, at_get hb]
  constructor
  · intro h1 h2
    exact h1 t ((held_lessAll b a hy hr).2 ⟨hk, h2⟩)
  · intro h1 u hu
    exact h1 ((held_lessAll b a hy hr).1 hu).2
theorem both_rel {a b : List RowV} (ha : relOk a = true) (hb : relOk b = true) : relAll (lessAll a (lessAll a b)) = true :=
  have hr := ((relOk_iff a).1 ha).2
  lessAll_rel (lessAll a b) a (relAll_span (lessAll_rel b a (rel_len hb) hr)) hr
theorem both_comb {a b s : List RowV} (ha : relOk a = true) (hb : relOk b = true) (hs : Ordered s) (hp : s.Perm (combR bothF a b (stepsOf (a ++ b)))) : joinRows s = lessAll a (lessAll a b) := by
  obtain ⟨s1, t1⟩ := tight_all (both_rel ha hb)
  exact comb_eq (ok_spans ha hb) rfl (fun c => (at_apart (rel_apart ha).2 c).sublist List.filter_sublist) hs hp s1 t1 (both_held ha hb)

/-! ### the first, and the second where the first has nothing -/
theorem lay_apart : ∀ (l out : List RowV), Apart out → (∀ x ∈ out, x.f < x.e) → (∀ x ∈ l, x.f < x.e) → (∀ x ∈ l, holdsR out x = false) → (l.Pairwise fun x y => meetB x y = false) →
    Apart (l.foldl putR out) ∧ (l.foldl putR out).Perm (out ++ l)
  | [], out, h1, _, _, _, _ => ⟨h1, by simp⟩
  | r :: l, out, h1, h2, h3, h4, h5 => by
    have hr := h3 r (List.mem_cons_self ..)
    have h6 := List.pairwise_cons.1 h5
    have ha := putR_apart h1 h2 hr (h4 r (List.mem_cons_self ..))
    obtain ⟨a, c⟩ := lay_apart l (putR out r) ha (fun x hx => by
      rcases putR_mem.1 hx with rfl | hx
      · exact hr
      · exact h2 x hx) (fun x hx => h3 x (List.mem_cons_of_mem _ hx)) (fun x hx => by
      unfold holdsR
      rw [List.any_eq_false]
      intro z hz
      rcases putR_mem.1 hz with rfl | hz
      · simp [h6.1 x hx]
      · have := h4 x (List.mem_cons_of_mem _ hx)
        unfold holdsR at this
        rw [List.any_eq_false] at this
        exact this z hz) h6.2
    refine ⟨a, c.trans ?_⟩
    exact ((putR_perm out r).append_right l).trans (by simpa using (List.perm_middle (a := r) (l₁ := out) (l₂ := l)).symm)
theorem meet_held {x y : RowV} (h : meetB x y = true) : ∃ c, (x.f ≤ c ∧ c < x.e) ∧ (y.f ≤ c ∧ c < y.e) := by
  unfold meetB at h
  rw [Bool.and_eq_true, decide_eq_true_eq] at h
  exact ⟨max x.f y.f, by omega, by omega⟩
theorem apart_meet {l : List RowV} (ha : Apart l) : l.Pairwise fun x y => meetB x y = false := ha.imp fun {x y} h => by
  cases hm : meetB x y with
  | false => rfl
  | true =>
    obtain ⟨m1, m2, m3⟩ := meet_yes hm
    rcases h with h | ⟨_, h⟩
    · rw [m1, kl_irrefl] at h; cases h
    · omega
def eitherAll (a b : List RowV) : List RowV := (lessAll b a).foldl putR a
theorem either_lay {a b : List RowV} (ha : relOk a = true) (hb : relOk b = true) : Apart (eitherAll a b) ∧ (eitherAll a b).Perm (a ++ lessAll b a) := by
  have hr := ((relOk_iff b).1 hb).2
  have hy := rel_len ha
  have hl := lessAll_rel a b hy hr
  refine lay_apart _ _ (rel_apart ha).2 hy (relAll_span hl) (fun x hx => ?_) (apart_meet (rel_rows hl).2)
  unfold holdsR
  rw [List.any_eq_false]
  intro z hz hm
  obtain ⟨c, hzc, hxc⟩ := meet_held hm
  have hh : held (lessAll b a) x.k x.t c := ⟨x, hx, rfl, rfl, hxc⟩
  exact ((held_lessAll a b hy hr).1 hh).2 z.t ⟨z, hz, (meet_yes hm).1, rfl, hzc⟩
theorem either_span {a b : List RowV} (ha : relOk a = true) (hb : relOk b = true) : ∀ x ∈ eitherAll a b, spanOk x := fun x hx => by
  rcases List.mem_append.1 ((either_lay ha hb).2.subset hx) with hx | hx
  · exact (tight_rel ha).1 x hx
  · exact (tight_all (lessAll_rel a b (rel_len ha) ((relOk_iff b).1 hb).2)).1 x hx
theorem either_held {a b : List RowV} (ha : relOk a = true) (hb : relOk b = true) (k t : ByteArray) (c : Int) : held (joinRows (eitherAll a b)) k t c ↔ (⟨k, t⟩ : PairV) ∈ eitherF (atR a c) (atR b c) := by
  obtain ⟨h1, h2⟩ := either_lay ha hb
  rw [held_join (fun x hx => (either_span ha hb x hx).2.1), held_mem (fun x => h2.mem_iff), held_app, held_lessAll a b (rel_len ha) ((relOk_iff b).1 hb).2]
  unfold eitherF lessF
  rw [List.mem_append, mem_at, List.mem_filter, mem_at, noText_iff, at_get ha]
theorem either_keys {a b : List RowV} (ha : relOk a = true) (hb : relOk b = true) (c : Int) : KeysApart (eitherF (atR a c) (atR b c)) := by
  unfold eitherF KeysApart
  refine List.pairwise_append.2 ⟨at_apart (rel_apart ha).2 c, (at_apart (rel_apart hb).2 c).sublist List.filter_sublist, fun p hp q hq e => ?_⟩
  have hq2 := noText_iff.1 (List.mem_filter.1 hq).2
  rw [at_get ha] at hq2
  exact hq2 p.t (mem_at.1 (by rw [← e]; exact hp))
theorem either_comb {a b s : List RowV} (ha : relOk a = true) (hb : relOk b = true) (hs : Ordered s) (hp : s.Perm (combR eitherF a b (stepsOf (a ++ b)))) : joinRows s = joinRows (eitherAll a b) := by
  obtain ⟨s1, t1⟩ := tight_join (either_span ha hb) (either_lay ha hb).1
  exact comb_eq (ok_spans ha hb) rfl (either_keys ha hb) hs hp s1 t1 (either_held ha hb)

/-! ### picked -/
def pickAll (t : List RowV) (text : ByteArray) : List RowV := t.filter fun x => x.t.toList == text.toList
theorem pick_rel {t : List RowV} {text : ByteArray} (h : relOk t = true) : relOk (pickAll t text) = true := by
  obtain ⟨h1, h2⟩ := (relOk_iff t).1 h
  refine (relOk_iff _).2 ⟨Nat.le_trans (List.length_filter_le ..) h1, ?_⟩
  obtain ⟨h3, h4⟩ := (relAll_pair t).1 h2
  exact (relAll_pair _).2 ⟨fun x hx => h3 x (List.mem_filter.1 hx).1, h4.sublist List.filter_sublist⟩
theorem pick_held {t : List RowV} {text : ByteArray} (b : List RowV) (k u : ByteArray) (c : Int) : held (pickAll t text) k u c ↔ (⟨k, u⟩ : PairV) ∈ pickF text (atR t c) (atR b c) := by
  unfold pickF
  rw [List.mem_filter, mem_at]
  unfold pickAll held
  constructor
  · rintro ⟨x, hx, rfl, rfl, hc⟩
    obtain ⟨hx, he⟩ := List.mem_filter.1 hx
    exact ⟨⟨x, hx, rfl, rfl, hc⟩, he⟩
  · rintro ⟨⟨x, hx, rfl, rfl, hc⟩, he⟩
    exact ⟨x, List.mem_filter.2 ⟨hx, he⟩, rfl, rfl, hc⟩
theorem pick_comb {t s : List RowV} {text : ByteArray} (ht : relOk t = true) (hs : Ordered s) (hp : s.Perm (combR (pickF text) t [] (stepsOf (t ++ [])))) : joinRows s = pickAll t text := by
  obtain ⟨s1, t1⟩ := tight_rel (pick_rel (text := text) ht)
  exact comb_eq (by rw [List.append_nil]; exact (tight_rel ht).1) rfl (fun c => (at_apart (rel_apart ht).2 c).sublist List.filter_sublist) hs hp s1 t1 (pick_held [])

/-! ### what a table has at a point, in order -/
theorem at_keys {zs : List RowV} (h : Apart zs) (c : Int) : (atR zs c).Pairwise fun p q => kl p.k q.k = true := by
  unfold atR
  rw [List.pairwise_map]
  refine List.Pairwise.imp_of_mem ?_ (h.sublist List.filter_sublist)
  intro x y hx hy hxy
  have h1 := hasB_iff.1 (List.mem_filter.1 hx).2
  have h2 := hasB_iff.1 (List.mem_filter.1 hy).2
  rcases hxy with h | ⟨_, h⟩
  · exact h
  · omega
theorem keys_unique : ∀ (a b : List PairV), (a.Pairwise fun p q => kl p.k q.k = true) → (b.Pairwise fun p q => kl p.k q.k = true) → (∀ p, p ∈ a ↔ p ∈ b) → a = b
  | [], [], _, _, _ => rfl
  | [], q :: b, _, _, h => by have := (h q).2 (List.mem_cons_self ..); cases this
  | p :: a, [], _, _, h => by have := (h p).1 (List.mem_cons_self ..); cases this
  | p :: a, q :: b, ha, hb, h => by
    obtain ⟨a1, a2⟩ := List.pairwise_cons.1 ha
    obtain ⟨b1, b2⟩ := List.pairwise_cons.1 hb
    have e : p = q := by
      rcases List.mem_cons.1 ((h p).1 (List.mem_cons_self ..)) with e | h1
      · exact e
      · rcases List.mem_cons.1 ((h q).2 (List.mem_cons_self ..)) with e | h2
        · exact e.symm
        · have := kl_trans (a1 q h2) (b1 p h1)
          rw [kl_irrefl] at this; cases this
    subst e
    rw [keys_unique a b a2 b2 fun r => ?_]
    constructor
    · intro hr
      rcases List.mem_cons.1 ((h r).1 (List.mem_cons_of_mem _ hr)) with e | h1
      · subst e; have := a1 r hr; rw [kl_irrefl] at this; cases this
      · exact h1
    · intro hr
      rcases List.mem_cons.1 ((h r).2 (List.mem_cons_of_mem _ hr)) with e | h1
      · subst e; have := b1 r hr; rw [kl_irrefl] at this; cases this
      · exact h1
theorem relAt_R {zs : List RowV} (h : relOk zs = true) (c : Int) : relAtL zs c = atR zs c := by
  rw [relAtL, if_pos h, atTo_R]
theorem at_known {F : List PairV → List PairV → List PairV} {a b x : List RowV} (hx : relOk x = true) (hX : ∀ k t c, held x k t c ↔ (⟨k, t⟩ : PairV) ∈ F (atR a c) (atR b c)) (c : Int) (hS : (F (atR a c) (atR b c)).Pairwise fun p q => kl p.k q.k = true) : relAtL x c = F (atR a c) (atR b c) := by
  rw [relAt_R hx]
  exact keys_unique _ _ (at_keys (rel_apart hx).2 c) hS fun p => by rw [← hX p.k p.t c, ← mem_at]
end Go.Proofs.Ytphinkcfmdnpfaa
namespace Go.Proofs.Ytphinkcfmdnpfaa
open Go.RowKit

def plusB : ByteArray := ⟨#[43]⟩
def joinT (t u : ByteArray) : ByteArray := t ++ plusB ++ u
def joinRow (x y : RowV) : Option RowV := if meetB x y = true then some ⟨x.k, joinT x.t y.t, max x.f y.f, min x.e y.e⟩ else none
def joinAll (a b : List RowV) : List RowV := a.flatMap fun x => b.filterMap (joinRow x)
def joinF (ps qs : List PairV) : List PairV := ps.filterMap fun p => if noText (getP p.k qs) = true then none else some ⟨p.k, joinT p.t (getP p.k qs)⟩
theorem joinRow_in {x y z : RowV} (h : joinRow x y = some z) : meetB x y = true ∧ z.k = x.k ∧ z.t = joinT x.t y.t ∧ z.f = max x.f y.f ∧ z.e = min x.e y.e := by
  unfold joinRow at h
  by_cases hm : meetB x y = true
  · rw [if_pos hm] at h
    injection h with h
    subst h
    exact ⟨hm, rfl, rfl, rfl, rfl⟩
  · rw [if_neg hm] at h; cases h
theorem meet_max {x y : RowV} (h : meetB x y = true) : max x.f y.f < min x.e y.e := by
  unfold meetB at h
  rw [Bool.and_eq_true, decide_eq_true_eq] at h
  exact h.2
theorem joinAll_mem {a b : List RowV} {z : RowV} : z ∈ joinAll a b ↔ ∃ x ∈ a, ∃ y ∈ b, joinRow x y = some z := by
  unfold joinAll
  rw [List.mem_flatMap]
  constructor
  · rintro ⟨x, hx, hz⟩
    obtain ⟨y, hy, h⟩ := List.mem_filterMap.1 hz
    exact ⟨x, hx, y, hy, h⟩
  · rintro ⟨x, hx, y, hy, h⟩
    exact ⟨x, hx, List.mem_filterMap.2 ⟨y, hy, h⟩⟩
theorem held_joinAll {a b : List RowV} {k t : ByteArray} {c : Int} : held (joinAll a b) k t c ↔ ∃ u v, held a k u c ∧ held b k v c ∧ t = joinT u v := by
  constructor
  · rintro ⟨z, hz, e1, e2, e3, e4⟩
    obtain ⟨x, hx, y, hy, h⟩ := joinAll_mem.1 hz
    obtain ⟨h1, h2, h3, h4, h5⟩ := joinRow_in h
    have hk := (meet_yes h1).1
    exact ⟨x.t, y.t, ⟨x, hx, h2.symm.trans e1, rfl, by omega, by omega⟩, ⟨y, hy, hk.symm.trans (h2.symm.trans e1), rfl, by omega, by omega⟩, e2.symm.trans h3⟩
  · rintro ⟨u, v, ⟨x, hx, a1, rfl, a3, a4⟩, ⟨y, hy, b1, rfl, b3, b4⟩, rfl⟩
    have hm : meetB x y = true := by
      unfold meetB
      rw [Bool.and_eq_true, same_key, decide_eq_true_eq]
      exact ⟨a1.trans b1.symm, by omega⟩
    refine ⟨⟨x.k, joinT x.t y.t, max x.f y.f, min x.e y.e⟩, joinAll_mem.2 ⟨x, hx, y, hy, by rw [joinRow, if_pos hm]⟩, a1, rfl, ?_, ?_⟩ <;> dsimp only <;> omega
theorem joinAll_meet {a b : List RowV} (ha : Apart a) (hb : Apart b) : (joinAll a b).Pairwise fun x y => meetB x y = false := by
  unfold joinAll
  rw [List.pairwise_flatMap]
  constructor
  · intro x _
    rw [List.pairwise_filterMap]
    refine hb.imp fun {y y'} h z hz z' hz' => ?_
    obtain ⟨h1, h2, h3, h4, h5⟩ := joinRow_in hz
    obtain ⟨g1, g2, g3, g4, g5⟩ := joinRow_in hz'
    cases hm : meetB z z' with
    | false => rfl
    | true =>
      obtain ⟨m1, m2, m3⟩ := meet_yes hm
      rcases h with h | ⟨_, h⟩
      · rw [← (meet_yes h1).1, ← (meet_yes g1).1, kl_irrefl] at h; cases h
      · omega
  · refine ha.imp fun {x x'} h z hz z' hz' => ?_
    obtain ⟨y, _, hz⟩ := List.mem_filterMap.1 hz
    obtain ⟨y', _, hz'⟩ := List.mem_filterMap.1 hz'
    obtain ⟨h1, h2, h3, h4, h5⟩ := joinRow_in hz
    obtain ⟨g1, g2, g3, g4, g5⟩ := joinRow_in hz'
    cases hm : meetB z z' with
    | false => rfl
    | true =>
      obtain ⟨m1, m2, m3⟩ := meet_yes hm
      rcases h with h | ⟨_, h⟩
      · rw [← h2, ← g2, m1, kl_irrefl] at h; cases h
      · omega
theorem joinAll_span {a b : List RowV} (ha : ∀ x ∈ a, spanOk x) (hb : ∀ x ∈ b, spanOk x) : ∀ x ∈ joinAll a b, spanOk x := fun z hz => by
  obtain ⟨x, hx, y, hy, h⟩ := joinAll_mem.1 hz
  obtain ⟨h1, h2, h3, h4, h5⟩ := joinRow_in h
  have := meet_max h1
  obtain ⟨a1, a2, a3⟩ := ha x hx
  obtain ⟨b1, b2, b3⟩ := hb y hy
  exact ⟨by omega, by omega, by omega⟩
def joinPut (a b : List RowV) : List RowV := (joinAll a b).foldl putR []
theorem joinPut_lay {a b : List RowV} (ha : relOk a = true) (hb : relOk b = true) : Apart (joinPut a b) ∧ (joinPut a b).Perm (joinAll a b) := by
  have h := lay_apart (joinAll a b) [] List.Pairwise.nil (fun x hx => by cases hx) (fun x hx => (joinAll_span (tight_rel ha).1 (tight_rel hb).1 x hx).2.1) (fun x _ => rfl) (joinAll_meet (rel_apart ha).2 (rel_apart hb).2)
  rw [List.nil_append] at h
  exact h
theorem joinF_mem {ps qs : List PairV} {q : PairV} : q ∈ joinF ps qs ↔ ∃ p ∈ ps, noText (getP p.k qs) = false ∧ q = ⟨p.k, joinT p.t (getP p.k qs)⟩ := by
  unfold joinF
  rw [List.mem_filterMap]
  constructor
  · rintro ⟨p, hp, h⟩
    by_cases hn : noText (getP p.k qs) = true
    · rw [if_pos hn] at h; cases h
    · rw [if_neg hn] at h
      injection h with h
      exact ⟨p, hp, by simpa using hn, h.symm⟩
  · rintro ⟨p, hp, hn, rfl⟩
    exact ⟨p, hp, by rw [if_neg (by rw [hn]; simp)]⟩
theorem joinF_apart {ps qs : List PairV} (h : KeysApart ps) : KeysApart (joinF ps qs) := by
  unfold KeysApart joinF
  rw [List.pairwise_filterMap]
  refine List.Pairwise.imp ?_ h
  intro p q hpq p' hp' q' hq'
  by_cases h1 : noText (getP p.k qs) = true
  · rw [if_pos h1] at hp'; cases hp'
  · by_cases h2 : noText (getP q.k qs) = true
    · rw [if_pos h2] at hq'; cases hq'
    · rw [if_neg h1] at hp'
      rw [if_neg h2] at hq'
      injection hp' with hp'
      injection hq' with hq'
      subst hp' hq'
      exact hpq
theorem join_span {a b : List RowV} (ha : relOk a = true) (hb : relOk b = true) : ∀ x ∈ joinPut a b, spanOk x := fun x hx => joinAll_span (tight_rel ha).1 (tight_rel hb).1 x ((joinPut_lay ha hb).2.subset hx)
theorem join_held {a b : List RowV} (ha : relOk a = true) (hb : relOk b = true) (k t : ByteArray) (c : Int) : held (joinRows (joinPut a b)) k t c ↔ (⟨k, t⟩ : PairV) ∈ joinF (atR a c) (atR b c) := by
  obtain ⟨h1, h2⟩ := joinPut_lay ha hb
  rw [held_join (fun x hx => (join_span ha hb x hx).2.1), held_mem (fun x => h2.mem_iff), held_joinAll, joinF_mem]
  constructor
  · rintro ⟨u, v, hu, hv, rfl⟩
    have he := at_get_eq hb hv
    refine ⟨⟨k, u⟩, mem_at.2 hu, ?_, by show _ = PairV.mk k (joinT u (getP k (atR b c))); rw [he]⟩
    show noText (getP k (atR b c)) = false
    rw [← Bool.not_eq_true, noText_iff, at_get hb]
    exact fun h => h v hv
  · rintro ⟨p, hp, hn, e⟩
    injection e with e1 e2
    subst e1
    rw [← Bool.not_eq_true, noText_iff] at hn
    have hv : held b p.k (getP p.k (atR b c)) c := by
      unfold atR at hn ⊢
      rw [getP_eq] at hn ⊢
      rcases getR_or p.k c b with ⟨h, _⟩ | h
      · exact absurd h hn
      · exact h
    exact ⟨p.t, _, mem_at.1 hp, hv, e2⟩
theorem join_comb {a b s : List RowV} (ha : relOk a = true) (hb : relOk b = true) (hs : Ordered s) (hp : s.Perm (combR joinF a b (stepsOf (a ++ b)))) : joinRows s = joinRows (joinPut a b) := by
  obtain ⟨s1, t1⟩ := tight_join (join_span ha hb) (joinPut_lay ha hb).1
  exact comb_eq (ok_spans ha hb) rfl (fun c => joinF_apart (at_apart (rel_apart ha).2 c)) hs hp s1 t1 (join_held ha hb)
theorem filterMap_len (x : RowV) (b : List RowV) : (b.filterMap (joinRow x)).length ≤ b.length := List.length_filterMap_le ..
theorem joinAll_len (a b : List RowV) : (joinAll a b).length ≤ a.length * b.length := by
  unfold joinAll
  induction a with
  | nil => simp
  | cons x a ih =>
    have := filterMap_len x b
    rw [List.flatMap_cons, List.length_append, List.length_cons, Nat.add_mul]
    omega
end Go.Proofs.Ytphinkcfmdnpfaa
