/-
  Plain: what a stable sort by blocks does with a row of elements: ranges exchanged, turned round a middle, merged in place.
-/
import Derived.Sort.LotA
namespace Go.Proofs.Ytphinkcfmdnpfaa
open Go.Sort
variable {α : Type} [Inhabited α] {lt : α → α → Bool}

/-- So many elements from a and from b exchanged. -/
def swpR (d : Array α) (a b : Nat) : Nat → Array α
  | 0 => d
  | i + 1 => swp (swpR d a b i) (a + i) (b + i)
theorem swpR_size (d : Array α) (a b : Nat) : ∀ n, (swpR d a b n).size = d.size
  | 0 => rfl
  | n + 1 => by rw [swpR, swp_size, swpR_size d a b n]
theorem swpR_get (d : Array α) (a b : Nat) : ∀ n, a + n ≤ b → b + n ≤ d.size → ∀ p, (swpR d a b n)[p]! = if a ≤ p ∧ p < a + n then d[p - a + b]! else if b ≤ p ∧ p < b + n then d[p - b + a]! else d[p]!
  | 0, _, _, p => by
    rw [if_neg (by omega), if_neg (by omega)]; rfl
  | n + 1, h1, h2, p => by
    rw [swpR, swp_get _ (by rw [swpR_size]; omega) (by rw [swpR_size]; omega), swpR_get d a b n (by omega) (by omega), swpR_get d a b n (by omega) (by omega), swpR_get d a b n (by omega) (by omega)]
    repeat' split
    all_goals first | (exfalso; omega) | rfl | (congr 1; omega)
theorem swpR_perm (d : Array α) (a b lo hi : Nat) (h0 : lo ≤ a) : ∀ n, a + n ≤ b → b + n ≤ hi → hi ≤ d.size → PermIn lo hi d (swpR d a b n)
  | 0, _, _, _ => permIn_refl _ _ _
  | n + 1, h1, h2, h3 => permIn_trans _ _ _ _ _ (swpR_perm d a b lo hi h0 n (by omega) (by omega) h3) (swp_permIn _ _ _ _ _ (by omega) (by omega) (by omega) (by omega) (by rw [swpR_size]; exact h3))

/-- The parts [a, m) and [m, b) change places. -/
def rotAt (d : Array α) (a m b p : Nat) : α := if p < a ∨ b ≤ p then d[p]! else if p < a + (b - m) then d[p + (m - a)]! else d[p - (b - m)]!
theorem rot_left (d : Array α) (m i j p : Nat) (hi : i ≤ m) (hj : 0 < j) (hij : j < i) (hs : m + j ≤ d.size) :
    rotAt (swpR d (m - i) m j) (m - (i - j)) m (m + j) p = rotAt d (m - i) m (m + j) p := by
  have g := swpR_get d (m - i) m j (by omega) hs
  unfold rotAt
  simp only [g]
  repeat' split
  all_goals first | (exfalso; omega) | rfl | (congr 1; omega)
theorem rot_right (d : Array α) (m i j p : Nat) (hi : i ≤ m) (h0 : 0 < i) (hij : i < j) (hs : m + j ≤ d.size) :
    rotAt (swpR d (m - i) (m + j - i) i) (m - i) m (m + (j - i)) p = rotAt d (m - i) m (m + j) p := by
  have g := swpR_get d (m - i) (m + j - i) i (by omega) (by omega)
  unfold rotAt
  simp only [g]
  repeat' split
  all_goals first | (exfalso; omega) | rfl | (congr 1; omega)
theorem rot_last (d : Array α) (m i p : Nat) (hi : i ≤ m) (hs : m + i ≤ d.size) : (swpR d (m - i) m i)[p]! = rotAt d (m - i) m (m + i) p := by
  rw [swpR_get d (m - i) m i (by omega) hs]
  unfold rotAt
  repeat' split
  all_goals first | (exfalso; omega) | rfl | (congr 1; omega)
theorem rot_none (d : Array α) (a m b p : Nat) (h1 : a ≤ m) (h2 : m ≤ b) (h : ¬ (a < m ∧ m < b)) : rotAt d a m b p = d[p]! := by
  unfold rotAt
  by_cases c1 : p < a ∨ b ≤ p
  · rw [if_pos c1]
  · rw [if_neg c1]
    by_cases c2 : p < a + (b - m)
    · rw [if_pos c2]; congr 1; omega
    · rw [if_neg c2]; congr 1; omega

/-- The turning of a row round its middle, under way. -/
structure Turns (a m b i j : Nat) (d dk : Array α) : Prop where
  i0 : 0 < i
  j0 : 0 < j
  ia : a + i ≤ m
  jb : m + j ≤ b
  perm : PermIn a b d dk
  same : ∀ p, rotAt dk (m - i) m (m + j) p = rotAt d a m b p
theorem Turns.start (a m b : Nat) (d : Array α) (h1 : a < m) (h2 : m < b) : Turns a m b (m - a) (b - m) d d :=
  ⟨by omega, by omega, by omega, by omega, permIn_refl _ _ _, fun p => by rw [show m - (m - a) = a by omega, show m + (b - m) = b by omega]⟩
theorem Turns.left {a m b i j : Nat} {d dk : Array α} (h : Turns a m b i j d dk) (hb : b ≤ d.size) (hij : j < i) : Turns a m b (i - j) j d (swpR dk (m - i) m j) := by
  have := h.i0; have := h.j0; have := h.ia; have := h.jb; have hs := h.perm.1
  exact ⟨by omega, by omega, by omega, by omega, permIn_trans _ _ _ _ _ h.perm (swpR_perm _ _ _ _ _ (by omega) _ (by omega) (by omega) (by omega)), fun p => by rw [rot_left dk m i j p (by omega) (by omega) hij (by omega)]; exact h.same p⟩
theorem Turns.right {a m b i j : Nat} {d dk : Array α} (h : Turns a m b i j d dk) (hb : b ≤ d.size) (hij : i < j) : Turns a m b i (j - i) d (swpR dk (m - i) (m + j - i) i) := by
  have := h.i0; have := h.j0; have := h.ia; have := h.jb; have hs := h.perm.1
  exact ⟨by omega, by omega, by omega, by omega, permIn_trans _ _ _ _ _ h.perm (swpR_perm _ _ _ _ _ (by omega) _ (by omega) (by omega) (by omega)), fun p => by rw [rot_right dk m i j p (by omega) (by omega) hij (by omega)]; exact h.same p⟩
/-- A row turned. -/
def Turned (a m b : Nat) (d d' : Array α) : Prop := PermIn a b d d' ∧ ∀ p, d'[p]! = rotAt d a m b p
theorem Turns.last {a m b i : Nat} {d dk : Array α} (h : Turns a m b i i d dk) (hb : b ≤ d.size) : Turned a m b d (swpR dk (m - i) m i) := by
  have := h.i0; have := h.ia; have := h.jb; have hs := h.perm.1
  exact ⟨permIn_trans _ _ _ _ _ h.perm (swpR_perm _ _ _ _ _ (by omega) _ (by omega) (by omega) (by omega)), fun p => by rw [rot_last dk m i p (by omega) (by omega)]; exact h.same p⟩

/-- A search by halves: what is known of the places. -/
structure Halves (P : Nat → Bool) (lo hi s r : Nat) : Prop where
  los : lo ≤ s
  sr : s ≤ r
  rhi : r ≤ hi
  yes : ∀ c, lo ≤ c → c < s → P c = true
  no : ∀ c, r ≤ c → c < hi → P c = false
theorem Halves.start (P : Nat → Bool) {lo hi : Nat} (h : lo ≤ hi) : Halves P lo hi lo hi := ⟨Nat.le_refl _, h, Nat.le_refl _, fun c _ _ => by omega, fun c _ _ => by omega⟩
theorem Halves.up {P : Nat → Bool} {lo hi s r c : Nat} (h : Halves P lo hi s r) (mono : ∀ c c', lo ≤ c → c ≤ c' → c' < hi → P c' = true → P c = true) (h1 : s ≤ c) (h2 : c < r) (hp : P c = true) : Halves P lo hi (c + 1) r :=
  have := h.los; have := h.rhi
  ⟨by omega, by omega, h.rhi, fun x h3 h4 => mono x c h3 (by omega) (by omega) hp, h.no⟩
theorem Halves.down {P : Nat → Bool} {lo hi s r c : Nat} (h : Halves P lo hi s r) (mono : ∀ c c', lo ≤ c → c ≤ c' → c' < hi → P c' = true → P c = true) (h1 : s ≤ c) (h2 : c < r) (hp : P c = false) : Halves P lo hi s c :=
  have := h.los; have := h.rhi
  ⟨h.los, by omega, by omega, h.yes, fun x h3 h4 => by
    cases hx : P x with
    | false => rfl
    | true => rw [mono c x (by omega) h3 h4 hx] at hp; cases hp⟩

/-! ### one element among many -/
/-- The element at a goes on to k, by neighbours. -/
structure GoesUp (a k hi : Nat) (d dk : Array α) : Prop where
  perm : PermIn a hi d dk
  got : ∀ p, dk[p]! = if a ≤ p ∧ p < k then d[p + 1]! else if p = k then d[a]! else d[p]!
theorem GoesUp.start (a hi : Nat) (d : Array α) : GoesUp a a hi d d := ⟨permIn_refl _ _ _, fun p => by
  rw [if_neg (by omega)]
  by_cases h : p = a
  · subst h; rw [if_pos rfl]
  · rw [if_neg h]⟩
theorem GoesUp.step {a k hi : Nat} {d dk : Array α} (h : GoesUp a k hi d dk) (ha : a ≤ k) (hk : k + 1 < hi) (hs : hi ≤ d.size) : GoesUp a (k + 1) hi d (swp dk k (k + 1)) := by
  have hsz := h.perm.1
  refine ⟨permIn_trans _ _ _ _ _ h.perm (swp_permIn _ _ _ _ _ ha (by omega) (by omega) hk (by omega)), fun p => ?_⟩
  rw [swp_get _ (by omega) (by omega), h.got, h.got, h.got]
  repeat' split
  all_goals first | (exfalso; omega) | rfl | (congr 1; omega)
/-- The element at m goes back to k, by neighbours. -/
structure GoesDown (lo m k : Nat) (d dk : Array α) : Prop where
  perm : PermIn lo (m + 1) d dk
  got : ∀ p, dk[p]! = if k < p ∧ p ≤ m then d[p - 1]! else if p = k then d[m]! else d[p]!
theorem GoesDown.start (lo m : Nat) (d : Array α) : GoesDown lo m m d d := ⟨permIn_refl _ _ _, fun p => by
  rw [if_neg (by omega)]
  by_cases h : p = m
  · subst h; rw [if_pos rfl]
  · rw [if_neg h]⟩
theorem GoesDown.step {lo m k : Nat} {d dk : Array α} (h : GoesDown lo m (k + 1) d dk) (ha : lo ≤ k) (hk : k + 1 ≤ m) (hs : m < d.size) : GoesDown lo m k d (swp dk (k + 1) k) := by
  have hsz := h.perm.1
  refine ⟨permIn_trans _ _ _ _ _ h.perm (swp_permIn _ _ _ _ _ (by omega) (by omega) (by omega) (by omega) (by omega)), fun p => ?_⟩
  rw [swp_get _ (by omega) (by omega), h.got, h.got, h.got]
  repeat' split
  all_goals first | (exfalso; omega) | rfl | (congr 1; omega)

omit [Inhabited α] in
theorem SWO.le_lt (hS : SWO lt) {x y z : α} (h1 : lt y x = false) (h2 : lt y z = true) : lt x z = true := by
  cases h : lt x z with
  | true => rfl
  | false => rw [hS.ntrans _ _ _ h1 h] at h2; cases h2
omit [Inhabited α] in
theorem SWO.lt_le (hS : SWO lt) {x y z : α} (h1 : lt x y = true) (h2 : lt z y = false) : lt x z = true := by
  cases h : lt x z with
  | true => rfl
  | false => rw [hS.ntrans _ _ _ h h2] at h1; cases h1

theorem first_mono (hS : SWO lt) {a m b : Nat} {d : Array α} (h : SortedIn lt m b d) (c c' : Nat) (h1 : m ≤ c) (h2 : c ≤ c') (h3 : c' < b) (hp : lt d[c']! d[a]! = true) : lt d[c]! d[a]! = true := by
  rcases Nat.lt_or_ge c c' with hc | hc
  · exact SWO.le_lt hS (h c c' h1 hc h3) hp
  · rwa [show c = c' by omega]
theorem last_mono (hS : SWO lt) {a m : Nat} {d : Array α} (h : SortedIn lt a m d) (c c' : Nat) (h1 : a ≤ c) (h2 : c ≤ c') (h3 : c' < m) (hp : (!lt d[m]! d[c']!) = true) : (!lt d[m]! d[c]!) = true := by
  rcases Nat.lt_or_ge c c' with hc | hc
  · rw [Bool.not_eq_true'] at hp ⊢
    exact hS.ntrans _ _ _ hp (h c c' h1 hc h3)
  · rwa [show c = c' by omega]

/-- The first element among the others: where it stands behind the search, all is in order. -/
theorem first_sorted (hS : SWO lt) {a b i : Nat} {d d' : Array α} (h : SortedIn lt (a + 1) b d) (hh : Halves (fun c => lt d[c]! d[a]!) (a + 1) b i i) (hg : GoesUp a (i - 1) b d d') : SortedIn lt a b d' := by
  have := hh.los; have := hh.rhi
  intro p q h1 h2 h3
  rw [hg.got, hg.got]
  by_cases cp : p < i - 1
  · rw [if_pos (c := a ≤ p ∧ p < i - 1) (by omega)]
    by_cases cq : q < i - 1
    · rw [if_pos (by omega)]; exact h _ _ (by omega) (by omega) (by omega)
    · rw [if_neg (by omega)]
      by_cases cq2 : q = i - 1
      · rw [if_pos cq2]; exact SWO.asymmA hS (hh.yes (p + 1) (by omega) (by omega))
      · rw [if_neg cq2]; exact h _ _ (by omega) (by omega) (by omega)
  · rw [if_neg (c := a ≤ p ∧ p < i - 1) (by omega), if_neg (c := a ≤ q ∧ q < i - 1) (by omega), if_neg (c := q = i - 1) (by omega)]
    by_cases cp2 : p = i - 1
    · rw [if_pos cp2]; exact hh.no q (by omega) (by omega)
    · rw [if_neg cp2]; exact h _ _ (by omega) (by omega) (by omega)
theorem last_sorted (hS : SWO lt) {a m i : Nat} {d d' : Array α} (h : SortedIn lt a m d) (hh : Halves (fun c => !lt d[m]! d[c]!) a m i i) (hg : GoesDown a m i d d') : SortedIn lt a (m + 1) d' := by
  have := hh.los; have := hh.rhi
  intro p q h1 h2 h3
  rw [hg.got, hg.got]
  by_cases cq : i < q
  · rw [if_pos (c := i < q ∧ q ≤ m) (by omega)]
    by_cases cp : i < p
    · rw [if_pos (by omega)]; exact h _ _ (by omega) (by omega) (by omega)
    · rw [if_neg (by omega)]
      by_cases cp2 : p = i
      · rw [if_pos cp2]
        have := hh.no (q - 1) (by omega) (by omega)
        simp only [Bool.not_eq_false'] at this
        exact SWO.asymmA hS this
      · rw [if_neg cp2]; exact h _ _ (by omega) (by omega) (by omega)
  · rw [if_neg (c := i < q ∧ q ≤ m) (by omega), if_neg (c := i < p ∧ p ≤ m) (by omega), if_neg (c := p = i) (by omega)]
    by_cases cq2 : q = i
    · rw [if_pos cq2]
      have := hh.yes p (by omega) (by omega)
      simpa using this
    · rw [if_neg cq2]; exact h _ _ (by omega) (by omega) (by omega)

/-! ### the merge -/
theorem mid_mono (hS : SWO lt) {a m b n lo hi : Nat} {d : Array α} (h1 : SortedIn lt a m d) (h2 : SortedIn lt m b d) (hlo : a ≤ lo) (hhi : hi ≤ m) (hn : m + hi ≤ n) (hn2 : n ≤ b + lo) (c c' : Nat) (hc : lo ≤ c) (hcc : c ≤ c') (hc' : c' < hi)
    (hp : (!lt d[n - 1 - c']! d[c']!) = true) : (!lt d[n - 1 - c]! d[c]!) = true := by
  rcases Nat.lt_or_ge c c' with hlt | hge
  · rw [Bool.not_eq_true'] at hp ⊢
    exact hS.ntrans _ _ _ (h2 (n - 1 - c') (n - 1 - c) (by omega) (by omega) (by omega)) (hS.ntrans _ _ _ hp (h1 c c' (by omega) hlt (by omega)))
  · rwa [show c = c' by omega]
/-- Where the middle's search begins and ends. -/
def loOf (a m b : Nat) : Nat := if (a + b) / 2 < m then (a + b) / 2 + m - b else a
def hiOf (a m b : Nat) : Nat := if (a + b) / 2 < m then (a + b) / 2 else m
theorem lohi {a m b : Nat} (h1 : a + 2 ≤ m) (h2 : m + 2 ≤ b) : a ≤ loOf a m b ∧ loOf a m b ≤ hiOf a m b ∧ hiOf a m b ≤ m ∧ hiOf a m b ≤ (a + b) / 2 ∧ (a + b) / 2 + m ≤ b + loOf a m b := by
  unfold loOf hiOf
  split <;> omega
theorem lohi_or (a m b : Nat) : ((a + b) / 2 < m ∧ loOf a m b = (a + b) / 2 + m - b ∧ hiOf a m b = (a + b) / 2) ∨ (m ≤ (a + b) / 2 ∧ loOf a m b = a ∧ hiOf a m b = m) := by
  unfold loOf hiOf
  by_cases h : (a + b) / 2 < m
  · rw [if_pos h, if_pos h]; exact .inl ⟨h, rfl, rfl⟩
  · rw [if_neg h, if_neg h]; exact .inr ⟨by omega, rfl, rfl⟩
/-- Four parts in order, and nothing of the left half behind the right one's. -/
structure Parts (lt : α → α → Bool) (a s mid e b : Nat) (d : Array α) : Prop where
  p1 : SortedIn lt a s d
  p2 : SortedIn lt s mid d
  p3 : SortedIn lt mid e d
  p4 : SortedIn lt e b d
  apart : ∀ p q, a ≤ p → p < mid → mid ≤ q → q < b → lt d[q]! d[p]! = false
theorem parts_of (hS : SWO lt) {a m b s : Nat} {d d1 : Array α} (h1 : SortedIn lt a m d) (h2 : SortedIn lt m b d) (ha : a + 2 ≤ m) (hb : m + 2 ≤ b)
    (hh : Halves (fun c => !lt d[(a + b) / 2 + m - 1 - c]! d[c]!) (loOf a m b) (hiOf a m b) s s) (hr : ∀ p, d1[p]! = rotAt d s m ((a + b) / 2 + m - s) p) :
    Parts lt a s ((a + b) / 2) ((a + b) / 2 + m - s) b d1 := by
  obtain ⟨l1, l2, l3, l4, l5⟩ := lohi ha hb
  have hs1 := hh.los; have hs2 := hh.rhi
  -- where an element of d1 comes from
  have at1 : ∀ p, p < s → d1[p]! = d[p]! := fun p hp => by rw [hr, rotAt, if_pos (by omega)]
  have at2 : ∀ p, s ≤ p → p < (a + b) / 2 → d1[p]! = d[p + (m - s)]! := fun p h3 h4 => by rw [hr, rotAt, if_neg (by omega), if_pos (by omega)]
  have at3 : ∀ p, (a + b) / 2 ≤ p → p < (a + b) / 2 + m - s → d1[p]! = d[p - ((a + b) / 2 - s)]! := fun p h3 h4 => by
    rw [hr, rotAt, if_neg (by omega), if_neg (by omega)]; congr 1; omega
  have at4 : ∀ p, (a + b) / 2 + m - s ≤ p → d1[p]! = d[p]! := fun p hp => by rw [hr, rotAt, if_pos (by omega)]
  -- the left part's first against the right part's last
  have low : ∀ x y, a ≤ x → x < s → (a + b) / 2 + m - s ≤ y → y < b → lt d[y]! d[x]! = false := fun x y h3 h4 h5 h6 => by
    have hls : loOf a m b < s := by
      rcases Nat.lt_or_ge (loOf a m b) s with h | h
      · exact h
      · rcases lohi_or a m b with ⟨x1, x2, x3⟩ | ⟨x1, x2, x3⟩ <;> omega
    have hy := hh.yes (s - 1) (by omega) (by omega)
    simp only [Bool.not_eq_true'] at hy
    have k1 : lt d[y]! d[(a + b) / 2 + m - 1 - (s - 1)]! = false := by
      rcases Nat.lt_or_ge ((a + b) / 2 + m - 1 - (s - 1)) y with h | h
      · exact h2 _ _ (by omega) h h6
      · rw [show (a + b) / 2 + m - 1 - (s - 1) = y by omega]; exact hS.irrefl _
    have k2 : lt d[s - 1]! d[x]! = false := by
      rcases Nat.lt_or_ge x (s - 1) with h | h
      · exact h1 _ _ h3 h (by omega)
      · rw [show s - 1 = x by omega]; exact hS.irrefl _
    exact hS.ntrans _ _ _ k1 (hS.ntrans _ _ _ hy k2)
  -- the right part's first against the left part's last
  have high : ∀ x y, m ≤ x → x < (a + b) / 2 + m - s → s ≤ y → y < m → lt d[y]! d[x]! = false := fun x y h3 h4 h5 h6 => by
    have hls : s < hiOf a m b := by
      rcases Nat.lt_or_ge s (hiOf a m b) with h | h
      · exact h
      · rcases lohi_or a m b with ⟨x1, x2, x3⟩ | ⟨x1, x2, x3⟩ <;> omega
    have hy := hh.no s (Nat.le_refl _) hls
    simp only [Bool.not_eq_false'] at hy
    have k1 : lt d[(a + b) / 2 + m - 1 - s]! d[x]! = false := by
      rcases Nat.lt_or_ge x ((a + b) / 2 + m - 1 - s) with h | h
      · exact h2 _ _ h3 h (by omega)
      · rw [show (a + b) / 2 + m - 1 - s = x by omega]; exact hS.irrefl _
    have k2 : lt d[y]! d[s]! = false := by
      rcases Nat.lt_or_ge s y with h | h
      · exact h1 _ _ (by omega) h h6
      · rw [show y = s by omega]; exact hS.irrefl _
    exact hS.ntrans _ _ _ k2 (hS.ntrans _ _ _ (SWO.asymmA hS hy) k1)
  refine ⟨?_, ?_, ?_, ?_, ?_⟩
  · intro p q h3 h4 h5
    rw [at1 p (by omega), at1 q h5]; exact h1 p q h3 h4 (by omega)
  · intro p q h3 h4 h5
    rw [at2 p h3 (by omega), at2 q (by omega) h5]; exact h2 _ _ (by omega) (by omega) (by omega)
  · intro p q h3 h4 h5
    rw [at3 p h3 (by omega), at3 q (by omega) h5]; exact h1 _ _ (by omega) (by omega) (by omega)
  · intro p q h3 h4 h5
    rw [at4 p h3, at4 q (by omega)]; exact h2 p q (by omega) h4 h5
  · intro p q h3 h4 h5 h6
    by_cases cp : p < s
    · rw [at1 p cp]
      by_cases cq : q < (a + b) / 2 + m - s
      · rw [at3 q h5 cq]
        exact h1 _ _ h3 (by omega) (by omega)
      · rw [at4 q (by omega)]
        exact low p q h3 cp (by omega) h6
    · rw [at2 p (by omega) h4]
      by_cases cq : q < (a + b) / 2 + m - s
      · rw [at3 q h5 cq]
        exact high _ _ (by omega) (by omega) (by omega) (by omega)
      · rw [at4 q (by omega)]
        exact h2 _ _ (by omega) (by omega) h6
theorem sorted_same {a b : Nat} {d d' : Array α} (h : SortedIn lt a b d) (he : ∀ p, a ≤ p → p < b → d'[p]! = d[p]!) : SortedIn lt a b d' := by
  intro p q h1 h2 h3
  rw [he p h1 (by omega), he q (by omega) h3]; exact h p q h1 h2 h3
theorem sorted_one {a b m : Nat} {d : Array α} (h1 : SortedIn lt a m d) (h2 : SortedIn lt m b d) (h : ¬ (a < m ∧ m < b)) (ha : a ≤ m) (hb : m ≤ b) : SortedIn lt a b d := by
  by_cases c : a < m
  · rw [show b = m by omega]; exact h1
  · rw [show a = m by omega]; exact h2
/-- Both halves put in order: all is. -/
theorem halves_sorted {a mid b : Nat} {d1 d2 d3 : Array α} (hab : a ≤ mid) (hmb : mid ≤ b) (hb : b ≤ d1.size) (h : ∀ p q, a ≤ p → p < mid → mid ≤ q → q < b → lt d1[q]! d1[p]! = false)
    (p2 : PermIn a mid d1 d2) (s2 : SortedIn lt a mid d2) (p3 : PermIn mid b d2 d3) (s3 : SortedIn lt mid b d3) : SortedIn lt a b d3 ∧ PermIn a b d1 d3 := by
  refine ⟨fun p q h1 h2 h3 => ?_, permIn_trans _ _ _ _ _ (permIn_mono _ _ _ _ _ _ (Nat.le_refl _) hmb hb p2) (permIn_mono _ _ _ _ _ _ hab (Nat.le_refl _) (by rw [p2.1]; exact hb) p3)⟩
  have e3 : ∀ p, p < mid → d3[p]! = d2[p]! := fun p hp => p3.2.1 p (Or.inl hp)
  by_cases cq : q < mid
  · rw [e3 p (by omega), e3 q cq]; exact s2 p q h1 h2 cq
  · by_cases cp : p < mid
    · rw [e3 p cp]
      have s4 : ∀ p', a ≤ p' → p' < mid → lt d3[q]! d1[p']! = false := fun p' h5 h6 =>
        permIn_all d2 d3 mid b (fun x => lt x d1[p']! = false) (by rw [p2.1]; exact hb) p3 (fun i h7 h8 => by rw [p2.2.1 i (Or.inr h7)]; exact h p' i h5 h6 h7 h8) q (by omega) h3
      exact permIn_all d1 d2 a mid (fun x => lt d3[q]! x = false) (by omega) p2 (fun i h7 h8 => s4 i h7 h8) p h1 cp
    · exact s3 p q (by omega) h2 h3

/-! ### blocks -/
/-- Each block of so many elements is in order. -/
def Blocks (lt : α → α → Bool) (s : Nat) (d0 d : Array α) : Prop := PermIn 0 d0.size d0 d ∧ ∀ t, SortedIn lt (t * s) (min ((t + 1) * s) d0.size) d
/-- The first t blocks of s are in order. -/
structure Firsts (lt : α → α → Bool) (s t : Nat) (d0 d : Array α) : Prop where
  perm : PermIn 0 d0.size d0 d
  done : ∀ u, u < t → SortedIn lt (u * s) ((u + 1) * s) d
theorem Firsts.start (lt : α → α → Bool) (s : Nat) (d0 : Array α) : Firsts lt s 0 d0 d0 := ⟨permIn_refl _ _ _, fun u h => by omega⟩
theorem mul_le (s : Nat) {u t : Nat} (h : u < t) : (u + 1) * s ≤ t * s := Nat.mul_le_mul_right s h
theorem Firsts.step {s t : Nat} {d0 d d' : Array α} (h : Firsts lt s t d0 d) (hb : (t + 1) * s ≤ d0.size) (hp : PermIn (t * s) ((t + 1) * s) d d') (hs : SortedIn lt (t * s) ((t + 1) * s) d') : Firsts lt s (t + 1) d0 d' := by
  refine ⟨permIn_trans _ _ _ _ _ h.perm (permIn_mono _ _ _ _ _ _ (Nat.zero_le _) hb (by rw [h.perm.1]; exact Nat.le_refl _) hp), fun u hu => ?_⟩
  rcases Nat.lt_or_ge u t with c | c
  · exact sorted_same (h.done u c) fun p h1 h2 => hp.2.1 p (Or.inl (by have := mul_le s c; omega))
  · rw [show u = t by omega]; exact hs
theorem Firsts.stop {s t : Nat} {d0 d d' : Array α} (h : Firsts lt s t d0 d) (_hb : d0.size < (t + 1) * s) (hp : PermIn (t * s) d0.size d d') (hs : SortedIn lt (t * s) d0.size d') : Blocks lt s d0 d' := by
  refine ⟨permIn_trans _ _ _ _ _ h.perm (permIn_mono _ _ _ _ _ _ (Nat.zero_le _) (Nat.le_refl _) (by rw [h.perm.1]; exact Nat.le_refl _) hp), fun u => ?_⟩
  rcases Nat.lt_or_ge u t with c | c
  · intro p q h1 h2 h3
    have hm := mul_le s c
    refine (sorted_same (h.done u c) fun p h1 h2 => hp.2.1 p (Or.inl (by omega))) p q h1 h2 (by omega)
  · intro p q h1 h2 h3
    have hm : t * s ≤ u * s := Nat.mul_le_mul_right s c
    exact hs p q (by omega) h2 (by omega)
/-- Of the double blocks t are in order, from there on the blocks. -/
structure Under (lt : α → α → Bool) (s t : Nat) (d0 d : Array α) : Prop where
  perm : PermIn 0 d0.size d0 d
  done : ∀ u, u < t → SortedIn lt (u * (2 * s)) ((u + 1) * (2 * s)) d
  rest : ∀ u, 2 * t ≤ u → SortedIn lt (u * s) (min ((u + 1) * s) d0.size) d
theorem Under.start {s : Nat} {d0 d : Array α} (h : Blocks lt s d0 d) : Under lt s 0 d0 d := ⟨h.1, fun u hu => by omega, fun u _ => h.2 u⟩
theorem dbl (t s : Nat) : t * (2 * s) = (2 * t) * s := by rw [Nat.mul_comm 2 t, Nat.mul_assoc]
theorem dbl1 (t s : Nat) : (2 * t + 1) * s = t * (2 * s) + s := by rw [Nat.add_mul, Nat.one_mul, dbl]
theorem dbl2 (t s : Nat) : (t + 1) * (2 * s) = t * (2 * s) + 2 * s := by rw [Nat.add_mul, Nat.one_mul]
theorem dbl3 (t s : Nat) : (2 * t + 1 + 1) * s = t * (2 * s) + 2 * s := by rw [show 2 * t + 1 + 1 = 2 * (t + 1) by omega, ← dbl, dbl2]
theorem Under.left {s t : Nat} {d0 d : Array α} (h : Under lt s t d0 d) (hb : t * (2 * s) + s ≤ d0.size) : SortedIn lt (t * (2 * s)) (t * (2 * s) + s) d := by
  have := h.rest (2 * t) (Nat.le_refl _)
  rw [dbl1, ← dbl, Nat.min_eq_left hb] at this
  exact this
theorem Under.right {s t : Nat} {d0 d : Array α} (h : Under lt s t d0 d) : SortedIn lt (t * (2 * s) + s) (min (t * (2 * s) + 2 * s) d0.size) d := by
  have := h.rest (2 * t + 1) (by omega)
  rw [dbl1, dbl3] at this
  exact this
theorem Under.step {s t : Nat} {d0 d d' : Array α} (h : Under lt s t d0 d) (hb : t * (2 * s) + 2 * s ≤ d0.size) (hp : PermIn (t * (2 * s)) (t * (2 * s) + 2 * s) d d') (hs : SortedIn lt (t * (2 * s)) (t * (2 * s) + 2 * s) d') : Under lt s (t + 1) d0 d' := by
  refine ⟨permIn_trans _ _ _ _ _ h.perm (permIn_mono _ _ _ _ _ _ (Nat.zero_le _) hb (by rw [h.perm.1]; exact Nat.le_refl _) hp), fun u hu => ?_, fun u hu => ?_⟩
  · rcases Nat.lt_or_ge u t with c | c
    · exact sorted_same (h.done u c) fun p h1 h2 => hp.2.1 p (Or.inl (by have := mul_le (2 * s) c; omega))
    · rw [show u = t by omega, dbl2]; exact hs
  · refine sorted_same (h.rest u (by omega)) fun p h1 h2 => hp.2.1 p (Or.inr ?_)
    have : (2 * (t + 1)) * s ≤ u * s := Nat.mul_le_mul_right s hu
    rw [← dbl, dbl2] at this
    omega
theorem Under.stop {s t : Nat} {d0 d d' : Array α} (h : Under lt s t d0 d) (_hb : d0.size < t * (2 * s) + 2 * s) (hp : PermIn (t * (2 * s)) d0.size d d') (hs : SortedIn lt (t * (2 * s)) d0.size d') : Blocks lt (2 * s) d0 d' := by
  refine ⟨permIn_trans _ _ _ _ _ h.perm (permIn_mono _ _ _ _ _ _ (Nat.zero_le _) (Nat.le_refl _) (by rw [h.perm.1]; exact Nat.le_refl _) hp), fun u => ?_⟩
  rcases Nat.lt_or_ge u t with c | c
  · intro p q h1 h2 h3
    have hm := mul_le (2 * s) c
    refine (sorted_same (h.done u c) fun p h1 h2 => hp.2.1 p (Or.inl (by omega))) p q h1 h2 (by omega)
  · intro p q h1 h2 h3
    have hm : t * (2 * s) ≤ u * (2 * s) := Nat.mul_le_mul_right _ c
    exact hs p q (by omega) h2 (by omega)
theorem Under.alone {s t : Nat} {d0 d : Array α} (h : Under lt s t d0 d) (hb : d0.size ≤ t * (2 * s) + s) : SortedIn lt (t * (2 * s)) d0.size d := by
  have := h.rest (2 * t) (Nat.le_refl _)
  rw [dbl1, ← dbl, Nat.min_eq_right hb] at this
  exact this
theorem Blocks.all {s : Nat} {d0 d : Array α} (h : Blocks lt s d0 d) (hs : d0.size ≤ s) : SortedIn lt 0 d0.size d := by
  have := h.2 0
  rw [Nat.zero_mul, Nat.zero_add, Nat.one_mul, Nat.min_eq_right hs] at this
  exact this
end Go.Proofs.Ytphinkcfmdnpfaa
