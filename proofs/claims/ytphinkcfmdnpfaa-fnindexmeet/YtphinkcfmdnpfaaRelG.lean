/-
  Plain: what a key has at a point, in tables that were changed; the rows of all other keys.
-/
import Derived.Test.YtphinkcfmdnpfaaRelAtS
import Derived.Test.YtphinkcfmdnpfaaRelQ
namespace Go.Proofs.Ytphinkcfmdnpfaa
open Go.RowKit

def getP (key : ByteArray) : List PairV → ByteArray
  | [] => ⟨#[]⟩
  | p :: l => if (p.k.toList == key.toList) = true then p.t else getP key l
def getR (key : ByteArray) (c : Int) : List RowV → ByteArray
  | [] => ⟨#[]⟩
  | x :: l => if ((x.k.toList == key.toList) && hasB x.f x.e c) = true then x.t else getR key c l
theorem getP_eq (key : ByteArray) (c : Int) : ∀ zs : List RowV, getP key ((zs.filter fun x => hasB x.f x.e c).map pairOf) = getR key c zs
  | [] => rfl
  | x :: l => by
    rw [List.filter_cons]
    by_cases h : hasB x.f x.e c = true
    · rw [if_pos h, List.map_cons, getP, getR, h, Bool.and_true, getP_eq key c l]
      rfl
    · have h' : hasB x.f x.e c = false := by simpa using h
      rw [if_neg h, getR, h', Bool.and_false, if_neg (by simp)]
      exact getP_eq key c l
def relGetL (zs : List RowV) (key : ByteArray) (c : Int) : ByteArray := getP key (relAtL zs c)
theorem relGetL_no {zs : List RowV} {key : ByteArray} {c : Int} (h : relOk zs = false) : relGetL zs key c = ⟨#[]⟩ := by simp [relGetL, relAtL, h, getP]
theorem relGetL_ok {zs : List RowV} {key : ByteArray} {c : Int} (h : relOk zs = true) : relGetL zs key c = getR key c zs := by
  rw [relGetL, relAtL, if_pos h, atTo, List.take_length, getP_eq]

theorem drop_at {α : Type} {l : List α} {i : Nat} {x : α} (h : l[i]? = some x) : l.drop i = x :: l.drop (i + 1) := by
  obtain ⟨hi, rfl⟩ := List.getElem?_eq_some_iff.1 h
  exact List.drop_eq_getElem_cons hi
theorem ret_text {a b : ByteArray} (h : a = b) : Ending.returned (.string a) = .returned (.string b) := by rw [h]

set_option maxRecDepth 100000 in
set_option maxHeartbeats 2000000 in
theorem textIn_any (A : Option Addr) (cap : Nat) (ps : List PairV) (key : ByteArray) (w : World) (hz : PairsA w A ps) (hpl : ps.length ≤ 1048577) :
    Calls Try.prog 75 #[.slice A ps.length cap, .string key] w fun e w' => e = .returned (.string (getP key ps)) ∧ Below w.heap.size w w' := by
  have HA := Lib.hid hz
  clear hz
  go_enter Try.func75, Try.ntmps75
  go_wp2
  go_loopw [9] (fun i wr => ∃ k : Nat, k ≤ ps.length ∧ i = .int .i64 k ∧ getP key (ps.drop k) = getP key ps ∧ Below w.heap.size w wr) (fun i _ => ps.length - (intOf i).toNat)
  case atStart => exact ⟨0, Nat.zero_le _, rfl, rfl, Below.refl _ _⟩
  case round =>
    obtain ⟨k, hk, rfl, hg, hbr⟩ := hrel
    have HG := Lib.hid hg
    clear hg
    by_cases hlt : k < ps.length
    · obtain ⟨b, off, x, rfl, hb, hx, c0, c1⟩ := (HA.out.below hbr).at_ hlt
      have HD := Lib.hid (drop_at hx)
      have B3 := Lib.hid (hbr.alloc hbr.size (.cells #[.string x.k, .string x.t] 44))
      clear hx
      cases hkey : (x.k.toList == key.toList)
      · have HK := Lib.hid (show getP key (ps.drop (k + 1)) = getP key ps from by rw [← HG.out, HD.out, getP, if_neg (by rw [hkey]; simp)])
        go_wp2
        go_roundw
        case rel => exact ⟨k + 1, by omega, by go_num, HK.out, B3.out⟩
        case measure => simp [intOf]; omega
      · have HK := Lib.hid (show getP key ps = x.t from by rw [← HG.out, HD.out, getP, if_pos hkey])
        go_wp2
        go_ret
        exact ⟨ret_text HK.out.symm, B3.out⟩
    · obtain rfl : k = ps.length := by omega
      have HK := Lib.hid (show getP key ps = ⟨#[]⟩ from by rw [← HG.out, List.drop_length]; rfl)
      go_wp2
      go_ret
      exact ⟨ret_text HK.out.symm, hbr⟩

set_option maxHeartbeats 2000000 in
theorem RelGet_any (A : Option Addr) (cap : Nat) (zs : List RowV) (key : ByteArray) (c : Int) (w : World) (hz : RowsA w A zs) (hl : zs.length ≤ 1048577) (hs : ∀ r ∈ zs, r.k.size ≤ maxLen ∧ r.t.size ≤ maxLen) :
    Calls Try.prog 24 #[.slice A zs.length cap, .string key, .int .i64 c] w fun e w' => e = .returned (.string (relGetL zs key c)) ∧ Below w.heap.size w w' := by
  have HZ := Lib.hid hz
  have HS := Lib.hid hs
  have hpl := relAtL_len zs c
  obtain ⟨ps, hps⟩ : ∃ ps, relAtL zs c = ps := ⟨_, rfl⟩
  rw [hps] at hpl
  have HR := Lib.hid (show relGetL zs key c = getP key ps from by rw [relGetL, hps])
  have HP := Lib.hid hps
  clear hz hs hps
  go_enter Try.func24, Try.ntmps24
  go_wp2_with fail
  refine (RelAt_any _ _ _ _ _ HZ.out hl HS.out).mono ?_
  rw [HP.out]
  rintro e w1 ⟨A1, c1, rfl, ho1, hb1⟩
  have HA := Lib.hid (show PairsA w1 A1 ps from el_of_owns pairC_len ho1)
  have B1 := Lib.hid hb1
  clear ho1 hb1
  go_wp2_with fail
  refine (textIn_any _ _ _ _ _ HA.out (by omega)).mono ?_
  rintro e w2 ⟨rfl, hb2⟩
  have B2 := Lib.hid (B1.out.trans (hb2.mono B1.out.size))
  clear hb2
  go_wp2
  go_ret
  exact ⟨ret_text HR.out.symm, B2.out⟩

end Go.Proofs.Ytphinkcfmdnpfaa
namespace Go.Proofs.Ytphinkcfmdnpfaa
open Go.RowKit

/-- A key has a text at a point. -/
def held (l : List RowV) (k t : ByteArray) (c : Int) : Prop := ∃ x ∈ l, x.k = k ∧ x.t = t ∧ x.f ≤ c ∧ c < x.e
/-- One row ahead of another, and the two do not touch with the same text. -/
def lead (x y : RowV) : Prop := kl x.k y.k = true ∨ (x.k = y.k ∧ (x.e < y.f ∨ (x.e = y.f ∧ x.t ≠ y.t)))
def Tight (l : List RowV) : Prop := l.Pairwise lead
theorem lead_of {y x : RowV} (h : leadB y x = true) : lead y x := by
  unfold leadB at h
  by_cases hk : (y.k.toList == x.k.toList) = true
  · rw [if_pos hk, Bool.and_eq_true, decide_eq_true_eq] at h
    refine .inr ⟨same_key.1 hk, ?_⟩
    by_cases he : y.e = x.f
    · refine .inr ⟨he, fun ht => ?_⟩
      have h2 := h.2
      rw [same_key.2 ht] at h2
      simp [he] at h2
    · exact .inl (by omega)
  · rw [if_neg hk] at h
    exact .inl h
theorem lead_trans {x y z : RowV} (hy : y.f < y.e) (h1 : lead x y) (h2 : lead y z) : lead x z := by
  rcases h1 with h1 | ⟨h1, h1'⟩ <;> rcases h2 with h2 | ⟨h2, h2'⟩
  · exact .inl (kl_trans h1 h2)
  · exact .inl (h2 ▸ h1)
  · exact .inl (h1 ▸ h2)
  · refine .inr ⟨h1.trans h2, .inl ?_⟩
    rcases h1' with h1' | ⟨h1', _⟩ <;> rcases h2' with h2' | ⟨h2', _⟩ <;> omega
theorem tight_go : ∀ (l : List RowV) (y : RowV), leadsGo y l = true → (∀ x ∈ l, spanOk x) → Tight (y :: l)
  | [], y, _, _ => List.pairwise_singleton _ _
  | x :: l, y, h, hs => by
    rw [leadsGo, Bool.and_eq_true, Bool.and_eq_true] at h
    have hl := lead_of h.1.2
    have ht := tight_go l x h.2 (fun z hz => hs z (List.mem_cons_of_mem _ hz))
    refine List.pairwise_cons.2 ⟨fun z hz => ?_, ht⟩
    rcases List.mem_cons.1 hz with rfl | hz
    · exact hl
    · exact lead_trans (hs x (List.mem_cons_self ..)).2.1 hl ((List.pairwise_cons.1 ht).1 z hz)
theorem tight_rel {l : List RowV} (h : relOk l = true) : (∀ x ∈ l, spanOk x) ∧ Tight l := by
  have hs : ∀ x ∈ l, spanOk x := fun x hx => (rowOk_iff.1 ((rel_apart h).1 x hx)).2.2
  refine ⟨hs, ?_⟩
  have h2 := ((relOk_iff l).1 h).2
  cases l with
  | nil => exact List.Pairwise.nil
  | cons y l =>
    rw [relAll, Bool.and_eq_true] at h2
    exact tight_go l y h2.2 (fun x hx => hs x (List.mem_cons_of_mem _ hx))

theorem held_least {x : RowV} {l : List RowV} (t1 : ∀ z ∈ l, lead x z) (hx : x.f < x.e) {k t : ByteArray} {c : Int} (hh : held (x :: l) k t c) : kl x.k k = true ∨ (x.k = k ∧ x.f ≤ c) := by
  obtain ⟨z, hz, rfl, rfl, h1, h2⟩ := hh
  rcases List.mem_cons.1 hz with rfl | hz
  · exact .inr ⟨rfl, h1⟩
  · rcases t1 z hz with h | ⟨hk, h⟩
    · exact .inl h
    · exact .inr ⟨hk, by rcases h with h | ⟨h, _⟩ <;> omega⟩
theorem held_only {x : RowV} {l : List RowV} (t1 : ∀ z ∈ l, lead x z) {t : ByteArray} {c : Int} (hh : held (x :: l) x.k t c) (hc : c < x.e) : t = x.t := by
  obtain ⟨z, hz, hk, rfl, h1, h2⟩ := hh
  rcases List.mem_cons.1 hz with rfl | hz
  · rfl
  · rcases t1 z hz with h | ⟨_, h⟩
    · rw [hk, kl_irrefl] at h; cases h
    · exfalso
      rcases h with h | ⟨h, _⟩ <;> omega
theorem held_after {x : RowV} {l : List RowV} (t1 : ∀ z ∈ l, lead x z) : ¬ held (x :: l) x.k x.t x.e := by
  rintro ⟨z, hz, hk, ht, h1, h2⟩
  rcases List.mem_cons.1 hz with rfl | hz
  · omega
  · rcases t1 z hz with h | ⟨_, h⟩
    · rw [hk, kl_irrefl] at h; cases h
    · rcases h with h | ⟨h, hn⟩
      · omega
      · exact hn ht.symm
theorem held_tail {x : RowV} {l : List RowV} (t1 : ∀ z ∈ l, lead x z) {k t : ByteArray} {c : Int} : held l k t c ↔ held (x :: l) k t c ∧ ¬ (x.k = k ∧ x.f ≤ c ∧ c < x.e) := by
  constructor
  · rintro ⟨z, hz, rfl, rfl, h1, h2⟩
    refine ⟨⟨z, List.mem_cons_of_mem _ hz, rfl, rfl, h1, h2⟩, ?_⟩
    rintro ⟨hk, h3, h4⟩
    rcases t1 z hz with h | ⟨_, h⟩
    · rw [hk, kl_irrefl] at h; cases h
    · rcases h with h | ⟨h, _⟩ <;> omega
  · rintro ⟨⟨z, hz, hk, ht, h1, h2⟩, hn⟩
    rcases List.mem_cons.1 hz with rfl | hz
    · exact absurd ⟨hk, h1, h2⟩ hn
    · exact ⟨z, hz, hk, ht, h1, h2⟩
theorem known : ∀ (a b : List RowV), (∀ x ∈ a, spanOk x) → (∀ x ∈ b, spanOk x) → Tight a → Tight b → (∀ k t c, held a k t c ↔ held b k t c) → a = b
  | [], [], _, _, _, _, _ => rfl
  | [], y :: b, _, sb, _, _, h => by
    have hy := sb y (List.mem_cons_self ..)
    obtain ⟨z, hz, _⟩ := (h y.k y.t y.f).2 ⟨y, List.mem_cons_self .., rfl, rfl, Int.le_refl _, hy.2.1⟩
    cases hz
  | x :: a, [], sa, _, _, _, h => by
    have hx := sa x (List.mem_cons_self ..)
    obtain ⟨z, hz, _⟩ := (h x.k x.t x.f).1 ⟨x, List.mem_cons_self .., rfl, rfl, Int.le_refl _, hx.2.1⟩
    cases hz
  | x :: a, y :: b, sa, sb, ta, tb, h => by
    obtain ⟨ta1, ta2⟩ := List.pairwise_cons.1 ta
    obtain ⟨tb1, tb2⟩ := List.pairwise_cons.1 tb
    have hx := sa x (List.mem_cons_self ..)
    have hy := sb y (List.mem_cons_self ..)
    have ax := (h x.k x.t x.f).1 ⟨x, List.mem_cons_self .., rfl, rfl, Int.le_refl _, hx.2.1⟩
    have ay := (h y.k y.t y.f).2 ⟨y, List.mem_cons_self .., rfl, rfl, Int.le_refl _, hy.2.1⟩
    have h1 := held_least ta1 hx.2.1 ay
    have h2 := held_least tb1 hy.2.1 ax
    have hk : x.k = y.k ∧ x.f = y.f := by
      rcases h1 with h1 | ⟨h1, h1'⟩ <;> rcases h2 with h2 | ⟨h2, h2'⟩
      · rw [kl_asymm h1] at h2; cases h2
      · rw [h2, kl_irrefl] at h1; cases h1
      · rw [h1, kl_irrefl] at h2; cases h2
      · exact ⟨h1, by omega⟩
    obtain ⟨hk, hf⟩ := hk
    have ht : x.t = y.t := held_only tb1 (c := x.f) (by rw [← hk]; exact ax) (by have := hy.2.1; omega)
    have he : x.e = y.e := by
      rcases Int.lt_trichotomy x.e y.e with hl | hl | hl
      · have := (h y.k y.t x.e).2 ⟨y, List.mem_cons_self .., rfl, rfl, by have := hx.2.1; omega, hl⟩
        rw [← hk, ← ht] at this
        exact absurd this (held_after ta1)
      · exact hl
      · have := (h x.k x.t y.e).1 ⟨x, List.mem_cons_self .., rfl, rfl, by have := hy.2.1; omega, hl⟩
        rw [hk, ht] at this
        exact absurd this (held_after tb1)
    have hxy : x = y := by
      cases x
      cases y
      simp only at hk hf ht he
      subst hk hf ht he
      rfl
    subst hxy
    rw [known a b (fun z hz => sa z (List.mem_cons_of_mem _ hz)) (fun z hz => sb z (List.mem_cons_of_mem _ hz)) ta2 tb2 (fun k t c => by rw [held_tail ta1, held_tail tb1, h])]
theorem held_at {zs : List RowV} {k t : ByteArray} {c : Int} (h : relOk zs = true) : (⟨k, t⟩ : PairV) ∈ relAtL zs c ↔ held zs k t c := by
  rw [relAtL, if_pos h, atTo, List.take_length, List.mem_map]
  unfold held
  constructor
  · rintro ⟨x, hx, hp⟩
    obtain ⟨hx, hc⟩ := List.mem_filter.1 hx
    have hc' : x.f ≤ c ∧ c < x.e := by simpa [hasB] using hc
    have hp1 : x.k = k := congrArg PairV.k hp
    have hp2 : x.t = t := congrArg PairV.t hp
    exact ⟨x, hx, hp1, hp2, hc'⟩
  · rintro ⟨x, hx, rfl, rfl, hc⟩
    exact ⟨x, List.mem_filter.2 ⟨hx, by simpa [hasB] using hc⟩, rfl⟩
/-- Two tables that have the same at each point are the same. -/
theorem rel_known {a b : List RowV} (ha : relOk a = true) (hb : relOk b = true) (h : ∀ c, 0 ≤ c → c < 100 → relAtL a c = relAtL b c) : a = b := by
  obtain ⟨sa, ta⟩ := tight_rel ha
  obtain ⟨sb, tb⟩ := tight_rel hb
  refine known a b sa sb ta tb (fun k t c => ⟨fun hh => ?_, fun hh => ?_⟩)
  · have hc : 0 ≤ c ∧ c < 100 := by
      obtain ⟨x, hx, _, _, h1, h2⟩ := hh
      obtain ⟨s1, s2, s3⟩ := sa x hx
      omega
    rw [← held_at hb, ← h c hc.1 hc.2, held_at ha]
    exact hh
  · have hc : 0 ≤ c ∧ c < 100 := by
      obtain ⟨x, hx, _, _, h1, h2⟩ := hh
      obtain ⟨s1, s2, s3⟩ := sb x hx
      omega
    rw [← held_at ha, h c hc.1 hc.2, held_at hb]
    exact hh
end Go.Proofs.Ytphinkcfmdnpfaa
namespace Go.Proofs.Ytphinkcfmdnpfaa
open Go.RowKit

theorem held_cons {x : RowV} {l : List RowV} {k t : ByteArray} {c : Int} : held (x :: l) k t c ↔ (x.k = k ∧ x.t = t ∧ x.f ≤ c ∧ c < x.e) ∨ held l k t c := by
  unfold held
  constructor
  · rintro ⟨y, hy, h⟩
    rcases List.mem_cons.1 hy with rfl | hy
    · exact .inl h
    · exact .inr ⟨y, hy, h⟩
  · rintro (h | ⟨y, hy, h⟩)
    · exact ⟨x, List.mem_cons_self .., h⟩
    · exact ⟨y, List.mem_cons_of_mem _ hy, h⟩
theorem held_mem {a b : List RowV} (h : ∀ x, x ∈ a ↔ x ∈ b) {k t : ByteArray} {c : Int} : held a k t c ↔ held b k t c :=
  ⟨fun ⟨x, hx, hh⟩ => ⟨x, (h x).1 hx, hh⟩, fun ⟨x, hx, hh⟩ => ⟨x, (h x).2 hx, hh⟩⟩
theorem held_app {a b : List RowV} {k t : ByteArray} {c : Int} : held (a ++ b) k t c ↔ held a k t c ∨ held b k t c := by
  unfold held
  constructor
  · rintro ⟨y, hy, h⟩
    rcases List.mem_append.1 hy with hy | hy
    · exact .inl ⟨y, hy, h⟩
    · exact .inr ⟨y, hy, h⟩
  · rintro (⟨y, hy, h⟩ | ⟨y, hy, h⟩)
    · exact ⟨y, List.mem_append_left _ hy, h⟩
    · exact ⟨y, List.mem_append_right _ hy, h⟩

theorem getR_held : ∀ {zs : List RowV}, Apart zs → ∀ {k t : ByteArray} {c : Int}, held zs k t c → getR k c zs = t
  | [], _, k, t, c, ⟨y, hy, _⟩ => by cases hy
  | x :: l, hp, k, t, c, h => by
    obtain ⟨h1, h2⟩ := List.pairwise_cons.1 hp
    rw [getR]
    by_cases hx : ((x.k.toList == k.toList) && hasB x.f x.e c) = true
    · rw [if_pos hx]
      rw [Bool.and_eq_true] at hx
      have hc : x.f ≤ c ∧ c < x.e := by simpa [hasB] using hx.2
      rcases held_cons.1 h with h | ⟨y, hy, e1, e2, e3, e4⟩
      · exact h.2.1
      · exfalso
        rcases h1 y hy with ha | ⟨_, ha⟩
        · rw [same_key.1 hx.1, e1, kl_irrefl] at ha; cases ha
        · omega
    · rw [if_neg hx]
      rcases held_cons.1 h with h | h
      · exact absurd (by rw [Bool.and_eq_true]; exact ⟨same_key.2 h.1, by simp [hasB, h.2.2]⟩) hx
      · exact getR_held h2 h
theorem getR_or (k : ByteArray) (c : Int) : ∀ zs : List RowV, (getR k c zs = ⟨#[]⟩ ∧ ∀ t, ¬ held zs k t c) ∨ held zs k (getR k c zs) c
  | [] => .inl ⟨rfl, fun t ⟨y, hy, _⟩ => by cases hy⟩
  | x :: l => by
    rw [getR]
    by_cases hx : ((x.k.toList == k.toList) && hasB x.f x.e c) = true
    · rw [if_pos hx]
      rw [Bool.and_eq_true] at hx
      have hc : x.f ≤ c ∧ c < x.e := by simpa [hasB] using hx.2
      exact .inr (held_cons.2 (.inl ⟨same_key.1 hx.1, rfl, hc.1, hc.2⟩))
    · rw [if_neg hx]
      rcases getR_or k c l with ⟨h1, h2⟩ | h
      · refine .inl ⟨h1, fun t ht => ?_⟩
        rcases held_cons.1 ht with h | h
        · exact absurd (by rw [Bool.and_eq_true]; exact ⟨same_key.2 h.1, by simp [hasB, h.2.2]⟩) hx
        · exact h2 t h
      · exact .inr (held_cons.2 (.inr h))
theorem get_held {zs : List RowV} (hz : relOk zs = true) {k t : ByteArray} {c : Int} (h : held zs k t c) : relGetL zs k c = t := by
  rw [relGetL_ok hz]
  exact getR_held (rel_apart hz).2 h
theorem held_text {zs : List RowV} (hz : relOk zs = true) {k t : ByteArray} {c : Int} (h : held zs k t c) : 1 ≤ t.size := by
  obtain ⟨x, hx, _, rfl, _⟩ := h
  have := (rowOk_iff.1 ((rel_apart hz).1 x hx)).2.1
  simp only [wordB, Bool.and_eq_true, decide_eq_true_eq] at this
  exact this.1.1
theorem get_or {zs : List RowV} (hz : relOk zs = true) (k : ByteArray) (c : Int) : (relGetL zs k c = ⟨#[]⟩ ∧ ∀ t, ¬ held zs k t c) ∨ (held zs k (relGetL zs k c) c ∧ 1 ≤ (relGetL zs k c).size) := by
  rw [relGetL_ok hz]
  rcases getR_or k c zs with h | h
  · exact .inl h
  · exact .inr ⟨h, held_text hz h⟩
theorem get_none {zs : List RowV} (hz : relOk zs = true) {k : ByteArray} {c : Int} (h : ∀ t, ¬ held zs k t c) : relGetL zs k c = ⟨#[]⟩ := by
  rcases get_or hz k c with h' | h'
  · exact h'.1
  · exact absurd h'.1 (h _)
theorem get_same {a b : List RowV} (ha : relOk a = true) (hb : relOk b = true) {k : ByteArray} {c : Int} (h : ∀ t, held a k t c ↔ held b k t c) : relGetL a k c = relGetL b k c := by
  rcases get_or ha k c with ⟨h1, h2⟩ | ⟨h1, _⟩
  · rw [h1, get_none hb (fun t ht => h2 t ((h t).2 ht))]
  · exact (get_held hb ((h _).1 h1)).symm

/-! ### rows that become one -/
theorem held_go : ∀ (l : List RowV) (y : RowV), y.f < y.e → (∀ x ∈ l, x.f < x.e) → ∀ k t c, held (joinGo y l) k t c ↔ held (y :: l) k t c
  | [], y, _, _, k, t, c => Iff.rfl
  | x :: l, y, hy, hl, k, t, c => by
    have hx := hl x (List.mem_cons_self ..)
    have hl' : ∀ z ∈ l, z.f < z.e := fun z hz => hl z (List.mem_cons_of_mem _ hz)
    rw [joinGo]
    by_cases ht : touchB y x = true
    · obtain ⟨h1, h2, h3⟩ := touch_iff.1 ht
      rw [if_pos ht, held_go l (joinR y x) (show y.f < x.e by omega) hl' k t c, held_cons, held_cons, held_cons]
      show (y.k = k ∧ y.t = t ∧ y.f ≤ c ∧ c < x.e) ∨ _ ↔ _
      constructor
      · rintro (⟨a, b, d, e⟩ | h)
        · by_cases hc : c < y.e
          · exact .inl ⟨a, b, d, hc⟩
          · exact .inr (.inl ⟨h1.symm.trans a, h2.symm.trans b, by omega, e⟩)
        · exact .inr (.inr h)
      · rintro (⟨a, b, d, e⟩ | ⟨a, b, d, e⟩ | h)
        · exact .inl ⟨a, b, d, by omega⟩
        · exact .inl ⟨h1.trans a, h2.trans b, by omega, e⟩
        · exact .inr h
    · rw [if_neg ht, held_cons, held_go l x hx hl' k t c, held_cons (x := y)]
theorem held_join {l : List RowV} (h : ∀ x ∈ l, x.f < x.e) {k t : ByteArray} {c : Int} : held (joinRows l) k t c ↔ held l k t c := by
  cases l with
  | nil => exact Iff.rfl
  | cons y l =>
    rw [joinRows_cons]
    exact held_go l y (h y (List.mem_cons_self ..)) (fun x hx => h x (List.mem_cons_of_mem _ hx)) k t c
theorem held_put {l : List RowV} {r : RowV} {k t : ByteArray} {c : Int} : held (putR l r) k t c ↔ (r.k = k ∧ r.t = t ∧ r.f ≤ c ∧ c < r.e) ∨ held l k t c := by
  rw [← held_cons]
  exact held_mem (fun x => by rw [putR_mem, List.mem_cons])

/-! ### what is cut out -/
theorem left_has {f e a b c : Int} (hab : a < b) (hfe : f < e) : (∃ p ∈ leftS f e a b, p.1 ≤ c ∧ c < p.2) ↔ f ≤ c ∧ c < e ∧ ¬ (a ≤ c ∧ c < b) := by
  unfold leftS
  by_cases h : max f a < min e b
  · rw [if_pos h]
    by_cases h1 : f < a <;> by_cases h2 : b < e <;> simp [h1, h2] <;> omega
  · rw [if_neg h]
    simp
    omega
theorem held_cutRow {key : ByteArray} {a b : Int} {x : RowV} (hab : a < b) (hx : x.f < x.e) {k t : ByteArray} {c : Int} : held (cutRow key a b x) k t c ↔ (x.k = k ∧ x.t = t ∧ x.f ≤ c ∧ c < x.e) ∧ ¬ (k = key ∧ a ≤ c ∧ c < b) := by
  unfold cutRow
  by_cases h : (x.k.toList == key.toList) = true
  · have hk := same_key.1 h
    rw [if_pos h]
    constructor
    · rintro ⟨y, hy, e1, e2, e3, e4⟩
      obtain ⟨p, hp, rfl⟩ := List.mem_map.1 hy
      have := (left_has (c := c) hab hx).1 ⟨p, hp, e3, e4⟩
      exact ⟨⟨e1, e2, this.1, this.2.1⟩, fun hh => this.2.2 hh.2⟩
    · rintro ⟨⟨e1, e2, e3, e4⟩, hn⟩
      obtain ⟨p, hp, h1, h2⟩ := (left_has (c := c) hab hx).2 ⟨e3, e4, fun hh => hn ⟨e1.symm.trans hk, hh⟩⟩
      exact ⟨⟨x.k, x.t, p.1, p.2⟩, List.mem_map.2 ⟨p, hp, rfl⟩, e1, e2, h1, h2⟩
  · rw [if_neg h]
    constructor
    · rintro ⟨y, hy, e1, e2, e3, e4⟩
      obtain rfl := List.mem_singleton.1 hy
      exact ⟨⟨e1, e2, e3, e4⟩, fun hh => h (same_key.2 (e1.trans hh.1))⟩
    · rintro ⟨hh, _⟩
      exact ⟨x, List.mem_singleton.2 rfl, hh⟩
theorem held_cut {zs : List RowV} {key : ByteArray} {a b : Int} (hab : a < b) (hz : ∀ x ∈ zs, x.f < x.e) {k t : ByteArray} {c : Int} : held (cutL zs key a b) k t c ↔ held zs k t c ∧ ¬ (k = key ∧ a ≤ c ∧ c < b) := by
  constructor
  · rintro ⟨y, hy, hh⟩
    obtain ⟨x, hx, hy⟩ := List.mem_flatMap.1 hy
    have := (held_cutRow hab (hz x hx)).1 ⟨y, hy, hh⟩
    exact ⟨⟨x, hx, this.1⟩, this.2⟩
  · rintro ⟨⟨x, hx, hh⟩, hn⟩
    obtain ⟨y, hy, h'⟩ := (held_cutRow hab (hz x hx)).2 ⟨hh, hn⟩
    exact ⟨y, List.mem_flatMap.2 ⟨x, hx, hy⟩, h'⟩

/-! ### the changes -/
theorem rel_len {zs : List RowV} (h : relOk zs = true) : ∀ x ∈ zs, x.f < x.e := fun x hx => (rowOk_iff.1 ((rel_apart h).1 x hx)).2.2.2.1
theorem fits_yes {l old x : List RowV} (h : fitsL l old = (x, true)) : l.length ≤ 24 ∧ x = l := by
  unfold fitsL at h
  by_cases hl : l.length ≤ 24
  · rw [if_pos hl] at h
    injection h with h _
    exact ⟨hl, h.symm⟩
  · rw [if_neg hl] at h
    injection h with _ h
    cases h
theorem fits_no {l old x : List RowV} (h : fitsL l old = (x, false)) : x = old := by
  unfold fitsL at h
  by_cases hl : l.length ≤ 24
  · rw [if_pos hl] at h
    injection h with _ h
    cases h
  · rw [if_neg hl] at h
    injection h with h _
    exact h.symm
theorem delete_facts {t x : List RowV} {key : ByteArray} {a b : Int} (ht : relOk t = true) (hab : a < b) (h : deleteL t key a b = (x, true)) :
    relOk x = true ∧ ∀ k s c, held x k s c ↔ held t k s c ∧ ¬ (k = key ∧ a ≤ c ∧ c < b) := by
  obtain ⟨hl, rfl⟩ := fits_yes h
  exact ⟨(relOk_iff _).2 ⟨hl, cut_rel hab ((relOk_iff t).1 ht).2⟩, fun k s c => held_cut hab (rel_len ht)⟩
theorem insert_facts {t x : List RowV} {r : RowV} (ht : relOk t = true) (h : insertL t r = (x, true)) :
    rowOk r = true ∧ holdsR t r = false ∧ relOk x = true ∧ ∀ k s c, held x k s c ↔ (r.k = k ∧ r.t = s ∧ r.f ≤ c ∧ c < r.e) ∨ held t k s c := by
  unfold insertL at h
  by_cases hc : rowOk r = true ∧ holdsR t r = false
  · rw [if_pos hc] at h
    obtain ⟨hl, rfl⟩ := fits_yes h
    obtain ⟨hr, hh⟩ := hc
    have hre : r.f < r.e := (rowOk_iff.1 hr).2.2.2.1
    have ha := putR_apart (rel_apart ht).2 (rel_len ht) hre hh
    have hv : ∀ y ∈ putR t r, rowOk y = true := fun y hy => by
      rcases putR_mem.1 hy with rfl | hy
      · exact hr
      · exact (rel_apart ht).1 y hy
    refine ⟨hr, hh, (relOk_join _ (fun y hy => (rowOk_iff.1 (hv y hy)).2.2)).2 ⟨hl, hv, ha⟩, fun k s c => ?_⟩
    rw [held_join (fun y hy => (rowOk_iff.1 (hv y hy)).2.2.2.1), held_put]
  · rw [if_neg hc] at h
    injection h with _ h
    cases h
theorem merge_apart {t : List RowV} {r : RowV} (ht : relOk t = true) (hr : rowOk r = true) :
    (∀ y ∈ putR (cutL t r.k r.f r.e) r, rowOk y = true) ∧ Apart (putR (cutL t r.k r.f r.e) r) := by
  have hre : r.f < r.e := (rowOk_iff.1 hr).2.2.2.1
  obtain ⟨h1, h2⟩ := rel_rows (cut_rel (key := r.k) hre ((relOk_iff t).1 ht).2)
  refine ⟨fun y hy => ?_, putR_apart h2 (fun x hx => (rowOk_iff.1 (h1 x hx)).2.2.2.1) hre (cut_holds (rel_len ht) hre)⟩
  rcases putR_mem.1 hy with rfl | hy
  · exact hr
  · exact h1 y hy
theorem merge_held {t : List RowV} {r : RowV} (ht : relOk t = true) (hr : rowOk r = true) (k s : ByteArray) (c : Int) :
    held (joinRows (putR (cutL t r.k r.f r.e) r)) k s c ↔ (r.k = k ∧ r.t = s ∧ r.f ≤ c ∧ c < r.e) ∨ (held t k s c ∧ ¬ (k = r.k ∧ r.f ≤ c ∧ c < r.e)) := by
  obtain ⟨h1, h2⟩ := merge_apart ht hr
  rw [held_join (fun y hy => (rowOk_iff.1 (h1 y hy)).2.2.2.1), held_put, held_cut (rowOk_iff.1 hr).2.2.2.1 (rel_len ht)]
theorem merge_facts {t x : List RowV} {r : RowV} (ht : relOk t = true) (hr : rowOk r = true) (h : mergeL t r = (x, true)) :
    relOk x = true ∧ ∀ k s c, held x k s c ↔ (r.k = k ∧ r.t = s ∧ r.f ≤ c ∧ c < r.e) ∨ (held t k s c ∧ ¬ (k = r.k ∧ r.f ≤ c ∧ c < r.e)) := by
  obtain ⟨hl, rfl⟩ := fits_yes h
  obtain ⟨h1, h2⟩ := merge_apart ht hr
  exact ⟨(relOk_join _ (fun y hy => (rowOk_iff.1 (h1 y hy)).2.2)).2 ⟨hl, h1, h2⟩, merge_held ht hr⟩
theorem update_facts {t x : List RowV} {r : RowV} (ht : relOk t = true) (hr : rowOk r = true) (h : updateL t r = (x, true)) :
    relOk x = true ∧ ∀ k s c, held x k s c ↔ (held t k s c ∧ ¬ (k = r.k ∧ r.f ≤ c ∧ c < r.e)) ∨ (r.k = k ∧ r.t = s ∧ r.f ≤ c ∧ c < r.e ∧ ∃ s', held t k s' c) := by
  obtain ⟨hl, rfl⟩ := fits_yes h
  have hre : r.f < r.e := (rowOk_iff.1 hr).2.2.2.1
  obtain ⟨h1, h2⟩ := rel_rows (cut_rel (key := r.k) hre ((relOk_iff t).1 ht).2)
  obtain ⟨u1, u2, u3⟩ := upd_rows ht hr
  obtain ⟨a, b, d⟩ := upd_lay (updRows t r) _ h2 h1 u1 u2 u3
  refine ⟨(relOk_join _ (fun y hy => (rowOk_iff.1 (b y hy)).2.2)).2 ⟨hl, b, a⟩, fun k s c => ?_⟩
  show held (joinRows ((updRows t r).foldl putR (cutL t r.k r.f r.e))) k s c ↔ _
  rw [held_join (fun y hy => (rowOk_iff.1 (b y hy)).2.2.2.1)]
  rw [held_mem (fun y => d.mem_iff), held_app, held_cut hre (rel_len ht)]
  refine or_congr Iff.rfl ⟨?_, ?_⟩
  · rintro ⟨y, hy, e1, e2, e3, e4⟩
    obtain ⟨z, hz, hy⟩ := List.mem_filterMap.1 hy
    obtain ⟨k1, k2, k3, k4, k5, k6, k7, k8⟩ := meet_in hy
    exact ⟨k1.symm.trans e1, k2.symm.trans e2, by omega, by omega, z.t, z, hz, k3.trans (k1.symm.trans e1), rfl, by omega, by omega⟩
  · rintro ⟨e1, e2, e3, e4, s', z, hz, f1, f2, f3, f4⟩
    have hm : meetB z r = true := by
      unfold meetB
      rw [Bool.and_eq_true, same_key, decide_eq_true_eq]
      exact ⟨f1.trans e1.symm, by omega⟩
    refine ⟨⟨r.k, r.t, max z.f r.f, min z.e r.e⟩, List.mem_filterMap.2 ⟨z, hz, by rw [meetRow, if_pos hm]⟩, e1, e2, ?_, ?_⟩ <;> dsimp only <;> omega

/-! ### all other keys -/
def othersL (zs : List RowV) (key : ByteArray) : List RowV := zs.filter fun x => !(x.k.toList == key.toList)
theorem held_others {zs : List RowV} {key k t : ByteArray} {c : Int} : held (othersL zs key) k t c ↔ held zs k t c ∧ k ≠ key := by
  unfold othersL
  constructor
  · rintro ⟨y, hy, e1, hh⟩
    obtain ⟨hy, hn⟩ := List.mem_filter.1 hy
    refine ⟨⟨y, hy, e1, hh⟩, fun e => ?_⟩
    rw [same_key.2 (e1.trans e)] at hn
    cases hn
  · rintro ⟨⟨y, hy, e1, hh⟩, hn⟩
    refine ⟨y, List.mem_filter.2 ⟨hy, ?_⟩, e1, hh⟩
    cases he : (y.k.toList == key.toList) with
    | false => rfl
    | true => exact absurd (e1.symm.trans (same_key.1 he)) hn
theorem others_eq {a b : List RowV} {key : ByteArray} (ha : relOk a = true) (hb : relOk b = true) (h : ∀ k t c, k ≠ key → (held a k t c ↔ held b k t c)) : othersL a key = othersL b key := by
  obtain ⟨sa, ta⟩ := tight_rel ha
  obtain ⟨sb, tb⟩ := tight_rel hb
  refine known _ _ (fun x hx => sa x (List.mem_filter.1 hx).1) (fun x hx => sb x (List.mem_filter.1 hx).1) (ta.sublist List.filter_sublist) (tb.sublist List.filter_sublist) (fun k t c => ?_)
  rw [held_others, held_others]
  exact ⟨fun ⟨h1, h2⟩ => ⟨(h k t c h2).1 h1, h2⟩, fun ⟨h1, h2⟩ => ⟨(h k t c h2).2 h1, h2⟩⟩
theorem others_len (zs : List RowV) (key : ByteArray) : (othersL zs key).length ≤ zs.length := List.length_filter_le _ _
theorem others_take {zs : List RowV} {key : ByteArray} {k : Nat} {x : RowV} (hx : zs[k]? = some x) : othersL (zs.take (k + 1)) key = othersL (zs.take k) key ++ (if (x.k.toList == key.toList) = true then [] else [x]) := by
  obtain ⟨hk, rfl⟩ := List.getElem?_eq_some_iff.1 hx
  unfold othersL
  rw [List.take_succ_eq_append_getElem hk, List.filter_append]
  cases h : (zs[k].k.toList == key.toList) <;> simp [h]

/-! ### moved -/
theorem at_move {n c : Int} (h0 : 0 ≤ c) (h1 : c < 100) : ∀ zs : List RowV, (((moveL zs n).filter fun x => hasB x.f x.e c).map pairOf) = ((zs.filter fun x => hasB x.f x.e (c - n)).map pairOf)
  | [] => rfl
  | x :: l => by
    have ih := at_move (n := n) h0 h1 l
    unfold moveL at ih ⊢
    rw [List.filterMap_cons, List.filter_cons (x := x)]
    unfold moveRow
    by_cases hm : max (x.f + n) 0 < min (x.e + n) 100
    · rw [if_pos hm]
      simp only
      rw [List.filter_cons]
      have he : hasB (max (x.f + n) 0) (min (x.e + n) 100) c = hasB x.f x.e (c - n) := by
        unfold hasB
        rw [decide_eq_decide]
        omega
      rw [he]
      by_cases hh : hasB x.f x.e (c - n) = true
      · rw [if_pos hh, if_pos hh, List.map_cons, List.map_cons]
        exact congrArg _ ih
      · rw [if_neg hh, if_neg hh]
        exact ih
    · rw [if_neg hm]
      simp only
      have he : hasB x.f x.e (c - n) = false := by
        unfold hasB
        rw [decide_eq_false_iff_not]
        omega
      rw [he, if_neg (by simp)]
      exact ih
theorem move_ok {zs : List RowV} (n : Int) (h : relOk zs = true) : relOk (moveL zs n) = true := by
  have := move_len zs n
  have h2 := (relOk_iff zs).1 h
  exact (relOk_iff _).2 ⟨by omega, move_rel n h2.2⟩
theorem relAt_move {zs : List RowV} {n c : Int} (h : relOk zs = true) (h0 : 0 ≤ c) (h1 : c < 100) : relAtL (moveL zs n) c = relAtL zs (c - n) := by
  rw [relAtL, if_pos (move_ok n h), relAtL, if_pos h, atTo, atTo, List.take_length, List.take_length]
  exact at_move h0 h1 zs
end Go.Proofs.Ytphinkcfmdnpfaa
