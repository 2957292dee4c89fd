/-
  Plain: a store without versions that nobody sees any more is a store, and from that stamp on it is what it was.
-/
import Derived.Test.YtacddgipcafdlaaPruC
import Derived.Test.YtacddgipcafdlaaStoreD
namespace Go.Proofs.Ytacddgipcafdlaa
open Go.RowKit

/-- One row ahead of another, and the two do not touch with the same text. -/
def leadP (x y : RowV) : Prop := kl x.k y.k = true ∨ (x.k = y.k ∧ (x.e < y.f ∨ (x.e = y.f ∧ x.t ≠ y.t)))
def TightP (l : List RowV) : Prop := l.Pairwise leadP
theorem lead_ofP {y x : RowV} (h : leadB y x = true) : leadP y x := by
  unfold leadB at h
  by_cases hk : (y.k.toList == x.k.toList) = true
  · rw [if_pos hk, Bool.and_eq_true, decide_eq_true_eq] at h
    refine .inr ⟨same_key.1 hk, ?_⟩
    by_cases he : y.e = x.f
    · refine .inr ⟨he, fun ht => ?_⟩
      have h2 := h.2
      rw [same_key.2 ht] at h2
      simp [he] at h2
    · exact .inl (by omega)
  · rw [if_neg hk] at h
    exact .inl h
theorem lead_transP {x y z : RowV} (hy : y.f < y.e) (h1 : leadP x y) (h2 : leadP y z) : leadP x z := by
  rcases h1 with h1 | ⟨h1, h1'⟩ <;> rcases h2 with h2 | ⟨h2, h2'⟩
  · exact .inl (kl_trans h1 h2)
  · exact .inl (h2 ▸ h1)
  · exact .inl (h1 ▸ h2)
  · refine .inr ⟨h1.trans h2, .inl ?_⟩
    rcases h1' with h1' | ⟨h1', _⟩ <;> rcases h2' with h2' | ⟨h2', _⟩ <;> omega
theorem tight_goP : ∀ (l : List RowV) (y : RowV), leadsGo y l = true → (∀ x ∈ l, spanOk x) → TightP (y :: l)
  | [], y, _, _ => List.pairwise_singleton _ _
  | x :: l, y, h, hs => by
    rw [leadsGo, Bool.and_eq_true, Bool.and_eq_true] at h
    have hl := lead_ofP h.1.2
    have ht := tight_goP l x h.2 (fun z hz => hs z (List.mem_cons_of_mem _ hz))
    refine List.pairwise_cons.2 ⟨fun z hz => ?_, ht⟩
    rcases List.mem_cons.1 hz with rfl | hz
    · exact hl
    · exact lead_transP (hs x (List.mem_cons_self ..)).2.1 hl ((List.pairwise_cons.1 ht).1 z hz)
theorem tight_relP {l : List RowV} (h : relOk l = true) : (∀ x ∈ l, spanOk x) ∧ TightP l := by
  have hs : ∀ x ∈ l, spanOk x := fun x hx => (rowOk_iff.1 ((rel_apart h).1 x hx)).2.2
  refine ⟨hs, ?_⟩
  have h2 := ((relOk_iff l).1 h).2
  cases l with
  | nil => exact List.Pairwise.nil
  | cons y l =>
    rw [relAll, Bool.and_eq_true] at h2
    exact tight_goP l y h2.2 (fun x hx => hs x (List.mem_cons_of_mem _ hx))

theorem lead_B {x y : RowV} (h : leadP x y) : leadB x y = true := by
  unfold leadB
  by_cases hk : (x.k.toList == y.k.toList) = true
  · rw [if_pos hk]
    rcases h with h | ⟨_, h⟩
    · rw [same_key.1 hk] at h
      exact absurd h (by rw [kl_irrefl]; simp)
    · rcases h with h | ⟨h, ht⟩
      · rw [Bool.and_eq_true, decide_eq_true_eq]
        refine ⟨by omega, ?_⟩
        rw [decide_eq_false (show ¬ x.e = y.f by omega)]; simp
      · rw [Bool.and_eq_true, decide_eq_true_eq]
        refine ⟨by omega, ?_⟩
        have : (x.t.toList == y.t.toList) = false := by
          rw [← Bool.not_eq_true]; exact fun e => ht (same_key.1 e)
        rw [this]; simp
  · rw [if_neg hk]
    rcases h with h | ⟨h, _⟩
    · exact h
    · exact absurd (same_key.2 h) hk
theorem go_tight : ∀ (l : List RowV) (y : RowV), TightP (y :: l) → (∀ x ∈ l, rowOk x = true) → leadsGo y l = true
  | [], y, _, _ => rfl
  | x :: l, y, h, hr => by
    have hp := List.pairwise_cons.1 h
    rw [leadsGo, hr x (List.mem_cons_self ..), lead_B (hp.1 x (List.mem_cons_self ..)), go_tight l x hp.2 (fun z hz => hr z (List.mem_cons_of_mem _ hz))]
    rfl
/-- Part of a table is a table. -/
theorem rel_sub {l m : List RowV} (h : relOk l = true) (hs : m.Sublist l) : relOk m = true := by
  obtain ⟨hr, _⟩ := rel_apart h
  obtain ⟨_, ht⟩ := tight_relP h
  have hl := ((relOk_iff l).1 h).1
  have hrm : ∀ x ∈ m, rowOk x = true := fun x hx => hr x (hs.subset hx)
  have htm : TightP m := ht.sublist hs
  refine (relOk_iff m).2 ⟨Nat.le_trans hs.length_le hl, ?_⟩
  cases m with
  | nil => rfl
  | cons y m =>
    rw [relAll, hrm y (List.mem_cons_self ..), go_tight m y htm (fun x hx => hrm x (List.mem_cons_of_mem _ hx))]
    rfl
theorem live_sub {zs ys : List VerV} {n : Int} (hs : ys.Sublist zs) (h : relOk (liveS zs n) = true) : relOk (liveS ys n) = true := by
  have hz := liveS_facts zs n
  have hy := liveS_facts ys n
  have nd := apart_nodup h
  have ndz : (liveL zs n).Nodup := hz.2.nodup_iff.1 nd
  have sub : (liveL ys n).Sublist (liveL zs n) := (hs.filter _).map _
  have ndy : (liveL ys n).Nodup := ndz.sublist sub
  let m := (liveS zs n).filter (fun r => hasR (liveL ys n) r)
  have hm : relOk m = true := rel_sub h List.filter_sublist
  have hp : (liveS ys n).Perm m := by
    refine hy.2.trans ((List.perm_ext_iff_of_nodup ndy (nd.filter _)).2 fun r => ?_)
    rw [List.mem_filter, hasR_iff]
    exact ⟨fun hr => ⟨hz.2.symm.subset (sub.subset hr), hr⟩, fun hr => hr.2⟩
  have := rel_perm hy.1 hp.symm hm
  rw [← this]; exact hm
theorem live_keep {zs : List VerV} {m n : Int} (h : m ≤ n) : liveS (keepL m zs) n = liveS zs n := by
  unfold liveS liveL keepL
  rw [List.filter_filter]
  congr 2
  refine List.filter_congr fun x _ => ?_
  unfold liveB keepB
  by_cases h1 : x.i ≤ n ∧ n < x.o
  · rw [decide_eq_true h1, decide_eq_true (show m < x.o by omega)]; rfl
  · rw [decide_eq_false h1]; rfl
theorem ver_pair {zs : List VerV} {now : Int} (h : storeB zs now = true) : zs.Pairwise (fun x y => x.i ≤ y.i) := by
  have : ∀ (l : List VerV), (∀ k x y, l[k]? = some x → l[k + 1]? = some y → x.i ≤ y.i) → l.Pairwise (fun x y => x.i ≤ y.i) := by
    intro l
    induction l with
    | nil => intro _; exact List.Pairwise.nil
    | cons a l ih =>
      intro hl
      have hp := ih fun k x y hx hy => hl (k + 1) x y (by simpa using hx) (by simpa using hy)
      refine List.pairwise_cons.2 ⟨fun y hy => ?_, hp⟩
      cases l with
      | nil => cases hy
      | cons b l =>
        have h0 : a.i ≤ b.i := hl 0 a b rfl rfl
        rcases List.mem_cons.1 hy with rfl | hy
        · exact h0
        · exact Int.le_trans h0 ((List.pairwise_cons.1 hp).1 y hy)
  exact this zs fun k x y hx hy => ver_order h hx hy
theorem keep_ok {zs : List VerV} {now m : Int} (h : storeB zs now = true) : storeB (keepL m zs) now = true := by
  obtain ⟨h0, h1, h2⟩ := storeB_iff.1 h
  have hsub : (keepL m zs).Sublist zs := List.filter_sublist
  have hp : (keepL m zs).Pairwise (fun x y => x.i ≤ y.i) := (ver_pair h).sublist hsub
  have hv : ∀ x ∈ zs, verB now x = true := fun x hx => by
    obtain ⟨k, hk, rfl⟩ := List.mem_iff_getElem.1 hx
    simp only [versB, Bool.and_eq_true] at h1
    have h3 := List.all_eq_true.1 h1.2 k (by simpa using hk)
    rw [verAt, getV_of (List.getElem?_eq_getElem hk), Bool.and_eq_true] at h3
    exact h3.1
  refine storeB_iff.2 ⟨h0, versB_yes (Nat.le_trans hsub.length_le (versB_len h1)) fun j hj => ?_, stampsB_yes fun s hs => ?_⟩
  · have hx := List.getElem?_eq_getElem hj
    have hvx := hv _ (hsub.subset (List.mem_of_getElem? hx))
    cases j with
    | zero => rw [verAt_of hx rfl]; exact hvx
    | succ k =>
      have hy : (keepL m zs)[k]? = some (keepL m zs)[k] := List.getElem?_eq_getElem (by omega)
      rw [verAt_of2 hx (by omega) (show (keepL m zs)[k + 1 - 1]? = some _ from hy), hvx, Bool.true_and, decide_eq_true_eq]
      exact List.pairwise_iff_getElem.1 hp k (k + 1) (by omega) hj (by omega)
  · unfold stampsB at h2
    exact live_sub hsub (List.all_eq_true.1 h2 s (by rw [List.mem_range]; omega))
theorem prune_at {zs : List VerV} {now st n : Int} (h : storeB zs now = true) (hn : n ≤ now) (hs : st ≤ n) : storeAtL (keepL (min st now) zs) now n = storeAtL zs now n := by
  rw [storeAtL, storeAtL, if_pos h, if_pos (keep_ok h), show min n now = n from by omega]
  exact live_keep (by omega)
theorem prune_again (m : Int) (zs : List VerV) : keepL m (keepL m zs) = keepL m zs := by
  unfold keepL
  rw [List.filter_filter]
  exact List.filter_congr fun x _ => by simp
theorem prune_twice {zs : List VerV} {now st : Int} (h : storeB zs now = true) : pruneP (keepL (min st now) zs) now st = (now, keepL (min st now) zs) := by
  rw [pruneP, if_pos (keep_ok h), prune_again]
end Go.Proofs.Ytacddgipcafdlaa
