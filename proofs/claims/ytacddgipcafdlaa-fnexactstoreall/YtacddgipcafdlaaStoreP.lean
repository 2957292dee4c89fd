/-
  Plain: a store with another table at the next stamp is a store; what it was it stays, and then it is that table.
-/
import Derived.Test.YtacddgipcafdlaaStoSe
namespace Go.Proofs.Ytacddgipcafdlaa
open Go.RowKit

theorem endV_r (t : List RowV) (n : Int) (x : VerV) : (endV t n x).r = x.r := by unfold endV; split <;> rfl
theorem endV_i (t : List RowV) (n : Int) (x : VerV) : (endV t n x).i = x.i := by unfold endV; split <;> rfl
theorem endV_live {t : List RowV} {now s : Int} {x : VerV} (hs : s ≤ now) (hn : now ≤ 30) : liveB s (endV t (now + 1) x) = liveB s x := by
  unfold endV
  split
  · rename_i h
    unfold liveB
    rw [decide_eq_decide]
    simp only
    omega
  · rfl
theorem live_old {zs : List VerV} {t : List RowV} {now s : Int} (hs : s ≤ now) (hn : now ≤ 30) : liveL (setL zs now t) s = liveL zs s := by
  unfold setL liveL
  rw [List.filter_append, List.map_append]
  have h1 : ((besides t (liveS zs now)).map (newV (now + 1))).filter (liveB s) = [] := by
    rw [List.filter_eq_nil_iff]
    intro x hx
    obtain ⟨r, _, rfl⟩ := List.mem_map.1 hx
    rw [liveB, decide_eq_true_eq, newV]
    show ¬ (now + 1 ≤ s ∧ s < 999)
    omega
  rw [h1, List.map_nil, List.append_nil, List.filter_map, List.map_map]
  have h2 : zs.filter (liveB s ∘ endV t (now + 1)) = zs.filter (liveB s) := List.filter_congr fun x _ => endV_live hs hn
  rw [h2]
  exact List.map_congr_left fun x _ => endV_r t (now + 1) x
theorem liveS_old {zs : List VerV} {t : List RowV} {now s : Int} (hs : s ≤ now) (hn : now ≤ 30) : liveS (setL zs now t) s = liveS zs s := by
  unfold liveS; rw [live_old hs hn]
theorem apart_nodup {m : List RowV} (h : relOk m = true) : m.Nodup := by
  obtain ⟨h1, h2⟩ := rel_apart h
  have h3 : ∀ x ∈ m, x.f < x.e := fun x hx => (rowOk_iff.1 (h1 x hx)).2.2.2.1
  refine List.Pairwise.imp_of_mem ?_ h2
  rintro a b ha hb hab rfl
  have := h3 a ha
  unfold adj at hab
  rcases hab with h | h
  · rw [kl_irrefl] at h; cases h
  · omega
theorem ver_out {zs : List VerV} {now : Int} (h : storeB zs now = true) {x : VerV} (hx : x ∈ zs) : rowOk x.r = true ∧ 1 ≤ x.i ∧ x.i ≤ now ∧ x.i < x.o ∧ (x.o ≤ now ∨ x.o = 999) := by
  obtain ⟨h0, h1, _⟩ := storeB_iff.1 h
  obtain ⟨k, hk, rfl⟩ := List.mem_iff_getElem.1 hx
  simp only [versB, Bool.and_eq_true] at h1
  have h2 := List.all_eq_true.1 h1.2 k (by simpa using hk)
  rw [verAt, getV_of (List.getElem?_eq_getElem hk), Bool.and_eq_true] at h2
  have h3 := h2.1
  simp only [verB, Bool.and_eq_true, decide_eq_true_eq] at h3
  exact h3
/-- What holds at the next stamp: what held on, and what is new. -/
theorem live_new {zs : List VerV} {t : List RowV} {now : Int} (h : storeB zs now = true) (hn : now < 30) : liveL (setL zs now t) (now + 1) = (liveL zs now).filter (fun r => hasR t r) ++ besides t (liveS zs now) := by
  unfold setL liveL
  rw [List.filter_append, List.map_append]
  congr 1
  · rw [List.filter_map, List.map_map, List.filter_map, List.filter_filter]
    have h1 : zs.filter (liveB (now + 1) ∘ endV t (now + 1)) = zs.filter (fun x => (((fun r => hasR t r) ∘ fun x => x.r) x) && liveB now x) := by
      refine List.filter_congr fun x hx => ?_
      have hv := ver_out h hx
      show liveB (now + 1) (endV t (now + 1) x) = (hasR t x.r && liveB now x)
      unfold endV
      cases ht : hasR t x.r with
      | false =>
        rw [Bool.false_and]
        by_cases h9 : x.o = 999
        · rw [if_pos ⟨h9, rfl⟩, liveB, decide_eq_false_iff_not]
          show ¬ (x.i ≤ now + 1 ∧ now + 1 < now + 1)
          omega
        · rw [if_neg (fun e => h9 e.1), liveB, decide_eq_false_iff_not]
          omega
      | true =>
        rw [Bool.true_and, if_neg (by simp), liveB, liveB, decide_eq_decide]
        omega
    rw [h1]
    exact List.map_congr_left fun x _ => endV_r t (now + 1) x
  · have h1 : ((besides t (liveS zs now)).map (newV (now + 1))).filter (liveB (now + 1)) = (besides t (liveS zs now)).map (newV (now + 1)) := by
      rw [List.filter_eq_self]
      intro x hx
      obtain ⟨r, _, rfl⟩ := List.mem_map.1 hx
      rw [liveB, decide_eq_true_eq]
      show now + 1 ≤ now + 1 ∧ now + 1 < 999
      omega
    rw [h1, List.map_map]
    exact (List.map_congr_left fun r _ => rfl).trans (List.map_id _)
theorem now_ok {zs : List VerV} {now : Int} (h : storeB zs now = true) : relOk (liveS zs now) = true := by
  obtain ⟨h0, _, h2⟩ := storeB_iff.1 h
  unfold stampsB at h2
  have h4 := List.all_eq_true.1 h2 now.toNat (by rw [List.mem_range]; omega)
  rwa [show ((now.toNat : Nat) : Int) = now by omega] at h4
theorem liveS_new {zs : List VerV} {t : List RowV} {now : Int} (h : storeB zs now = true) (hn : now < 30) (ht : relOk t = true) : liveS (setL zs now t) (now + 1) = t := by
  have hf := liveS_facts (setL zs now t) (now + 1)
  have hold := liveS_facts zs now
  have nd := apart_nodup (now_ok h)
  have ndt := apart_nodup ht
  have ndl : (liveL zs now).Nodup := hold.2.nodup_iff.1 nd
  have hp : (liveL (setL zs now t) (now + 1)).Perm t := by
    rw [live_new h hn]
    refine (List.perm_ext_iff_of_nodup ?_ ndt).2 fun r => ?_
    · rw [List.nodup_append]
      refine ⟨ndl.filter _, ndt.filter _, ?_⟩
      rintro a ha b hb rfl
      have h1 := (List.mem_filter.1 ha).1
      have h2 := (List.mem_filter.1 hb).2
      rw [Bool.not_eq_true', ← Bool.not_eq_true, hasR_iff] at h2
      exact h2 (hold.2.symm.subset h1)
    · rw [List.mem_append]
      constructor
      · rintro (h1 | h1)
        · exact hasR_iff.1 (List.mem_filter.1 h1).2
        · exact (List.mem_filter.1 h1).1
      · intro hr
        by_cases ho : r ∈ liveS zs now
        · exact .inl (List.mem_filter.2 ⟨hold.2.subset ho, hasR_iff.2 hr⟩)
        · refine .inr (List.mem_filter.2 ⟨hr, ?_⟩)
          rw [Bool.not_eq_true', ← Bool.not_eq_true, hasR_iff]
          exact ho
  exact (rel_perm hf.1 (hp.symm.trans hf.2.symm) ht).symm
theorem ver_next {zs : List VerV} {t : List RowV} {now : Int} (h : storeB zs now = true) (ht : relOk t = true) {x : VerV} (hx : x ∈ setL zs now t) : verB (now + 1) x = true := by
  obtain ⟨h0, _, _⟩ := storeB_iff.1 h
  unfold setL at hx
  rcases List.mem_append.1 hx with hx | hx
  · obtain ⟨y, hy, rfl⟩ := List.mem_map.1 hx
    have hv := ver_out h hy
    unfold verB
    rw [Bool.and_eq_true, decide_eq_true_eq, endV_r, endV_i]
    refine ⟨hv.1, hv.2.1, by omega, ?_⟩
    unfold endV
    split
    · show y.i < now + 1 ∧ _
      exact ⟨by omega, .inl (Int.le_refl _)⟩
    · exact ⟨hv.2.2.2.1, by omega⟩
  · obtain ⟨r, hr, rfl⟩ := List.mem_map.1 hx
    have hrt := (List.mem_filter.1 hr).1
    unfold verB
    rw [Bool.and_eq_true, decide_eq_true_eq]
    refine ⟨(rel_apart ht).1 r hrt, ?_⟩
    show 1 ≤ now + 1 ∧ now + 1 ≤ now + 1 ∧ now + 1 < 999 ∧ _
    exact ⟨by omega, Int.le_refl _, by omega, .inr rfl⟩
theorem ver_order {zs : List VerV} {now : Int} (h : storeB zs now = true) {k : Nat} {x y : VerV} (hx : zs[k]? = some x) (hy : zs[k + 1]? = some y) : x.i ≤ y.i := by
  obtain ⟨_, h1, _⟩ := storeB_iff.1 h
  simp only [versB, Bool.and_eq_true] at h1
  have hk := (List.getElem?_eq_some_iff.1 hy).1
  have h2 := List.all_eq_true.1 h1.2 (k + 1) (by simpa using hk)
  rw [verAt_of2 hy (by omega) (by simpa using hx), Bool.and_eq_true, decide_eq_true_eq] at h2
  exact h2.2
theorem set_order {zs : List VerV} {t : List RowV} {now : Int} (h : storeB zs now = true) {k : Nat} {x y : VerV} (hx : (setL zs now t)[k]? = some x) (hy : (setL zs now t)[k + 1]? = some y) : x.i ≤ y.i := by
  unfold setL at hx hy
  by_cases h1 : k + 1 < zs.length
  · rw [List.getElem?_append_left (by rw [List.length_map]; omega), List.getElem?_map] at hx hy
    obtain ⟨a, ha, rfl⟩ := Option.map_eq_some_iff.1 hx
    obtain ⟨b, hb, rfl⟩ := Option.map_eq_some_iff.1 hy
    rw [endV_i, endV_i]
    exact ver_order h ha hb
  · rw [List.getElem?_append_right (by rw [List.length_map]; omega), List.getElem?_map] at hy
    obtain ⟨r, _, rfl⟩ := Option.map_eq_some_iff.1 hy
    have hx' : x ∈ setL zs now t := by unfold setL; exact List.mem_of_getElem? hx
    show x.i ≤ now + 1
    unfold setL at hx'
    rcases List.mem_append.1 hx' with hx' | hx'
    · obtain ⟨z, hz, rfl⟩ := List.mem_map.1 hx'
      rw [endV_i]
      have := ver_out h hz
      omega
    · obtain ⟨r', _, rfl⟩ := List.mem_map.1 hx'
      exact Int.le_refl _
/-- A store with another table is a store. -/
theorem set_ok {zs : List VerV} {t : List RowV} {now : Int} (h : storeB zs now = true) (hg : goesB zs now t) : storeB (setL zs now t) (now + 1) = true := by
  obtain ⟨ht, h30, hl⟩ := hg
  obtain ⟨h0, _, h2⟩ := storeB_iff.1 h
  refine storeB_iff.2 ⟨by omega, versB_yes hl fun j hj => ?_, stampsB_yes fun s hs => ?_⟩
  · have hx := List.getElem?_eq_getElem hj
    have hv := ver_next h ht (List.mem_of_getElem? hx)
    cases j with
    | zero => rw [verAt_of hx rfl]; exact hv
    | succ k =>
      have hy : (setL zs now t)[k]? = some (setL zs now t)[k] := List.getElem?_eq_getElem (by omega)
      rw [verAt_of2 hx (by omega) (show (setL zs now t)[k + 1 - 1]? = some _ from hy), hv, Bool.true_and, decide_eq_true_eq]
      exact set_order h hy hx
  · by_cases hle : (s : Int) ≤ now
    · rw [liveS_old hle h0.2]
      unfold stampsB at h2
      exact List.all_eq_true.1 h2 s (by rw [List.mem_range]; omega)
    · have : (s : Int) = now + 1 := by omega
      rw [this, liveS_new h (by omega) ht]
      exact ht
end Go.Proofs.Ytacddgipcafdlaa
