/-
  Walk: the function joined over whatever iterator of spans has its contract.
-/
import Derived.Test.YtgclmldhdjmabaaGreatCanon
import Derived.Test.YtgclmldhdjmabaaGreatAddL
import Derived.Test.YtgclmldhdjmabaaGreatLies
import Derived.OrdersIn
import Derived.OwnWalkIn
import Derived.Deep.QuietTactic
import Derived.BigQuiet
import Derived.StillTailTactics
import Derived.TacticsIn
import Derived.Test.YtgclmldhdjmabaaGreatCommon
namespace Go.Proofs.YtgclmldhdjmabaaGreat
open Go.RowKit

/-- One span more, behind all that begin ahead of it. -/
def jstep (acc : List (Int × Int)) (s : Int × Int) : List (Int × Int) :=
  if 0 < acc.length ∧ s.1 ≤ (acc.getD (acc.length - 1) (0, 0)).2 then acc.set (acc.length - 1) ((acc.getD (acc.length - 1) (0, 0)).1, max (acc.getD (acc.length - 1) (0, 0)).2 s.2) else acc ++ [s]
def joinL (l : List (Int × Int)) : List (Int × Int) := l.foldl jstep []
theorem joinL_snoc (l : List (Int × Int)) (s : Int × Int) : joinL (l ++ [s]) = jstep (joinL l) s := by simp [joinL]
theorem jstep_len (acc : List (Int × Int)) (s : Int × Int) : (jstep acc s).length ≤ acc.length + 1 := by
  unfold jstep
  split <;> simp
theorem foldl_len (l : List (Int × Int)) : ∀ acc : List (Int × Int), (l.foldl jstep acc).length ≤ acc.length + l.length := by
  induction l with
  | nil => intro acc; simp
  | cons s l ih =>
    intro acc
    have h1 := ih (jstep acc s)
    have h2 := jstep_len acc s
    simp only [List.foldl_cons, List.length_cons]
    omega
theorem joinL_len (l : List (Int × Int)) : (joinL l).length ≤ l.length := by
  have := foldl_len l []
  simpa [joinL] using this

def joinSp : Int × Int → List (Int × Int) → List (Int × Int)
  | p, [] => [p]
  | p, s :: l => if s.1 ≤ p.2 then joinSp (p.1, max p.2 s.2) l else p :: joinSp s l
theorem jstep_last (acc : List (Int × Int)) (p s : Int × Int) : jstep (acc ++ [p]) s = if s.1 ≤ p.2 then acc ++ [(p.1, max p.2 s.2)] else acc ++ [p] ++ [s] := by
  unfold jstep
  have h1 : (acc ++ [p]).length - 1 = acc.length := by simp
  have h2 : (acc ++ [p]).getD acc.length (0, 0) = p := by simp [List.getD]
  rw [h1, h2]
  by_cases h : s.1 ≤ p.2
  · rw [if_pos ⟨by simp, h⟩, if_pos h, List.set_append_right _ _ (Nat.le_refl _), Nat.sub_self]
    rfl
  · rw [if_neg (fun hh => h hh.2), if_neg h]
theorem foldl_join : ∀ (l : List (Int × Int)) (acc : List (Int × Int)) (p : Int × Int), l.foldl jstep (acc ++ [p]) = acc ++ joinSp p l
  | [], acc, p => rfl
  | s :: l, acc, p => by
    rw [List.foldl_cons, jstep_last, joinSp]
    by_cases h : s.1 ≤ p.2
    · rw [if_pos h, if_pos h, foldl_join l acc _]
    · rw [if_neg h, if_neg h, foldl_join l (acc ++ [p]) s]
      simp
theorem joinL_cons (s : Int × Int) (l : List (Int × Int)) : joinL (s :: l) = joinSp s l := by
  have h : jstep [] s = [] ++ [s] := by simp [jstep]
  rw [joinL, List.foldl_cons, h, foldl_join]
  rfl

/-- All are spans. -/
def allOk (l : List (Int × Int)) : Prop := ∀ s ∈ l, 0 ≤ s.1 ∧ s.1 < s.2 ∧ s.2 ≤ 100
/-- They begin one behind the other. -/
def inOrder : List (Int × Int) → Prop
  | [] => True
  | s :: l => (∀ t ∈ l, s.1 ≤ t.1) ∧ inOrder l

theorem canon_joinR : ∀ (l : List (Int × Int)) (p : Int × Int) (lo : Int), lo < p.1 → p.1 < p.2 → p.2 ≤ 100 → allOk l → canon lo (joinSp p l)
  | [], p, lo, h0, h1, h2, _ => ⟨h0, h1, h2, trivial⟩
  | s :: l, p, lo, h0, h1, h2, ha => by
    have hs := ha s (List.mem_cons_self ..)
    have hl : allOk l := fun t ht => ha t (List.mem_cons_of_mem _ ht)
    rw [joinSp]
    by_cases h : s.1 ≤ p.2
    · rw [if_pos h]
      exact canon_joinR l _ lo h0 (by simp only []; omega) (by simp only []; omega) hl
    · rw [if_neg h]
      exact ⟨h0, h1, h2, canon_joinR l s p.2 (by omega) hs.2.1 hs.2.2 hl⟩
theorem has_joinR (q : Int) : ∀ (l : List (Int × Int)) (p : Int × Int), p.1 < p.2 → allOk l → (∀ t ∈ l, p.1 ≤ t.1) → inOrder l → (has (joinSp p l) q ↔ (p.1 ≤ q ∧ q < p.2) ∨ has l q)
  | [], p, h1, _, _, _ => by simp [joinSp, has_cons, has_nil]
  | s :: l, p, h1, ha, hp, ho => by
    have hs := ha s (List.mem_cons_self ..)
    have hps := hp s (List.mem_cons_self ..)
    have hl : allOk l := fun t ht => ha t (List.mem_cons_of_mem _ ht)
    rw [joinSp]
    by_cases h : s.1 ≤ p.2
    · rw [if_pos h, has_joinR q l (p.1, max p.2 s.2) (by simp only []; omega) hl (fun t ht => hp t (List.mem_cons_of_mem _ ht)) ho.2, has_cons]
      simp only []
      constructor
      · rintro (h2 | h2)
        · by_cases h3 : q < p.2
          · exact .inl ⟨h2.1, h3⟩
          · exact .inr (.inl ⟨by omega, by omega⟩)
        · exact .inr (.inr h2)
      · rintro (h2 | h2 | h2)
        · exact .inl ⟨h2.1, by omega⟩
        · exact .inl ⟨by omega, by omega⟩
        · exact .inr h2
    · rw [if_neg h, has_cons, has_joinR q l s hs.2.1 hl ho.1 ho.2, has_cons]
theorem joinL_ok {l : List (Int × Int)} (ha : allOk l) : setOk (joinL l) = true := by
  rw [setOk_iff]
  cases l with
  | nil => exact trivial
  | cons s l =>
    have hs := ha s (List.mem_cons_self ..)
    rw [joinL_cons]
    exact canon_joinR l s (-1) (by omega) hs.2.1 hs.2.2 (fun t ht => ha t (List.mem_cons_of_mem _ ht))
theorem has_joinL {l : List (Int × Int)} (ha : allOk l) (ho : inOrder l) (q : Int) : has (joinL l) q ↔ has l q := by
  cases l with
  | nil => simp [joinL]
  | cons s l =>
    have hs := ha s (List.mem_cons_self ..)
    rw [joinL_cons, has_joinR q l s hs.2.1 (fun t ht => ha t (List.mem_cons_of_mem _ ht)) ho.1 ho.2, has_cons]

/-- A span put into a set. -/
def addR (s : Int × Int) : List (Int × Int) → List (Int × Int)
  | [] => [s]
  | z :: l => if z.2 < s.1 then z :: addR s l else if z.1 ≤ s.2 then addR (min z.1 s.1, max z.2 s.2) l else s :: z :: l
theorem canon_addR : ∀ (l : List (Int × Int)) (s : Int × Int) (lo : Int), canon lo l → lo < s.1 → s.1 < s.2 → s.2 ≤ 100 → canon lo (addR s l)
  | [], s, lo, _, h0, h1, h2 => ⟨h0, h1, h2, trivial⟩
  | z :: l, s, lo, hc, h0, h1, h2 => by
    obtain ⟨c1, c2, c3, c4⟩ := hc
    rw [addR]
    by_cases hz : z.2 < s.1
    · rw [if_pos hz]
      exact ⟨c1, c2, c3, canon_addR l s z.2 c4 hz h1 h2⟩
    · rw [if_neg hz]
      by_cases hz2 : z.1 ≤ s.2
      · rw [if_pos hz2]
        exact canon_addR l _ lo (canon_weak (by omega) c4) (by simp only []; omega) (by simp only []; omega) (by simp only []; omega)
      · rw [if_neg hz2]
        exact ⟨h0, h1, h2, by omega, c2, c3, c4⟩
theorem has_addR (q : Int) : ∀ (l : List (Int × Int)) (s : Int × Int) (lo : Int), canon lo l → s.1 < s.2 → (has (addR s l) q ↔ (s.1 ≤ q ∧ q < s.2) ∨ has l q)
  | [], s, lo, _, _ => by simp [addR, has_cons, has_nil]
  | z :: l, s, lo, hc, h1 => by
    obtain ⟨c1, c2, c3, c4⟩ := hc
    rw [addR]
    by_cases hz : z.2 < s.1
    · rw [if_pos hz, has_cons, has_addR q l s z.2 c4 h1, has_cons]
      constructor
      · rintro (h | h | h)
        · exact .inr (.inl h)
        · exact .inl h
        · exact .inr (.inr h)
      · rintro (h | h | h)
        · exact .inr (.inl h)
        · exact .inl h
        · exact .inr (.inr h)
    · rw [if_neg hz]
      by_cases hz2 : z.1 ≤ s.2
      · rw [if_pos hz2, has_addR q l _ z.2 c4 (by simp only []; omega), has_cons]
        simp only []
        constructor
        · rintro (h | h)
          · by_cases h3 : s.1 ≤ q ∧ q < s.2
            · exact .inl h3
            · exact .inr (.inl (by omega))
          · exact .inr (.inr h)
        · rintro (h | h | h)
          · exact .inl (by omega)
          · exact .inl (by omega)
          · exact .inr h
      · rw [if_neg hz2, has_cons, has_cons]

/-- The model's two loops, list by list. -/
def scanF (st : List (Int × Int) × Int × Int) (z : Int × Int) : List (Int × Int) × Int × Int :=
  if z.2 < st.2.1 then (st.1 ++ [(z.1, z.2)], st.2.1, st.2.2)
  else if z.1 ≤ st.2.2 then (st.1, (if z.1 < st.2.1 then z.1 else st.2.1), (if st.2.2 < z.2 then z.2 else st.2.2))
  else st
theorem scan_fold (zs : List (Int × Int)) (s : Int × Int) : ∀ k, k ≤ zs.length → scan zs s k = (zs.take k).foldl scanF ([], s.1, s.2)
  | 0, _ => rfl
  | k + 1, hk => by
    have h := scan_fold zs s k (by omega)
    have e : zs.getD k (0, 0) = zs[k]'(by omega) := by simp [List.getD, show k < zs.length by omega]
    rw [scan, h, List.take_succ_eq_append_getElem (by omega), List.foldl_append, List.foldl_cons, List.foldl_nil, e]
    rfl
theorem tail_filter (zs : List (Int × Int)) (y : Int) : ∀ k, k ≤ zs.length → tailTo zs y k = (zs.take k).filter fun z => decide (y < z.1)
  | 0, _ => rfl
  | k + 1, hk => by
    have h := tail_filter zs y k (by omega)
    have e : zs.getD k (0, 0) = zs[k]'(by omega) := by simp [List.getD, show k < zs.length by omega]
    rw [tailTo, h, List.take_succ_eq_append_getElem (by omega), List.filter_append, e]
    by_cases hy : y < (zs[k]'(by omega)).1 <;> simp [hy]
theorem fold_pre : ∀ (l o : List (Int × Int)) (x y : Int), l.foldl scanF (o, x, y) = (o ++ (l.foldl scanF ([], x, y)).1, (l.foldl scanF ([], x, y)).2.1, (l.foldl scanF ([], x, y)).2.2)
  | [], o, x, y => by simp
  | z :: l, o, x, y => by
    rw [List.foldl_cons, List.foldl_cons]
    by_cases h : z.2 < x
    · have e1 : scanF (o, x, y) z = (o ++ [(z.1, z.2)], x, y) := by simp [scanF, h]
      have e2 : scanF ([], x, y) z = ([(z.1, z.2)], x, y) := by simp [scanF, h]
      rw [e1, e2, fold_pre l _ x y, fold_pre l [(z.1, z.2)] x y]
      simp
    · by_cases h2 : z.1 ≤ y
      · have e1 : scanF (o, x, y) z = (o, (if z.1 < x then z.1 else x), (if y < z.2 then z.2 else y)) := by simp [scanF, h, h2]
        have e2 : scanF ([], x, y) z = ([], (if z.1 < x then z.1 else x), (if y < z.2 then z.2 else y)) := by simp [scanF, h, h2]
        rw [e1, e2]
        exact fold_pre l o _ _
      · have e1 : scanF (o, x, y) z = (o, x, y) := by simp [scanF, h, h2]
        have e2 : scanF ([], x, y) z = ([], x, y) := by simp [scanF, h, h2]
        rw [e1, e2]
        exact fold_pre l o x y
theorem fold_up : ∀ (l o : List (Int × Int)) (x y : Int), y ≤ (l.foldl scanF (o, x, y)).2.2
  | [], o, x, y => Int.le_refl _
  | z :: l, o, x, y => by
    rw [List.foldl_cons]
    by_cases h : z.2 < x
    · rw [show scanF (o, x, y) z = (o ++ [(z.1, z.2)], x, y) from by simp [scanF, h]]
      exact fold_up l _ x y
    · by_cases h2 : z.1 ≤ y
      · rw [show scanF (o, x, y) z = (o, (if z.1 < x then z.1 else x), (if y < z.2 then z.2 else y)) from by simp [scanF, h, h2]]
        have := fold_up l o (if z.1 < x then z.1 else x) (if y < z.2 then z.2 else y)
        have h3 : y ≤ (if y < z.2 then z.2 else y) := by split <;> omega
        omega
      · rw [show scanF (o, x, y) z = (o, x, y) from by simp [scanF, h, h2]]
        exact fold_up l o x y
theorem fold_far : ∀ (l : List (Int × Int)) (lo x y : Int), canon lo l → x ≤ lo → y ≤ lo → l.foldl scanF ([], x, y) = ([], x, y) ∧ (l.filter fun z => decide (y < z.1)) = l
  | [], _, _, _, _, _, _ => ⟨rfl, rfl⟩
  | z :: l, lo, x, y, hc, hx, hy => by
    obtain ⟨c1, c2, c3, c4⟩ := hc
    have ih := fold_far l z.2 x y c4 (by omega) (by omega)
    rw [List.foldl_cons, show scanF ([], x, y) z = ([], x, y) from by simp [scanF, show ¬ z.2 < x by omega, show ¬ z.1 ≤ y by omega], List.filter_cons, if_pos (by simp; omega), ih.2]
    exact ⟨ih.1, rfl⟩
def addF (s : Int × Int) (l : List (Int × Int)) : List (Int × Int) := (l.foldl scanF ([], s.1, s.2)).1 ++ [((l.foldl scanF ([], s.1, s.2)).2.1, (l.foldl scanF ([], s.1, s.2)).2.2)] ++ (l.filter fun z => decide ((l.foldl scanF ([], s.1, s.2)).2.2 < z.1))
theorem addF_eq : ∀ (l : List (Int × Int)) (s : Int × Int) (lo : Int), canon lo l → s.1 < s.2 → addF s l = addR s l
  | [], s, _, _, _ => by simp [addF, addR]
  | z :: l, s, lo, hc, h1 => by
    obtain ⟨c1, c2, c3, c4⟩ := hc
    obtain ⟨x, y⟩ := s
    simp only [] at h1
    rw [addR]
    by_cases hz : z.2 < x
    · rw [if_pos hz, ← addF_eq l (x, y) z.2 c4 h1]
      have e : (z :: l).foldl scanF ([], x, y) = (z :: (l.foldl scanF ([], x, y)).1, (l.foldl scanF ([], x, y)).2.1, (l.foldl scanF ([], x, y)).2.2) := by
        rw [List.foldl_cons, show scanF ([], x, y) z = ([(z.1, z.2)], x, y) from by simp [scanF, hz], fold_pre]
        rfl
      have hu := fold_up l [] x y
      simp only [addF, e]
      rw [List.filter_cons, if_neg (by simp; omega)]
      rfl
    · rw [if_neg hz]
      by_cases hz2 : z.1 ≤ y
      · rw [if_pos hz2]
        have e0 : scanF ([], x, y) z = ([], min z.1 x, max z.2 y) := by
          simp only [scanF, if_neg hz, if_pos hz2, Prod.mk.injEq, true_and]
          constructor
          · split <;> omega
          · split <;> omega
        rw [← addF_eq l (min z.1 x, max z.2 y) z.2 c4 (by simp only []; omega)]
        have hu := fold_up l [] (min z.1 x) (max z.2 y)
        simp only [addF, List.foldl_cons, e0]
        rw [List.filter_cons, if_neg (by simp; omega)]
      · rw [if_neg hz2]
        have hf := fold_far (z :: l) (z.1 - 1) x y ⟨by omega, c2, c3, c4⟩ (by omega) (by omega)
        simp only [addF, hf.1, hf.2]
        rfl
theorem addL_addF (zs : List (Int × Int)) (s : Int × Int) : addL zs s = addF s zs := by
  unfold addL addF
  rw [scan_fold zs s zs.length (Nat.le_refl _), List.take_length, tail_filter zs _ zs.length (Nat.le_refl _), List.take_length]
theorem addL_ok {zs : List (Int × Int)} {s : Int × Int} (hz : setOk zs = true) (h0 : 0 ≤ s.1) (h1 : s.1 < s.2) (h2 : s.2 ≤ 100) : setOk (addL zs s) = true := by
  have hc := (setOk_iff zs).1 hz
  rw [setOk_iff, addL_addF, addF_eq zs s (-1) hc h1]
  exact canon_addR zs s (-1) hc (by omega) h1 h2
theorem has_addL {zs : List (Int × Int)} {s : Int × Int} (hz : setOk zs = true) (h1 : s.1 < s.2) (q : Int) : has (addL zs s) q ↔ (s.1 ≤ q ∧ q < s.2) ∨ has zs q := by
  have hc := (setOk_iff zs).1 hz
  rw [addL_addF, addF_eq zs s (-1) hc h1, has_addR q zs s (-1) hc h1]
/-- The spans put in one after the other. -/
def addAll (l : List (Int × Int)) : List (Int × Int) := l.foldl addL []
theorem addAll_snoc (l : List (Int × Int)) (s : Int × Int) : addAll (l ++ [s]) = addL (addAll l) s := by simp [addAll]
theorem addAll_ok (q : Int) : ∀ (l acc : List (Int × Int)), setOk acc = true → allOk l → setOk (l.foldl addL acc) = true ∧ (has (l.foldl addL acc) q ↔ has acc q ∨ has l q)
  | [], acc, h, _ => by simp [h, has_nil]
  | s :: l, acc, h, ha => by
    have hs := ha s (List.mem_cons_self ..)
    have ih := addAll_ok q l (addL acc s) (addL_ok h hs.1 hs.2.1 hs.2.2) (fun t ht => ha t (List.mem_cons_of_mem _ ht))
    rw [List.foldl_cons]
    refine ⟨ih.1, ?_⟩
    rw [ih.2, has_addL h hs.2.1, has_cons]
    constructor
    · rintro ((h | h) | h)
      · exact .inr (.inl h)
      · exact .inl h
      · exact .inr (.inr h)
    · rintro (h | h | h)
      · exact .inl (.inr h)
      · exact .inl (.inl h)
      · exact .inr h
theorem setOk_nil : setOk [] = true := rfl
/-- Spans in order, as a set, two ways. -/
theorem join_add {l l' : List (Int × Int)} (ha : allOk l) (ha' : allOk l') (ho : inOrder l') (hp : ∀ q, has l' q ↔ has l q) : joinL l' = addAll l := by
  have h1 := joinL_ok ha'
  have h2 := fun q => addAll_ok q l [] setOk_nil ha
  exact canon_same ((setOk_iff _).1 h1) ((setOk_iff _).1 (h2 0).1) (fun q => by rw [has_joinL ha' ho, hp q, addAll, (h2 q).2]; simp [has_nil])
end Go.Proofs.YtgclmldhdjmabaaGreat
namespace Go.Proofs.YtgclmldhdjmabaaGreat
open Go.RowKit

section
variable {F : Fence} {n : Nat} {P : Program} {ops : Array Oper} {md : Region.Mode} {C : World → Prop}

def noDefer (ops : Array Oper) : Bool := ops.toList.all fun o => match o.op with
  | .defer _ => false
  | _ => true
theorem noDefer_at {i : Nat} {o : Oper} (h : noDefer ops = true) (hi : ops[i]? = some o) : ∀ c, o.op ≠ .defer c := by
  intro c hc
  have hm : o ∈ ops.toList := by
    have := Array.mem_of_getElem? hi
    simpa using this
  have := List.all_eq_true.1 h o hm
  rw [hc] at this
  cases this

theorem wpIn_of_quiet {o : Oper} {a : Act} {K : Act → Prop} {K' : Act → World → Prop} {Q' : Exit → Act → World → Prop} {w : World} (hF : ∀ f, F.fn f) (hD : F.depth = none)
    (hcall : ∀ f args w R m, Calls P f args w R → CallsIn F m P f args w R) (hnd : ∀ c, o.op ≠ .defer c) (hw : C w) (h : ∀ a w', C w' → K a → K' a w') (hh : o.quiet P a C K) : o.wpIn F n P a w K' Q' := by
  obtain ⟨v, h1, h2⟩ := hh
  have h3 := h1 w hw
  unfold Oper.quietAt at h3
  unfold Oper.wpIn
  refine ⟨fun f _ => hF f, ?_⟩
  rw [Oper.semAt_plain F _ _ hnd]
  generalize (execOp a.eval o).run P w = r at *
  cases r with
  | ok n w' =>
    cases n <;> simp only [Oper.quietUpon] at h3 <;> simp only [Oper.uponIn]
    case value u =>
      obtain ⟨e1, e2⟩ := h3
      rw [e1, e2]
      exact h _ _ hw h2
    case skip =>
      obtain ⟨e1, e2⟩ := h3
      rw [e1, ← e2]
      exact h _ _ hw h2
    case enter f args =>
      obtain ⟨e1, hc⟩ := h3
      rw [e1]
      refine ⟨(fun hs => by rw [hD] at hs; cases hs), hcall _ _ _ _ _ ?_⟩
      exact hc.mono fun e w'' ⟨he, hw''⟩ => by subst he; exact h _ _ hw'' h2
  | halt x w' => simp only [Oper.quietUpon] at h3

theorem wpOpIn_of_qOp {i : Nat} {a : Act} {K : Act → Prop} {K' : Act → World → Prop} {Q' : Exit → Act → World → Prop} {w : World} (hF : ∀ f, F.fn f) (hD : F.depth = none)
    (hcall : ∀ f args w R m, Calls P f args w R → CallsIn F m P f args w R) (hnd : noDefer ops = true) (hC : C w) (h : ∀ a w', C w' → K a → K' a w') (hh : qOp P ops C i K a) : wpOpIn F n P ops Q' i K' a w := by
  unfold qOp at hh
  unfold wpOpIn
  split
  · rename_i ho; simp only [ho] at hh; exact h _ _ hC hh
  · rename_i o ho
    simp only [ho] at hh
    split
    · rename_i hw; simp only [hw, if_true] at hh; exact wpIn_of_quiet hF hD hcall (noDefer_at hnd ho) hC h hh
    · rename_i hw; simp only [hw] at hh; exact ⟨fun f _ => hF f, h _ _ hC hh⟩

theorem wpAnyIn_of_quiet (hF : ∀ f, F.fn f) (hD : F.depth = none) (hcall : ∀ f args w R m, Calls P f args w R → CallsIn F m P f args w R) (hnd : noDefer ops = true) {Q : Act → Prop} {Q' : Exit → Act → World → Prop} (hQ : ∀ a w, C w → Q a → Q' .normal a w) :
    ∀ (fuel : Nat) (listed : Array Bool) (a : Act) (w : World), C w → wpAnyQ P md ops C Q fuel listed a → wpAnyIn F n P md ops Q' fuel listed a w
  | 0, _, _, _, hw, h => ⟨h.1, hQ _ _ hw h.2⟩
  | fuel + 1, _, _, _, hw, h => ⟨fun h0 => hQ _ _ hw (h.1 h0), fun i hi => wpOpIn_of_qOp hF hD hcall hnd hw (fun a' w' hw' => wpAnyIn_of_quiet hF hD hcall hnd hQ fuel _ a' w' hw') (h.2 i hi)⟩

theorem wpIn_region_quietF {id : Nat} {Q : Exit → Act → World → Prop} {a : Act} {w : World} (hF : ∀ f, F.fn f) (hD : F.depth = none) (hcall : ∀ f args w R m, Calls P f args w R → CallsIn F m P f args w R) (hnd : noDefer ops = true)
    (hm : P.follows .mixedOrders = true) (hB : Region.lexB .any ops = true) (hC : C { w with drawn := w.drawn + 1 })
    (h : wpQuiet P ops C (fun a' => ∀ w', C w' → Q .normal a' w') ops.toList a) : (Code.region id ops true).wpIn F n P Q a w := by
  simp only [Region.lexB, Bool.and_eq_true] at hB
  refine wpIn_region_any hm (wpAnyIn_of_quiet hF hD hcall hnd (Q := fun a' => ∀ w', C w' → Q .normal a' w') (fun _ w' hw' h => h w' hw') _ _ _ _ hC ?_)
  have := wpAnyQ_lex (C := C) (md := .any) hB.1 ops.toList 0 (Array.replicate ops.size false) a (by simp) (by simpa using hB.2) h
  simpa using this
end

/-- In a round of the wide fence: draws alone. -/
theorem wpIn_round_quiet {P : Program} {l₀ n id : Nat} {Q : Exit → Act → World → Prop} {a : Act} {w : World} {l : List Oper} (hnd : noDefer l.toArray = true) (hm : P.follows .mixedOrders = true) (hB : Region.lexB .any l.toArray = true)
    (h : wpQuiet P l.toArray (fun w' => ∃ n, w' = w.drewN n) (fun a' => ∀ w', (∃ n, w' = w.drewN n) → Q .normal a' w') l a) : (Code.region id l.toArray true).wpIn (Fence.wide.inRound l₀) n P Q a w :=
  wpIn_region_quietF (C := fun w' => ∃ n, w' = w.drewN n) (fun _ => trivial) rfl (fun _ _ _ _ _ hc => CallsIn.inRound l₀ (callsIn_wide.2 hc)) hnd hm hB ⟨1, rfl⟩ (by simpa using h)

section
variable {F : Fence} {n : Nat} {P : Program} {ops : Array Oper} {md : Region.Mode} {w : World}

theorem wpIn_of_still {o : Oper} {a : Act} {K : Act → Prop} {K' : Act → World → Prop} {Q' : Exit → Act → World → Prop} (hF : ∀ f, F.fn f) (hD : F.depth = none)
    (hcall : ∀ f args w R m, Calls P f args w R → CallsIn F m P f args w R) (hnd : ∀ c, o.op ≠ .defer c) (h : ∀ a, K a → K' a w) (hh : o.still P a w K) : o.wpIn F n P a w K' Q' := by
  unfold Oper.still at hh
  unfold Oper.wpIn
  refine ⟨fun f _ => hF f, ?_⟩
  rw [Oper.semAt_plain F _ _ hnd]
  generalize (execOp a.eval o).run P w = r at *
  cases r with
  | ok n w' =>
    cases n <;> simp only [Oper.stillUpon] at hh <;> simp only [Oper.uponIn]
    case value u =>
      obtain ⟨e1, e2⟩ := hh
      rw [e1]
      exact h _ e2
    case skip =>
      obtain ⟨e1, e2⟩ := hh
      rw [e1]
      exact h _ e2
    case enter f args =>
      obtain ⟨e1, v, hc, h2⟩ := hh
      rw [e1]
      refine ⟨(fun hs => by rw [hD] at hs; cases hs), hcall _ _ _ _ _ ?_⟩
      exact hc.mono fun e w'' ⟨he, hw''⟩ => by subst he; subst hw''; exact h _ h2
  | halt x w' => simp only [Oper.stillUpon] at hh

theorem wpOpIn_of_stOp {i : Nat} {a : Act} {K : Act → Prop} {K' : Act → World → Prop} {Q' : Exit → Act → World → Prop} (hF : ∀ f, F.fn f) (hD : F.depth = none)
    (hcall : ∀ f args w R m, Calls P f args w R → CallsIn F m P f args w R) (hnd : noDefer ops = true) (h : ∀ a, K a → K' a w) (hh : stOp P ops w i K a) : wpOpIn F n P ops Q' i K' a w := by
  unfold stOp at hh
  unfold wpOpIn
  split
  · rename_i ho; simp only [ho] at hh; exact h _ hh
  · rename_i o ho
    simp only [ho] at hh
    split
    · rename_i hw; simp only [hw, if_true] at hh; exact wpIn_of_still hF hD hcall (noDefer_at hnd ho) h hh
    · rename_i hw; simp only [hw] at hh; exact ⟨fun f _ => hF f, h _ hh⟩

theorem wpAnyIn_of_head (hF : ∀ f, F.fn f) (hD : F.depth = none) (hcall : ∀ f args w R m, Calls P f args w R → CallsIn F m P f args w R) (hnd : noDefer ops = true) {m g : Nat} {L : Array Bool → Act → Prop} {Q' : Exit → Act → World → Prop}
    (hL : ∀ listed a, L listed a → wpAnyIn F n P md ops Q' g listed a w) : ∀ (f : Nat) (listed : Array Bool) (a : Act), wpAnyL P md ops w m L f listed a → wpAnyIn F n P md ops Q' (f + g) listed a w
  | 0, listed, a, h => by rw [Nat.zero_add]; exact hL _ _ h
  | f + 1, listed, a, h => by
    rw [show f + 1 + g = (f + g) + 1 by omega]
    exact ⟨fun h0 => absurd h0 h.1, fun i hi => wpOpIn_of_stOp hF hD hcall hnd (fun a' h' => wpAnyIn_of_head hF hD hcall hnd hL f _ a' h') (h.2 i hi).2⟩

theorem wpAnyIn_of_seq {Q' : Exit → Act → World → Prop} : ∀ (l : List Oper) (k : Nat) (listed : Array Bool) (a : Act) (w : World), (∀ j, l[j]? = ops[k + j]?) →
    Region.seqB md ops l.length k listed = true → wpListIn F n P ops Q' l a w → wpAnyIn F n P md ops Q' l.length listed a w
  | [], _, _, _, _, _, hB, h => ⟨by simpa [Region.seqB] using hB, h⟩
  | o :: l, k, listed, a, w, hl, hB, h => by
    have h0 : ops[k]? = some o := by simpa using (hl 0).symm
    simp only [List.length_cons, Region.seqB, Bool.and_eq_true, decide_eq_true_eq] at hB
    refine ⟨fun h1 => (by rw [hB.1] at h1; cases h1), fun i hi => ?_⟩
    rw [hB.1] at hi
    have hik : i = k := by simpa using hi
    subst hik
    have hw : wpOpIn F n P ops Q' i (wpListIn F n P ops Q' l) a w := by unfold wpOpIn; simp only [h0]; exact h
    exact wpOpIn_mono (fun a' w' h' => wpAnyIn_of_seq l (i + 1) _ a' w' (fun j => by have := hl (j + 1); simpa [Nat.add_assoc, Nat.add_comm 1 j] using this) hB.2 h') hw
end

/-- In a round of the wide fence: a region whose last operations come in one forced order, all ahead of them leaving the world alone. -/
theorem wpIn_round_tail {P : Program} {l₀ n id : Nat} {Q : Exit → Act → World → Prop} {a : Act} {w : World} {l : List Oper} (m : Nat) (hnd : noDefer l.toArray = true) (hm : P.follows .mixedOrders = true) (hB : Region.lexTailB .any l.toArray m = true)
    (h : wpStill P l.toArray { w with drawn := w.drawn + 1 } (fun a' => wpListIn (Fence.wide.inRound l₀) n P l.toArray Q (l.drop m) a' { w with drawn := w.drawn + 1 }) (l.take m) a) : (Code.region id l.toArray true).wpIn (Fence.wide.inRound l₀) n P Q a w := by
  simp only [Region.lexTailB, Bool.and_eq_true, decide_eq_true_eq] at hB
  obtain ⟨⟨⟨⟨hsel, hn⟩, hs⟩, hc⟩, hlex⟩ := hB
  have hn' : m < l.length := by simpa using hn
  have htl : (l.take m).length = m := by simp; omega
  have hdl : (l.drop m).length = l.toArray.size - m := by simp
  have inv0 : HeadInv .any l.toArray m (Array.replicate l.toArray.size false) :=
    ⟨by simp, fun j oj _ hl => (by rw [getD_replicate_false] at hl; cases hl), fun t _ ht => getD_in (by simpa using ht) (getD_replicate_false _ _)⟩
  have H := wpAnyL_lex (md := .any) (g := l.toArray.size - m) hsel hs hc hn (l.take m) 0 _ a (fun j hj => by
    have hj' : j < m := by rw [htl] at hj; exact hj
    simp [hj']) (by simpa using htl) inv0 (by rw [htl]; exact hlex) h
  refine wpIn_region_any hm ?_
  have := wpAnyIn_of_head (F := Fence.wide.inRound l₀) (n := n) (Q' := Q) (g := l.toArray.size - m) (fun _ => trivial) rfl (fun _ _ _ _ _ hc => CallsIn.inRound l₀ (callsIn_wide.2 hc)) hnd (fun listed a' hL => by
    have := wpAnyIn_of_seq (F := Fence.wide.inRound l₀) (n := n) (md := .any) (Q' := Q) (l.drop m) m listed a' { w with drawn := w.drawn + 1 } (fun j => by simp [List.getElem?_drop]) (by rw [hdl]; exact hL.1) hL.2
    rwa [hdl] at this) _ _ _ H
  rw [htl, show m + (l.toArray.size - m) = l.toArray.size by omega] at this
  exact this
end Go.Proofs.YtgclmldhdjmabaaGreat
namespace Go.Proofs.YtgclmldhdjmabaaGreat
open Go.RowKit Go.Shelf

attribute [local go_sem] Oper.semAt_some

theorem jstep_app {acc : List (Int × Int)} {s : Int × Int} (h : acc = [] ∨ ¬ s.1 ≤ (acc.getD (acc.length - 1) (0, 0)).2) : jstep acc s = acc ++ [s] := by
  unfold jstep
  rw [if_neg]
  rintro ⟨h1, h2⟩
  rcases h with rfl | h
  · simp at h1
  · exact h h2
theorem jstep_set {acc : List (Int × Int)} {s : Int × Int} (h : 0 < acc.length) (h2 : s.1 ≤ (acc.getD (acc.length - 1) (0, 0)).2) : jstep acc s = acc.set (acc.length - 1) ((acc.getD (acc.length - 1) (0, 0)).1, max (acc.getD (acc.length - 1) (0, 0)).2 s.2) := by
  unfold jstep
  rw [if_pos ⟨h, h2⟩]

theorem flat_set1 : ∀ (l : List (Int × Int)) (i : Nat) (b : Int), i < l.length → (flat l).set (i * 2 + 1) (.int .i64 b) = flat (l.set i ((l.getD i (0, 0)).1, b))
  | [], i, b, h => by simp at h
  | p :: l, 0, b, _ => by simp [flat]
  | p :: l, i + 1, b, h => by
    have := flat_set1 l i b (by simpa using h)
    rw [show (i + 1) * 2 + 1 = i * 2 + 1 + 1 + 1 from by omega]
    simpa [flat] using this
theorem max_if (a b : Int) : (if a < b then b else a) = max a b := by split <;> omega
theorem below_drewN' {w w' : World} {B : Nat} (h : Below B w w') (n : Nat) : Below B w (w'.drewN n) := by
  induction n with
  | zero => exact h
  | succ n ih => exact ih.drew
theorem foot_drewN {Φ : Nat → Prop} (W : World) (n : Nat) : Foot Φ Φ W (W.drewN n) := ⟨rfl, rfl, rfl, Nat.le_refl _, fun _ _ _ => rfl, fun _ h => .inl h⟩

set_option maxRecDepth 100000 in
set_option maxHeartbeats 8000000 in
theorem joined_in (n : Nat) (hn : 3 ≤ n) (gf : Nat) (lb : Array Value) (zs : List (Int × Int)) (N : Nat) (hl : N ≤ 4194304) (n₀ : Nat) (w0 w : World)
    (hseq : SeqAll (n - 1) Tryz.prog gf lb encS n₀ zs N w0) (hb0 : Below w0.heap.size w0 w) (hn₀ : n₀ ≤ w.heap.size)
    (eg : ∀ args w, (callFunc gf args).run Tryz.prog w = .ok (.enter gf args) w) :
    CallsIn Fence.wide n Tryz.prog 64 #[.func (.func gf) #[] lb] w (Coll w (joinL zs)) := by
  have h1 : 1 ≤ n := by omega
  obtain ⟨i0, hi, hz0, hz1, hz2⟩ := info_parts Tryz.info25
  refine callsIn_of_wp_marks Tryz.func64 rfl trivial ?_ rfl
  simp only [Tryz.ntmps64, List.size_toArray, List.length_cons, List.length_nil, Nat.reduceAdd, Nat.reduceSub, Array.replicate_succ, Array.replicate_zero, List.push_toArray, List.append_toArray, List.nil_append, List.cons_append]
  gi_wp2
  have bO := Boxed.new w 36 (.slice none 0 0)
  have hB0 : Below w.heap.size w (w.alloc (.cells #[.slice none 0 0] 36)) := (Below.refl _ w).alloc (Nat.le_refl _) _
  refine range_all h1 (gf := gf) (lb := lb) rfl eg hseq (hb0.trans (hB0.mono hb0.size)) (fun _ => rfl)
    (fun pre Φ W => (∃ v, Boxed W w.heap.size 36 v ∧ W.ownsRow w.heap.size 25 2 v (joinL pre).length (flat (joinL pre)) ∧ ((v = .slice none 0 0 ↔ joinL pre = []) ∧ Φ = fun k => k = w.heap.size ∨ v.ownBlock = some k)) ∧ Below w.heap.size w W)
    (fun Φ => OwnFrom.and (Own.from (holdsRow_own w.heap.size w.heap.size 36 25 2 (fun pre => (joinL pre).length) (fun pre => flat (joinL pre)) (fun pre v => (v = .slice none 0 0 ↔ joinL pre = []) ∧ Φ = fun k => k = w.heap.size ∨ v.ownBlock = some k)) _) (ownFrom_below (Nat.le_refl _) (by simp)))
    ?foot (fun s s' Φ Φ' A h h' => by
      obtain ⟨⟨v, bv, _, _, rfl⟩, _⟩ := h
      obtain ⟨⟨v', bv', _, _, rfl⟩, _⟩ := h'
      have : v = v' := by have := bv.cell.symm.trans bv'.cell; injection this
      rw [this]) (fun k => k = w.heap.size ∨ (Value.slice none 0 0).ownBlock = some k)
    ⟨⟨_, bO, World.ownsRow_nil _ _ _ _, by simp [joinL], rfl⟩, hB0⟩
    (fun x a' W => ∃ Bx, w.heap.size < Bx ∧ Boxed2 W Bx x ∧ a' = { tmps := #[.func (.func gf) #[] lb, undef, .slice none 0 0, .pointer (some ⟨w.heap.size, 0, none⟩), .pointer (some ⟨Bx, 0, none⟩), undef, .func (.func gf) #[] lb, .agg #[.int .i64 x.1, .int .i64 x.2], undef, undef, undef, undef, undef, undef, undef, undef, undef, undef, undef, undef, undef, undef, undef, undef, undef, undef, undef, undef, undef, undef, undef, undef, undef, undef, undef, undef, undef, undef, undef, undef], defers := [] })
    (fun x a' _ X Y row hs hg hr => by obtain ⟨Bx, e1, e2, e3⟩ := hs; exact ⟨Bx, e1, e2.kept hg (fun r e => (hr r e).2), e3⟩)
    ?assign ?body ?done
  case foot =>
    rintro pre Φ A ⟨⟨v, bv, hrow, hnil, rfl⟩, hB⟩ k hk
    rcases hk with rfl | hk
    · exact ⟨hn₀, _, bv, rfl⟩
    · rcases hrow.2 with ⟨rfl, _⟩ | ⟨g, c, cur, rfl, h2, h3, _⟩
      · simp [Value.ownBlock] at hk
      · have : g = k := by simpa [Value.ownBlock] using hk
        subst this
        exact ⟨Nat.le_trans hn₀ h2, _, h3, rfl⟩
  case assign =>
    rintro l pre Φ x W K ⟨⟨v, bv, hrow, hnil, hΦ⟩, hB⟩ hK
    obtain ⟨x1, x2⟩ := x
    have HΦ := Lib.hid hΦ
    clear hΦ
    simp only [encS]
    gi_wp2
    exact hK _ _ ((KeepsOthers.alloc _ _).from _) (Foot.alloc W _) ⟨⟨v, bv.alloc _, hrow.alloc _, hnil, HΦ.out⟩, hB.alloc hB.size _⟩ ⟨W.heap.size, bv.lt, Boxed2.new W (x1, x2), rfl⟩
  case body =>
    rintro l pre Φ x a' W ⟨⟨v, hv, hrow, hnil, hΦ⟩, hB⟩ ⟨Bx, hBx, bX, rfl⟩ hlt
    obtain ⟨x1, x2⟩ := x
    have HΦ := Lib.hid hΦ
    have HJ := Lib.hid (joinL_snoc pre (x1, x2))
    have hal : (joinL pre).length ≤ pre.length := joinL_len pre
    obtain ⟨acc, hacc⟩ : ∃ acc, joinL pre = acc := ⟨_, rfl⟩
    rw [hacc] at hrow hnil HJ hal
    clear hΦ hacc
    have hc := hv.cell
    have c0 := bX.cell0
    have c1 := bX.cell1
    have Hi := Lib.hid hi
    have Hz0 := Lib.hid hz0
    have Hz1 := Lib.hid hz1
    have Hz2 := Lib.hid hz2
    have HR := Lib.hid hrow
    have HV := Lib.hid hv
    have HX := Lib.hid bX
    have HB := Lib.hid hB
    have HN := Lib.hid hnil
    have HF := Lib.hid (show ∀ k, Φ k → ∃ o : Obj, W.heap[k]? = some o ∧ o.isCells = true from fun k hk => by
      rw [HΦ.out] at hk
      rcases hk with rfl | hk
      · exact ⟨_, hv, rfl⟩
      · rcases hrow.2 with ⟨rfl, _⟩ | ⟨g, c, cur, rfl, h2, h3, _⟩
        · simp [Value.ownBlock] at hk
        · have : g = k := by simpa [Value.ownBlock] using hk
          subst this
          exact ⟨_, h3, rfl⟩)
    clear hi hz0 hz1 hz2 hrow hv bX hB hnil hseq hb0 eg bO hB0
    by_cases hemp : acc = []
    · subst hemp
      obtain rfl := HN.out.2 rfl
      have HA := Lib.hid (jstep_app (acc := []) (s := (x1, x2)) (.inl rfl))
      gi_wp2
      refine wpIn_round_quiet (by kernel_rfl) (by kernel_rfl) (by kernel_rfl) ?_
      repeat (go_big_quiet_step (fail))
      refine wpQuiet_nil ?_
      rintro _ ⟨nq, rfl⟩
      have V5 := Lib.hid (show Boxed (W.drewN nq) w.heap.size 36 _ from HV.out)
      have R5 := Lib.hid (show (W.drewN nq).ownsRow _ _ _ _ _ _ from HR.out)
      have B5 := Lib.hid (show Below w.heap.size w (W.drewN nq) from below_drewN' HB.out nq)
      have F5 := Lib.hid (show Foot Φ Φ W (W.drewN nq) from foot_drewN W nq)
      have d0 : (W.drewN nq).cell? ⟨Bx, 0, none⟩ = some (.int .i64 x1) := c0
      have d1 : (W.drewN nq).cell? ⟨Bx, 1, none⟩ = some (.int .i64 x2) := c1
      have dc := V5.out.cell
      have dlt := V5.out.lt
      clear HV HR HB c0 c1 hc HX
      generalize W.drewN nq = W5 at *
      gi_wp2_with (gi_at_builtin; refine appendIn_lies _ rfl _ _ 36 rfl w.heap.size 25 i0 _ 2 16 Tryz.underlying36 Hi.out Hz0.out Hz1.out Hz2.out rfl (by decide) _ _ _ rfl (R5.out.alloc _) ⟨W5.heap.size, 0, none⟩ 1 1 [.int .i64 x1, .int .i64 x2] rfl rfl (news_two (by simp) (by simp)) (by simp [Value.oneCell']) (by decide) (by unfold maxLen; omega) (by omega) (by have := B5.out.size; simp; omega) ?_; intro g' cap' w1 hown' hgrow hat; obtain ⟨hv1, hv2, hr2, hk2, hb2⟩ := V5.out.appended (by decide) R5.out B5.out.size (Nat.le_refl _) hown' hgrow; have hc1 := hv1.cell; have hf1 := hv1.frozen)
      have FT : Foot Φ (fun k => k = w.heap.size ∨ (Value.slice (some ⟨g', 0, none⟩) (([] : List (Int × Int)).length + 1) cap').ownBlock = some k) W (w1.setCell ⟨w.heap.size, 0, none⟩ (.slice (some ⟨g', 0, none⟩) (([] : List (Int × Int)).length + 1) cap')) := by
        refine F5.out.trans ⟨hgrow.os, hgrow.tape, hgrow.output, ?_, ?_, ?_⟩
        · have := hgrow.size; simp [World.setCell] at this ⊢; omega
        · intro k hk hn
          rw [HΦ.out] at hn
          have h1' : k ≠ w.heap.size := fun e => hn (.inl e)
          have h2' : some k ≠ _ := fun e => hn (.inr e.symm)
          rw [Below.heap_setCell _ _ _ _ h1', hgrow.block k (by simp; omega) h2', Below.heap_alloc W5 _ k hk]
        · intro k hk
          rw [HΦ.out]
          rcases hk with e | e
          · exact .inl (.inl e)
          · have e' : g' = k := by simpa [Value.ownBlock] using e
            subst e'
            rcases hat with h | h
            · exact .inl (.inr h)
            · exact .inr (by rw [h]; simp)
      exact ⟨FT.keeps _ HF.out, _, FT, ⟨_, hv2, (by rw [HJ.out, HA.out]; exact owns_snoc hr2 rfl), (by rw [HJ.out, HA.out]; simp), rfl⟩, B5.out.trans hb2⟩
    · have hp : 0 < acc.length := List.length_pos_iff.2 hemp
      have hnn : v ≠ .slice none 0 0 := fun e => hemp (HN.out.1 e)
      obtain ⟨g, c, hv', hg, hgl⟩ := owns_form HR.out hnn
      subst hv'
      obtain ⟨m, hm⟩ : ∃ m, acc.length = m := ⟨_, rfl⟩
      have Hm := Lib.hid hm
      obtain ⟨pa, hpa⟩ : ∃ p, acc.getD (acc.length - 1) (0, 0) = p := ⟨_, rfl⟩
      have e0 : W.cell? ⟨g, (m - 1) * 2, none⟩ = some (.int .i64 pa.1) := by
        rw [HR.out.cellAt ((m - 1) * 2) (by omega), flat_get0 _ _ (by omega), ← hm, hpa]
      have e1 : W.cell? ⟨g, (m - 1) * 2 + 1, none⟩ = some (.int .i64 pa.2) := by
        rw [HR.out.cellAt ((m - 1) * 2 + 1) (by omega), flat_get1 _ _ (by omega), ← hm, hpa]
      have f1 := HR.out.frozenAt ((m - 1) * 2 + 1)
      obtain ⟨p1, p2⟩ := pa
      simp only [] at e0 e1
      have Hpa := Lib.hid hpa
      rw [hm] at hal hp HR hc HV HN HΦ
      clear hpa hm hemp hnn
      have q0 : (0 : Int) ≤ (m : Int) - 1 := by omega
      have q1 : (m : Int) - 1 < (m : Int) := by omega
      have q2 : ((m : Int) - 1).toNat = m - 1 := by omega
      have q3 : (1 : Int) ≤ (m : Int) := by omega
      by_cases hle : x1 ≤ p2
      · have HA := Lib.hid (jstep_set (acc := acc) (s := (x1, x2)) (by rw [Hm.out]; exact hp) (by rw [Hpa.out]; exact hle))
        have hld : decide (x1 ≤ p2) = true := decide_eq_true hle
        gi_wp2
        refine wpIn_round_quiet (by kernel_rfl) (by kernel_rfl) (by kernel_rfl) ?_
        repeat (go_big_quiet_step (fail))
        refine wpQuiet_nil ?_
        rintro _ ⟨nq, rfl⟩
        have V5 := Lib.hid (show Boxed (W.drewN nq) w.heap.size 36 _ from HV.out)
        have R5 := Lib.hid (show (W.drewN nq).ownsRow _ _ _ _ _ _ from HR.out)
        have B5 := Lib.hid (show Below w.heap.size w (W.drewN nq) from below_drewN' HB.out nq)
        have F5 := Lib.hid (show Foot Φ Φ W (W.drewN nq) from foot_drewN W nq)
        have d0 : (W.drewN nq).cell? ⟨Bx, 0, none⟩ = some (.int .i64 x1) := c0
        have d1 : (W.drewN nq).cell? ⟨Bx, 1, none⟩ = some (.int .i64 x2) := c1
        have e1' : (W.drewN nq).cell? ⟨g, (m - 1) * 2 + 1, none⟩ = some (.int .i64 p2) := e1
        have f1' : (W.drewN nq).frozen? ⟨g, (m - 1) * 2 + 1, none⟩ = false := f1
        have dc := V5.out.cell
        have dlt := V5.out.lt
        clear HV HR HB c0 c1 hc HX e0 e1 f1 hld
        generalize W.drewN nq = W5 at *
        gi_wp2
        refine wpIn_round_tail 12 (by kernel_rfl) (by kernel_rfl) (by kernel_rfl) ?_
        simp only [List.take_succ_cons, List.take_zero, List.drop_succ_cons, List.drop_zero]
        repeat still_step
        refine wpStill_nil ?_
        change wpListIn _ _ _ _ _ _ _ W5.drew
        obtain ⟨y, hy⟩ : ∃ y, (if p2 < x2 then x2 else p2) = y := ⟨_, rfl⟩
        rw [hy]
        have Hy := Lib.hid hy
        clear hy
        have HS := Lib.hid (show (W5.drew.setCell ⟨g, (m - 1) * 2 + 1, none⟩ (.int .i64 y)).ownsRow w.heap.size 25 2 (.slice (some ⟨g, 0, none⟩) (joinL (pre ++ [(x1, x2)])).length c) (joinL (pre ++ [(x1, x2)])).length (flat (joinL (pre ++ [(x1, x2)]))) from by
          have s0 := ((World.ownsRow.drew R5.out).stored ((m - 1) * 2 + 1) (.int .i64 y)).1
          rw [flat_set1 acc (m - 1) _ (by rw [Hm.out]; omega)] at s0
          rw [HJ.out, HA.out, List.length_set, Hpa.out, ← max_if, Hy.out, Hm.out]
          have e : acc.getD (m - 1) (0, 0) = (p1, p2) := by rw [← Hm.out]; exact Hpa.out
          rw [e] at s0
          exact s0)
        have hne : w.heap.size ≠ g := fun e => by
          have h1 := V5.out
          rcases R5.out.2 with ⟨h0, _⟩ | ⟨g', c', cur, h0, _, h3, _⟩
          · cases h0
          · injection h0 with h0 _ _
            injection h0 with h0
            injection h0 with h0 _ _
            subst h0
            rw [← e] at h3
            have := (show W5.heap[w.heap.size]? = _ from h1).symm.trans h3
            simp at this
        have HV6 := Lib.hid (show Boxed (W5.drew.setCell ⟨g, (m - 1) * 2 + 1, none⟩ (.int .i64 y)) w.heap.size 36 (.slice (some ⟨g, 0, none⟩) m c) from (Below.heap_setCell _ _ _ _ hne).trans V5.out)
        have FT := Lib.hid (show Foot Φ Φ W (W5.drew.setCell ⟨g, (m - 1) * 2 + 1, none⟩ (.int .i64 y)) from F5.out.trans ⟨rfl, rfl, rfl, (by show W5.heap.size ≤ (W5.setCell _ _).heap.size; simp), (fun k hk hn => by
          have : k ≠ g := fun e => hn (by rw [HΦ.out]; exact .inr (by rw [e]; rfl))
          exact Below.heap_setCell _ _ _ _ this), fun _ h => .inl h⟩)
        have HB6 := Lib.hid (show Below w.heap.size w (W5.drew.setCell ⟨g, (m - 1) * 2 + 1, none⟩ (.int .i64 y)) from (B5.out.drew).setCell (p := ⟨g, (m - 1) * 2 + 1, none⟩) hg _)
        have HL6 := Lib.hid (show (joinL (pre ++ [(x1, x2)])).length = m from by rw [HJ.out, HA.out, List.length_set, Hm.out])
        gi_wp2
        refine ⟨FT.out.keeps _ HF.out, _, FT.out, ⟨_, HV6.out, ?_, ?_, HΦ.out⟩, HB6.out⟩
        · have := HS.out
          rw [HL6.out] at this ⊢
          exact this
        · constructor
          · intro h; cases h
          · intro h
            have := HL6.out
            rw [h] at this
            simp at this
            omega
      · have HA := Lib.hid (jstep_app (acc := acc) (s := (x1, x2)) (.inr (by rw [Hpa.out]; exact hle)))
        have hld : decide (x1 ≤ p2) = false := decide_eq_false hle
        gi_wp2
        refine wpIn_round_quiet (by kernel_rfl) (by kernel_rfl) (by kernel_rfl) ?_
        repeat (go_big_quiet_step (fail))
        refine wpQuiet_nil ?_
        rintro _ ⟨nq, rfl⟩
        have V5 := Lib.hid (show Boxed (W.drewN nq) w.heap.size 36 _ from HV.out)
        have R5 := Lib.hid (show (W.drewN nq).ownsRow _ _ _ _ _ _ from HR.out)
        have B5 := Lib.hid (show Below w.heap.size w (W.drewN nq) from below_drewN' HB.out nq)
        have F5 := Lib.hid (show Foot Φ Φ W (W.drewN nq) from foot_drewN W nq)
        have d0 : (W.drewN nq).cell? ⟨Bx, 0, none⟩ = some (.int .i64 x1) := c0
        have d1 : (W.drewN nq).cell? ⟨Bx, 1, none⟩ = some (.int .i64 x2) := c1
        have dc := V5.out.cell
        have dlt := V5.out.lt
        clear HV HR HB c0 c1 hc HX
        generalize W.drewN nq = W5 at *
        gi_wp2_with (gi_at_builtin; refine appendIn_lies _ rfl _ _ 36 rfl w.heap.size 25 i0 _ 2 16 Tryz.underlying36 Hi.out Hz0.out Hz1.out Hz2.out rfl (by decide) _ _ _ rfl (R5.out.alloc _) ⟨W5.heap.size, 0, none⟩ 1 1 [.int .i64 x1, .int .i64 x2] rfl rfl (news_two (by simp) (by simp)) (by simp [Value.oneCell']) (by decide) (by unfold maxLen; omega) (by omega) (by have := B5.out.size; simp; omega) ?_; intro g' cap' w1 hown' hgrow hat; obtain ⟨hv1, hv2, hr2, hk2, hb2⟩ := V5.out.appended (by decide) R5.out B5.out.size (Nat.le_refl _) hown' hgrow; have hc1 := hv1.cell; have hf1 := hv1.frozen)
        have FT : Foot Φ (fun k => k = w.heap.size ∨ (Value.slice (some ⟨g', 0, none⟩) (m + 1) cap').ownBlock = some k) W (w1.setCell ⟨w.heap.size, 0, none⟩ (.slice (some ⟨g', 0, none⟩) (m + 1) cap')) := by
          refine F5.out.trans ⟨hgrow.os, hgrow.tape, hgrow.output, ?_, ?_, ?_⟩
          · have := hgrow.size; simp [World.setCell] at this ⊢; omega
          · intro k hk hn
            rw [HΦ.out] at hn
            have h1' : k ≠ w.heap.size := fun e => hn (.inl e)
            have h2' : some k ≠ _ := fun e => hn (.inr e.symm)
            rw [Below.heap_setCell _ _ _ _ h1', hgrow.block k (by simp; omega) h2', Below.heap_alloc W5 _ k hk]
          · intro k hk
            rw [HΦ.out]
            rcases hk with e | e
            · exact .inl (.inl e)
            · have e' : g' = k := by simpa [Value.ownBlock] using e
              subst e'
              rcases hat with h | h
              · exact .inl (.inr h)
              · exact .inr (by rw [h]; simp)
        exact ⟨FT.keeps _ HF.out, _, FT, ⟨_, hv2, (by rw [HJ.out, HA.out]; exact owns_snoc hr2 (by rw [Hm.out])), (by rw [HJ.out, HA.out]; simp), rfl⟩, B5.out.trans hb2⟩
  case done =>
    rintro D Φ W hD ⟨⟨v, hv, hrow, hnil, _⟩, hB⟩ hK
    have hc := hv.cell
    gi_wp2
    refine ⟨by simp, .inl ⟨_, _, rfl, run_takeDeferred hK, ?_⟩⟩
    exact ⟨_, results_tmp rfl _ _ _, v, rfl, ownsRow_putObj hrow _ hK rfl, hnil, hB.trans (belowK_b (w := w) (Nat.le_refl _) W D _ _ (by simp at hD; omega) hK rfl rfl)⟩
end Go.Proofs.YtgclmldhdjmabaaGreat
