/-
  Slices whose cells can be read, of whatever elements; append of one to a slice that a call owns.
-/
import Derived.Test.YtphinkcfmdnpfaaRowD
import Derived.Laws.AppendOwnNone
import Derived.OwnWalk
import Derived.Deep.RegionHeld3
import Derived.Maps.AppendAt
namespace Go.Proofs.Ytphinkcfmdnpfaa
open Go.RowKit

section
variable {α : Type} {enc : α → List Value} {sz : Nat}
/-- A slice whose cells can be read. -/
def SrcE (enc : α → List Value) (w : World) (u : Value) (ms : List α) : Prop := (u = .slice none 0 0 ∧ ms = []) ∨ ∃ ad c, u = .slice (some ad) ms.length c ∧ ∀ j x, (flatOf enc ms)[j]? = some x → w.cell? (ad.add j) = some x
theorem addr_addE (b off j : Nat) : (⟨b, off, none⟩ : Addr).add j = ⟨b, off + j, none⟩ := by
  cases j with
  | zero => simp [Addr.add]
  | succ j => simp [Addr.add]
theorem srcE_of (hk : ∀ x, (enc x).length = sz) (h0 : 0 < sz) {w : World} {A : Option Addr} {zs : List α} {cap : Nat} (h : ElAt enc sz w A zs) (hA : A = none → cap = 0) : SrcE enc w (.slice A zs.length cap) zs := by
  cases zs with
  | nil =>
    cases A with
    | none => rw [hA rfl]; exact .inl ⟨rfl, rfl⟩
    | some a => exact .inr ⟨a, cap, rfl, fun j x hx => by simp [flatOf] at hx⟩
  | cons z zs =>
    obtain ⟨b, off, rfl, hb, hc⟩ := h (by simp)
    refine .inr ⟨⟨b, off, none⟩, cap, rfl, fun j x hx => ?_⟩
    have hj : j < (flatOf enc (z :: zs)).length := (List.getElem?_eq_some_iff.1 hx).1
    rw [flatOf_length hk] at hj
    have hi : j / sz < (z :: zs).length := Nat.div_lt_of_lt_mul (by rw [Nat.mul_comm]; exact hj)
    have hm : j % sz < sz := Nat.mod_lt _ h0
    have hd : j / sz * sz + j % sz = j := Nat.div_add_mod' j sz
    have hy : (z :: zs)[j / sz]? = some (z :: zs)[j / sz] := List.getElem?_eq_getElem hi
    have h1 := flatOf_get hk (z :: zs) (j / sz) _ (j % sz) hy hm
    rw [hd, hx] at h1
    have := hc (j / sz) _ hy (j % sz) x h1.symm
    rw [addr_addE]
    rwa [Nat.add_assoc, hd] at this
theorem wpList_append_srcE (hk : ∀ x, (enc x).length = sz) (h1 : ∀ x, ∀ v ∈ enc x, v.oneCell' = true) (h0 : 0 < sz) {P : Program} (w : World) {ops : Array Oper} {rest : List Oper} {o : Oper} {a : Act} {Q : Exit → Act → World → Prop} (hgd : o.guard = none) (s x : Operand) (t : TypeId)
    (ho : o.op = .call { callee := .builtin .append, args := #[s, x], argTypes := #[t, t] }) (base : Nat) (e : TypeId) (i : TypeInfo) (z : Value) (bytes : Nat)
    (ht : P.underlying t = some (.slice e)) (hi : P.info? e = some i) (hz : i.zero = some z) (hsize : i.size = sz) (hby : i.bytes = bytes) (hzs : z.cells.size = sz)
    (v : Value) (n : Nat) (zs : List α) (hs : a.eval s = v) (hown : w.ownsRow base e sz v n (flatOf enc zs)) (u : Value) (ms : List α) (hx : a.eval x = u) (hu : SrcE enc w u ms)
    (h63 : n + ms.length ≤ maxLen) (hbytes : (n + ms.length) * bytes ≤ 140737488355328) (hbase : base ≤ w.heap.size)
    (h : ∀ v' w', w'.ownsRow base e sz v' (n + ms.length) (flatOf enc (zs ++ ms)) → w.grownBy w' v.ownBlock → wpList P ops Q rest (a.put o.dst v') w') : wpList P ops Q (o :: rest) a w := by
  rcases hu with ⟨rfl, rfl⟩ | ⟨ad, c, rfl, hc⟩
  · exact wpList_append_own_none hgd s x t ho base e i sz ht hi v n _ hs hown hx (h v w (by simpa using hown) ⟨rfl, rfl, rfl, Nat.le_refl _, fun _ _ _ => rfl⟩)
  · exact wpList_append_own _ hgd s x t ho base e i z sz bytes ht hi hz hsize hby hzs h0 v n _ hs hown ad ms.length c (flatOf enc ms) hx (flatOf_length hk ms) hc (flatOf_cells h1 ms) h63 hbytes hbase (fun v' w' h1 h2 _ => h v' w' (by rw [flatOf_append]; exact h1) h2)
theorem step_append_srcE (hk : ∀ x, (enc x).length = sz) (h1 : ∀ x, ∀ v ∈ enc x, v.oneCell' = true) (h0 : 0 < sz) {P : Program} (w : World) {ops : Array Oper} {o : Oper} {a : Act} {K : Act → World → Prop} {Q : Exit → Act → World → Prop} {E : Prop} (hgd : o.guard = none) (s x : Operand) (t : TypeId)
    (ho : o.op = .call { callee := .builtin .append, args := #[s, x], argTypes := #[t, t] }) (base : Nat) (e : TypeId) (i : TypeInfo) (z : Value) (bytes : Nat)
    (ht : P.underlying t = some (.slice e)) (hi : P.info? e = some i) (hz : i.zero = some z) (hsize : i.size = sz) (hby : i.bytes = bytes) (hzs : z.cells.size = sz)
    (v : Value) (n : Nat) (zs : List α) (hs : a.eval s = v) (hown : w.ownsRow base e sz v n (flatOf enc zs)) (u : Value) (ms : List α) (hx : a.eval x = u) (hu : SrcE enc w u ms)
    (h63 : n + ms.length ≤ maxLen) (hbytes : (n + ms.length) * bytes ≤ 140737488355328) (hbase : base ≤ w.heap.size)
    (h : ∀ v' w', w'.ownsRow base e sz v' (n + ms.length) (flatOf enc (zs ++ ms)) → w.grownBy w' v.ownBlock → K (a.put o.dst v') w') :
    if Region.wanted o (yielded ops a.tmps) = true then Oper.wp P o a w K Q else E := by
  rw [if_pos (by simp [Region.wanted, hgd])]
  rcases hu with ⟨rfl, rfl⟩ | ⟨ad, c, rfl, hc⟩
  · have hrun := run_append_owned_none (P := P) (w := w) base t o.type e i sz ht hi v n _ hown
    unfold Oper.wp execOp
    simp only [ho, resolve, invoke, builtin, Sem.run_bind, Sem.run_pure, Result.andThen_ok, List.map_toArray, List.map_cons, List.map_nil, hs, hx, hrun]
    exact h v w (by simpa using hown) ⟨rfl, rfl, rfl, Nat.le_refl _, fun _ _ _ => rfl⟩
  · obtain ⟨v', w', hrun, h2, h3, h4, _⟩ := run_append_own_at (P := P) w base t o.type e i z sz bytes ht hi hz hsize hby hzs h0 v n _ hown ad ms.length c (flatOf enc ms) (flatOf_length hk ms) hc (flatOf_cells h1 ms) h63 hbytes hbase
    unfold Oper.wp execOp
    simp only [ho, resolve, invoke, builtin, Sem.run_bind, Sem.run_pure, Result.andThen_ok, List.map_toArray, List.map_cons, List.map_nil, hs, hx, hrun]
    exact h v' w' (by rw [flatOf_append]; exact h2) h3
theorem owns_zeroE {w : World} {base g cap : Nat} {e : TypeId} {cs : Array Value} {fr : Nat × Nat} (hg : w.heap[g]? = some (.cells cs e fr)) (hfr : fr = (0, 0)) (hb : base ≤ g) (hc : cap ≤ maxLen) (hs : cs.size = cap * sz) : w.ownsRow base e sz (.slice (some ⟨g, 0, none⟩) 0 cap) 0 [] := by
  subst hfr
  exact ⟨by simp, .inr ⟨g, cap, cs, rfl, hb, hg, Nat.zero_le _, hc, hs, by simp⟩⟩
theorem owns_nilE {w : World} {base n k cap : Nat} {A : Option Addr} {t : TypeId} {xs : List Value} (h : w.ownsRow base t k (.slice A n cap) n xs) (hA : A = none) : cap = 0 := by
  subst hA
  rcases h.2 with ⟨e0, _⟩ | ⟨g, c, cur, e0, _⟩
  · injection e0
  · cases e0
/-- What has been put together of two lists. -/
def catE (xs ys : List α) (k : Nat) : List α := if k = 0 then [] else if k = 1 then xs else xs ++ ys
def lenE (m n k : Nat) : Nat := if k = 0 then 0 else if k = 1 then m else m + n
end
end Go.Proofs.Ytphinkcfmdnpfaa
