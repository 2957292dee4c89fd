/-
  Walks: what is common to two sets.
-/
import Derived.Test.YtphinkcfmdnpfaaCommon
import Derived.Test.YtphinkcfmdnpfaaAdd
namespace Go.Proofs.Ytphinkcfmdnpfaa
open Go.RowKit Go.Shelf

theorem setOk_each {zs : List (Int × Int)} (h : setOk zs = true) {k : Nat} (hk : k < zs.length) : okAt zs k = true := by
  rw [setOk, List.all_eq_true] at h
  exact h k (by simpa using hk)
theorem setOk_from {zs : List (Int × Int)} (h : setOk zs = true) : ∀ k, k < zs.length → (k : Int) ≤ (zs.getD k (0, 0)).1 ∧ (zs.getD k (0, 0)).1 < (zs.getD k (0, 0)).2 ∧ (zs.getD k (0, 0)).2 ≤ 100
  | 0, hk => by
    have := setOk_each h hk
    simp [okAt, okB] at this ⊢
    omega
  | k + 1, hk => by
    have h1 := setOk_from h k (by omega)
    have := setOk_each h hk
    simp only [okAt, okB, Bool.and_eq_true, Bool.or_eq_true, decide_eq_true_eq, Nat.add_sub_cancel, beq_iff_eq] at this
    omega
theorem setOk_len {zs : List (Int × Int)} (h : setOk zs = true) : zs.length ≤ 100 := by
  rcases Nat.eq_zero_or_pos zs.length with h0 | h0
  · omega
  · have := setOk_from h (zs.length - 1) (by omega)
    omega

def setMeetL (xs ys : List (Int × Int)) : List (Int × Int) := if setOk xs && setOk ys then meetL xs ys else []

theorem spans_block {w : World} {A : Option Addr} {zs : List (Int × Int)} (h : Spans w A zs) (h0 : 0 < zs.length) : ∀ b off, A = some ⟨b, off, none⟩ → b < w.heap.size := by
  intro b off e
  obtain ⟨b', off', e', hc⟩ := h h0
  rw [e] at e'
  cases e'
  exact World.block_lt_of_cell? _ _ (hc 0 h0).1

theorem coll_nil (w w' : World) (hb : Below w.heap.size w w') : Coll w [] (.returned (.slice none 0 0)) w' := ⟨_, rfl, World.ownsRow_nil _ _ _ _, by simp, hb⟩
theorem coll_after {w w1 w' : World} {zs : List (Int × Int)} {e : Ending} (h : Coll w1 zs e w') (hb : Below w.heap.size w w1) : Coll w zs e w' := by
  obtain ⟨v, he, ho, hn, hb'⟩ := h
  exact ⟨v, he, owns_base ho hb.size, hn, hb.trans (hb'.mono hb.size)⟩

end Go.Proofs.Ytphinkcfmdnpfaa
