/-
  The walk of FnSpanMeet.
-/
import Derived.Test.YtjopilcpmmfclaaDrawC
import Derived.Test.YtjopilcpmmfclaaHas
namespace Go.Proofs.Ytjopilcpmmfclaa
open Go.RowKit

def anyIn (zs : List (Int × Int)) (c : Int) : Bool := (List.range zs.length).any (hasAt zs c)
theorem anyIn_yes {zs : List (Int × Int)} {c : Int} {k : Nat} (hk : k < zs.length) (h : hasAt zs c k = true) : true = anyIn zs c := by
  rw [anyIn, eq_comm, List.any_eq_true]
  exact ⟨k, by simpa using hk, h⟩
theorem anyIn_no {zs : List (Int × Int)} {c : Int} (h : ∀ j, j < zs.length → hasAt zs c j = false) : false = anyIn zs c := by
  rw [anyIn, eq_comm, List.any_eq_false]
  intro x hx
  simp [h x (by simpa using hx)]
theorem anyIn_one (x y c : Int) : anyIn [(x, y)] c = hasB x y c := by simp [anyIn, hasAt]

theorem g_symm (a b c d : Int) : gB c d a b = gB a b c d ∧ gF c d a b = gF a b c d ∧ gT c d a b = gT a b c d := by
  have h1 : mB c d a b = mB a b c d := by unfold mB; rw [decide_eq_decide]; omega
  have h2 : mF c d a b = mF a b c d := by unfold mF; rw [Int.max_comm c a, Int.min_comm d b]
  have h3 : mT c d a b = mT a b c d := by unfold mT; rw [Int.max_comm c a, Int.min_comm d b]
  unfold gB gF gT
  rw [h1, h2, h3, Bool.and_comm (okB c d)]
  exact ⟨rfl, rfl, rfl⟩
theorem g_has {a b c d : Int} (h : okB a b = true) (h' : okB c d = true) (x : Int) : (hasB a b x && hasB c d x) = (gB a b c d && hasB (gF a b c d) (gT a b c d) x) := by
  have k1 : 0 ≤ a ∧ a < b ∧ b ≤ 100 := of_decide_eq_true h
  have k2 : 0 ≤ c ∧ c < d ∧ d ≤ 100 := of_decide_eq_true h'
  by_cases hm : max a c < min b d
  · have e := m_yes (a := a) (b := b) (c := c) (d := d) rfl rfl hm
    have e1 : gB a b c d = true := by simp [gB, h, h', ← e.1]
    have e2 : gF a b c d = max a c := by simp [gF, h, h', ← e.2.1]
    have e3 : gT a b c d = min b d := by simp [gT, h, h', ← e.2.2]
    rw [e1, e2, e3, Bool.true_and, Bool.eq_iff_iff]
    simp [hasB]
    omega
  · have e := m_no (a := a) (b := b) (c := c) (d := d) hm
    have e1 : gB a b c d = false := by simp [gB, h, h', ← e.1]
    rw [e1, Bool.false_and]
    simp [hasB]
    omega

theorem spans_one {w : World} {g : Nat} {x y : Int} (h0 : w.cell? ⟨g, 0, none⟩ = some (.int .i64 x)) (h1 : w.cell? ⟨g, 1, none⟩ = some (.int .i64 y)) : Spans w (some ⟨g, 0, none⟩) [(x, y)] := fun _ =>
  ⟨g, 0, rfl, fun i hi => by
    have : i = 0 := by simpa using hi
    subst this
    exact ⟨by simpa using h0, by simpa using h1⟩⟩

theorem spans_new1 (w : World) (a b : Int) : Spans (w.alloc (.cells #[.int .i64 a, .int .i64 b] 56)) (some ⟨w.heap.size, 0, none⟩) [(a, b)] := fun _ => by
  refine ⟨w.heap.size, 0, rfl, fun i hi => ?_⟩
  obtain rfl : i = 0 := by simp at hi; omega
  constructor <;> simp
end Go.Proofs.Ytjopilcpmmfclaa
