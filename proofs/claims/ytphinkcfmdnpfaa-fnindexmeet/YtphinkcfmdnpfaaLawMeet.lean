/-
  The walk of FnSpanMeet.
-/
import Derived.Test.YtphinkcfmdnpfaaDrawC
import Derived.Test.YtphinkcfmdnpfaaHas
namespace Go.Proofs.Ytphinkcfmdnpfaa
open Go.RowKit

def anyIn (zs : List (Int × Int)) (c : Int) : Bool := (List.range zs.length).any (hasAt zs c)
theorem anyIn_yes {zs : List (Int × Int)} {c : Int} {k : Nat} (hk : k < zs.length) (h : hasAt zs c k = true) : true = anyIn zs c := by
  rw [anyIn, eq_comm, List.any_eq_true]
  exact ⟨k, by simpa using hk, h⟩
theorem anyIn_no {zs : List (Int × Int)} {c : Int} (h : ∀ j, j < zs.length → hasAt zs c j = false) : false = anyIn zs c := by
  rw [anyIn, eq_comm, List.any_eq_false]
  intro x hx
  simp [h x (by simpa using hx)]
theorem anyIn_one (x y c : Int) : anyIn [(x, y)] c = hasB x y c := by simp [anyIn, hasAt]

set_option maxHeartbeats 1000000 in
theorem vaIn_any (A : Option Addr) (cap : Nat) (zs : List (Int × Int)) (c : Int) (w : World) (hz : Spans w A zs) (hl : zs.length ≤ maxLen) :
    Calls Try.prog 18 #[.slice A zs.length cap, .int .i64 c] w fun e w' => e = .returned (.bool (anyIn zs c)) ∧ w = w' := by
  unfold maxLen at hl
  go_enter Try.func18, Try.ntmps18
  go_wp2
  go_loop [5] (fun i => ∃ k : Nat, k ≤ zs.length ∧ i = .int .i64 k ∧ (∀ j, j < k → hasAt zs c j = false)) (fun i => zs.length - (intOf i).toNat)
  case atStart => exact ⟨0, Nat.zero_le _, rfl, fun j hj => absurd hj (by omega)⟩
  case round =>
    obtain ⟨k, hk, rfl, hall⟩ := hrel
    have Hall := Lib.hid hall
    clear hall
    by_cases hlt : k < zs.length
    · obtain ⟨b, off, rfl, hcells⟩ := hz (by omega)
      obtain ⟨c0, c1⟩ := hcells k hlt
      have hok : hasAt zs c k = hasB (zs.getD k (0, 0)).1 (zs.getD k (0, 0)).2 c := rfl
      generalize (zs.getD k (0, 0)).1 = x at *
      generalize (zs.getD k (0, 0)).2 = y at *
      have Hok := Lib.hid hok
      clear hok hcells
      by_cases h1 : x ≤ c
      · by_cases h2 : c < y
        · go_wp2
          go_ret
          exact ⟨ret_bool (anyIn_yes hlt (Hok.out.trans (by simp [hasB, h1, h2]))), rfl⟩
        · go_wp2
          go_round
          case rel => exact ⟨k + 1, by omega, by go_num, fun j hj => by
            by_cases e : j = k
            · subst e; exact Hok.out.trans (by simp [hasB]; omega)
            · exact Hall.out j (by omega)⟩
          case measure => simp [intOf]; omega
      · have h1' : decide (x ≤ c) = false := by simp; omega
        go_wp2
        go_round
        case rel => exact ⟨k + 1, by omega, by go_num, fun j hj => by
          by_cases e : j = k
          · subst e; exact Hok.out.trans (by simp [hasB]; omega)
          · exact Hall.out j (by omega)⟩
        case measure => simp [intOf]; omega
    · go_wp2
      go_ret
      exact ⟨ret_bool (anyIn_no fun j hj => Hall.out j (by omega)), rfl⟩

theorem g_symm (a b c d : Int) : gB c d a b = gB a b c d ∧ gF c d a b = gF a b c d ∧ gT c d a b = gT a b c d := by
  have h1 : mB c d a b = mB a b c d := by unfold mB; rw [decide_eq_decide]; omega
  have h2 : mF c d a b = mF a b c d := by unfold mF; rw [Int.max_comm c a, Int.min_comm d b]
  have h3 : mT c d a b = mT a b c d := by unfold mT; rw [Int.max_comm c a, Int.min_comm d b]
  unfold gB gF gT
  rw [h1, h2, h3, Bool.and_comm (okB c d)]
  exact ⟨rfl, rfl, rfl⟩
theorem g_has {a b c d : Int} (h : okB a b = true) (h' : okB c d = true) (x : Int) : (hasB a b x && hasB c d x) = (gB a b c d && hasB (gF a b c d) (gT a b c d) x) := by
  have k1 : 0 ≤ a ∧ a < b ∧ b ≤ 100 := of_decide_eq_true h
  have k2 : 0 ≤ c ∧ c < d ∧ d ≤ 100 := of_decide_eq_true h'
  by_cases hm : max a c < min b d
  · have e := m_yes (a := a) (b := b) (c := c) (d := d) rfl rfl hm
    have e1 : gB a b c d = true := by simp [gB, h, h', ← e.1]
    have e2 : gF a b c d = max a c := by simp [gF, h, h', ← e.2.1]
    have e3 : gT a b c d = min b d := by simp [gT, h, h', ← e.2.2]
    rw [e1, e2, e3, Bool.true_and, Bool.eq_iff_iff]
    simp [hasB]
    omega
  · have e := m_no (a := a) (b := b) (c := c) (d := d) hm
    have e1 : gB a b c d = false := by simp [gB, h, h', ← e.1]
    rw [e1, Bool.false_and]
    simp [hasB]
    omega

theorem spans_one {w : World} {g : Nat} {x y : Int} (h0 : w.cell? ⟨g, 0, none⟩ = some (.int .i64 x)) (h1 : w.cell? ⟨g, 1, none⟩ = some (.int .i64 y)) : Spans w (some ⟨g, 0, none⟩) [(x, y)] := fun _ =>
  ⟨g, 0, rfl, fun i hi => by
    have : i = 0 := by simpa using hi
    subst this
    exact ⟨by simpa using h0, by simpa using h1⟩⟩

theorem vaIn_one (g cap : Nat) (x y c : Int) (w : World) (h0 : w.cell? ⟨g, 0, none⟩ = some (.int .i64 x)) (h1 : w.cell? ⟨g, 1, none⟩ = some (.int .i64 y)) :
    Calls Try.prog 18 #[.slice (some ⟨g, 0, none⟩) 1 cap, .int .i64 c] w fun e w' => e = .returned (.bool (hasB x y c)) ∧ w = w' := by
  rw [← anyIn_one]
  exact vaIn_any _ cap [(x, y)] c w (spans_one h0 h1) (by unfold maxLen; simp)

theorem spans_new1 (w : World) (a b : Int) : Spans (w.alloc (.cells #[.int .i64 a, .int .i64 b] 29)) (some ⟨w.heap.size, 0, none⟩) [(a, b)] := fun _ => by
  refine ⟨w.heap.size, 0, rfl, fun i hi => ?_⟩
  obtain rfl : i = 0 := by simp at hi; omega
  constructor <;> simp
end Go.Proofs.Ytphinkcfmdnpfaa
