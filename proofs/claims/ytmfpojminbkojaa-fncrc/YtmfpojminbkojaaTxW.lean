/-
  Walks: a thing to be done as a line of text (the model's).
-/
import Derived.Test.YtmfpojminbkojaaDecW
import Derived.Test.YtmfpojminbkojaaOpsD
import Derived.Deep.RegionHeld3
namespace Go.Proofs.Ytmfpojminbkojaa
open Go.RowKit Go.Lib

/-- The words. -/
def wrdB : Nat → ByteArray
  | 0 => ⟨#[]⟩
  | 1 => ⟨#[105, 110, 115, 101, 114, 116]⟩
  | 2 => ⟨#[100, 101, 108, 101, 116, 101]⟩
  | 3 => ⟨#[117, 112, 100, 97, 116, 101]⟩
  | _ => ⟨#[109, 101, 114, 103, 101]⟩
theorem wrdB_size (k : Nat) : (wrdB k).size ≤ 6 := by
  match k with
  | 0 => decide
  | 1 => decide
  | 2 => decide
  | 3 => decide
  | _ + 4 => show (5 : Nat) ≤ 6; omega
def spB : ByteArray := ⟨#[32]⟩
def nlB : ByteArray := ⟨#[10]⟩
def dashB : ByteArray := ⟨#[45]⟩
/-- Joined as the program joins. -/
def lineOf (a b c d e f : ByteArray) : ByteArray := a ++ spB ++ b ++ spB ++ c ++ spB ++ d ++ spB ++ e ++ spB ++ f ++ nlB
def txtB (s : ByteArray) : ByteArray := if s.size = 0 then dashB else s
/-- A thing to be done, as a line. -/
def lineB (k t : Nat) (key text : ByteArray) (f e : Nat) : ByteArray := lineOf (wrdB k) (decL 0 t) key (txtB text) (decL 2 f) (decL 2 e)
theorem lineOf_size (a b c d e f : ByteArray) : (lineOf a b c d e f).size = a.size + b.size + c.size + d.size + e.size + f.size + 6 := by
  unfold lineOf
  simp only [ByteArray.size_append]
  have h1 : spB.size = 1 := rfl
  have h2 : nlB.size = 1 := rfl
  omega

set_option maxHeartbeats 1000000 in
theorem l7Words_any (w : World) :
    Calls Try.prog 104 #[] w fun e w' => ∃ g, e = .returned (.slice (some ⟨g, 0, none⟩) 5 5) ∧ Below w.heap.size w w' ∧ w.heap.size ≤ g ∧ g < w'.heap.size ∧ ∀ k : Nat, k < 5 → w'.cell? ⟨g, k, none⟩ = some (.string (wrdB k)) := by
  go_enter Try.func104, Try.ntmps104
  go_wp2
  go_ret
  refine ⟨_, rfl, (Below.refl _ _).alloc (Nat.le_refl _) _, Nat.le_refl _, by simp, fun k hk => ?_⟩
  have : k = 0 ∨ k = 1 ∨ k = 2 ∨ k = 3 ∨ k = 4 := by omega
  rcases this with rfl | rfl | rfl | rfl | rfl <;> simp [go_sem, wrdB]

theorem str_add (a b : ByteArray) (ha : a.size ≤ 4096) (hb : b.size ≤ 4096) (w : World) : (Op.stringOp .add a b).run Try.prog w = .ok (.string (a ++ b)) w := run_string_add_sum w a b (by omega)
end Go.Proofs.Ytmfpojminbkojaa
