/-
  Walk: the mark of a number as a text.
-/
import Derived.Test.YtacddgipcafdlaaRowW
import Derived.Laws.IdiomStrings
namespace Go.Proofs.Ytacddgipcafdlaa
open Go.RowKit

def digs : Nat → Nat → ByteArray → ByteArray
  | 0, _, acc => acc
  | n + 1, k, acc => if k = 0 then acc else digs n (k / 10) (ByteArray.mk #[UInt8.ofNat (48 + k % 10)] ++ acc)
def markT (k : Int) : ByteArray := if k ≤ 0 then ⟨#[109, 48]⟩ else ByteArray.mk #[109] ++ digs 20 k.toNat ⟨#[]⟩

set_option maxRecDepth 100000 in
set_option maxHeartbeats 1000000 in
theorem markText_any (k0 : Int) (w : World) (h0 : 1 ≤ k0) (h1 : k0 ≤ 4000000000) :
    Calls Try.prog 83 #[.int .i64 k0] w fun e w' => e = .returned (.string (markT k0)) ∧ Below w.heap.size w w' := by
  go_enter Try.func83, Try.ntmps83
  go_wp2
  go_loopw [0, 3] (fun kv out wr => ∃ (n j : Nat) (acc : ByteArray), j < 10 ^ n ∧ n ≤ 20 ∧ j ≤ 4000000000 ∧ acc.size + n ≤ 20 ∧ kv = .int .i64 j ∧ out = .string acc ∧ digs n j acc = digs 20 k0.toNat ⟨#[]⟩ ∧ Below w.heap.size w wr) (fun kv _ _ => (intOf kv).toNat)
  case atStart => exact ⟨20, k0.toNat, ⟨#[]⟩, by omega, by omega, by omega, by simp [ByteArray.size], by congr 1; omega, rfl, rfl, Below.refl _ _⟩
  case round =>
    obtain ⟨n, j, acc, hj, hn, hj', ha, rfl, rfl, he, hbr⟩ := hrel
    have He := Lib.hid he
    clear he
    by_cases hpos : 0 < j
    · have hconv : (convert 54 9 (.slice (some ⟨wr.heap.size, 0, none⟩) 1 1)).run Try.prog (wr.alloc (Obj.cells #[.int .u8 (48 + (j : Int) % 10)] 5)) = .ok (.string ⟨#[UInt8.ofNat (48 + j % 10)]⟩) (wr.alloc (Obj.cells #[.int .u8 (48 + (j : Int) % 10)] 5)) := by
        refine run_convert_bytes_back (P := Try.prog) _ 54 9 5 ⟨wr.heap.size, 0, none⟩ 1 [UInt8.ofNat (48 + j % 10)] Try.underlying54 Try.underlying5 Try.underlying9 ?_
        intro i hi
        have : i = 0 := by simpa using hi
        subst this
        have hb : (48 + j % 10) % 256 = 48 + j % 10 := by omega
        simp [Addr.add, go_sem, hb]
      have hsz : ((ByteArray.mk #[UInt8.ofNat (48 + j % 10)]).size : Int) = 1 := rfl
      obtain ⟨m, rfl⟩ : ∃ m, n = m + 1 := by
        cases n with
        | zero => omega
        | succ m => exact ⟨m, rfl⟩
      have hs2 : (ByteArray.mk #[UInt8.ofNat (48 + j % 10)] ++ acc).size + m ≤ 20 := by rw [ByteArray.size_append]; have : (ByteArray.mk #[UInt8.ofNat (48 + j % 10)]).size = 1 := rfl; omega
      have hd : digs m (j / 10) (ByteArray.mk #[UInt8.ofNat (48 + j % 10)] ++ acc) = digs 20 k0.toNat ⟨#[]⟩ := by
        rw [← He.out]
        conv => rhs; rw [digs, if_neg (by omega)]
      have hj2 : j / 10 < 10 ^ m := by
        rw [Nat.pow_succ] at hj
        omega
      have HD := Lib.hid hd
      have HS2 := Lib.hid hs2
      have HJ2 := Lib.hid hj2
      clear hs2 hd hj2
      generalize ByteArray.mk #[UInt8.ofNat (48 + j % 10)] = bb at hconv hsz HD HS2
      go_wp2
      go_roundw
      case rel => exact ⟨m, j / 10, bb ++ acc, HJ2.out, by omega, by omega, HS2.out, by congr 1, rfl, HD.out, hbr.alloc hbr.size _⟩
      case measure => simp [intOf]; omega
    · obtain rfl : j = 0 := by omega
      have hd : digs n 0 acc = acc := by cases n <;> simp [digs]
      have hm : markT k0 = ByteArray.mk #[109] ++ acc := by rw [markT, if_neg (by omega), ← He.out, hd]
      have HM := Lib.hid hm
      clear hm hd
      go_wp2
      go_ret
      exact ⟨by rw [HM.out]; rfl, hbr⟩
end Go.Proofs.Ytacddgipcafdlaa
