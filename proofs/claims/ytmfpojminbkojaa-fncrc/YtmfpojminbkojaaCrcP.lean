/-
  Plain: the sum of a text, step by step; two texts that differ in one byte alone have two sums.
-/
import Derived.Laws.BitsAllLaws
import Derived.Laws.BitsLemmas
namespace Go.Proofs.Ytmfpojminbkojaa

/-- One step of the sum: one bit less, and the polynomial where that bit was set. -/
def stp (c : Nat) : Nat := if c % 2 = 1 then (c / 2) ^^^ 3988292384 else c / 2
def stps : Nat → Nat → Nat
  | 0, c => c
  | k + 1, c => stp (stps k c)
def crcByte (c : Nat) (b : UInt8) : Nat := stps 8 (c ^^^ b.toNat)
def crcFrom (c : Nat) (bs : List UInt8) : Nat := bs.foldl crcByte c
/-- The sum of a text. -/
def crcL (bs : List UInt8) : Nat := crcFrom 4294967295 bs ^^^ 4294967295

theorem xor_lt {a b : Nat} (ha : a < 4294967296) (hb : b < 4294967296) : a ^^^ b < 4294967296 :=
  Nat.xor_lt_two_pow (n := 32) ha hb
theorem xor_cancel {a b c : Nat} (h : a ^^^ c = b ^^^ c) : a = b := by
  have h1 : (a ^^^ c) ^^^ c = (b ^^^ c) ^^^ c := by rw [h]
  rwa [Nat.xor_assoc, Nat.xor_assoc, Nat.xor_self, Nat.xor_zero, Nat.xor_zero] at h1
theorem stp_lt {c : Nat} (h : c < 4294967296) : stp c < 4294967296 := by
  unfold stp
  split
  · exact xor_lt (by omega) (by omega)
  · omega
theorem stps_lt {c : Nat} (h : c < 4294967296) : ∀ k, stps k c < 4294967296
  | 0 => h
  | k + 1 => stp_lt (stps_lt h k)
theorem byte_lt (b : UInt8) : b.toNat < 4294967296 := by have := b.toNat_lt; omega
theorem crcByte_lt {c : Nat} (h : c < 4294967296) (b : UInt8) : crcByte c b < 4294967296 := stps_lt (xor_lt h (byte_lt b)) 8
theorem crcFrom_lt : ∀ (bs : List UInt8) {c : Nat}, c < 4294967296 → crcFrom c bs < 4294967296
  | [], _, h => h
  | b :: bs, _, h => crcFrom_lt bs (crcByte_lt h b)
theorem crcFrom_take {bs : List UInt8} {c k : Nat} {b : UInt8} (hb : bs[k]? = some b) : crcFrom c (bs.take (k + 1)) = crcByte (crcFrom c (bs.take k)) b := by
  obtain ⟨hk, rfl⟩ := List.getElem?_eq_some_iff.1 hb
  unfold crcFrom
  rw [List.take_succ_eq_append_getElem hk, List.foldl_append]
  rfl
theorem top_bit {a : Nat} (ha : a < 2147483648) : 2147483648 ≤ a ^^^ 3988292384 := by
  have h : (a ^^^ 3988292384).testBit 31 = true := by
    rw [Nat.testBit_xor, Nat.testBit_lt_two_pow (show a < 2 ^ 31 from ha)]
    decide
  exact Nat.ge_two_pow_of_testBit h
theorem stp_inj {a b : Nat} (ha : a < 4294967296) (hb : b < 4294967296) (h : stp a = stp b) : a = b := by
  unfold stp at h
  split at h <;> split at h
  · have := xor_cancel h
    omega
  · have := top_bit (a := a / 2) (by omega)
    omega
  · have := top_bit (a := b / 2) (by omega)
    omega
  · omega
theorem stps_inj {a b : Nat} (ha : a < 4294967296) (hb : b < 4294967296) : ∀ k, stps k a = stps k b → a = b
  | 0, h => h
  | k + 1, h => stps_inj ha hb k (stp_inj (stps_lt ha k) (stps_lt hb k) h)
theorem crcFrom_inj : ∀ (bs : List UInt8) {c d : Nat}, c < 4294967296 → d < 4294967296 → crcFrom c bs = crcFrom d bs → c = d
  | [], _, _, _, _, h => h
  | b :: bs, c, d, hc, hd, h => by
    have h1 := crcFrom_inj bs (crcByte_lt hc b) (crcByte_lt hd b) h
    exact xor_cancel (stps_inj (xor_lt hc (byte_lt b)) (xor_lt hd (byte_lt b)) 8 h1)
theorem crcFrom_set : ∀ (bs : List UInt8) (k : Nat) {c : Nat} {b x : UInt8}, c < 4294967296 → bs[k]? = some x → b ≠ x → crcFrom c (bs.set k b) ≠ crcFrom c bs
  | [], k, _, _, _, _, hx, _ => by simp at hx
  | y :: bs, 0, c, b, x, hc, hx, hn => by
    intro h
    obtain rfl : y = x := by simpa using hx
    have h1 := crcFrom_inj bs (crcByte_lt hc b) (crcByte_lt hc y) h
    have h2 := stps_inj (xor_lt hc (byte_lt b)) (xor_lt hc (byte_lt y)) 8 h1
    rw [Nat.xor_comm c, Nat.xor_comm c] at h2
    exact hn (UInt8.toNat_inj.1 (xor_cancel h2))
  | y :: bs, k + 1, c, b, x, hc, hx, hn => crcFrom_set bs k (crcByte_lt hc y) (by simpa using hx) hn
theorem crc_set {bs : List UInt8} {k : Nat} {b x : UInt8} (hx : bs[k]? = some x) (hn : b ≠ x) : crcL (bs.set k b) ≠ crcL bs :=
  fun h => crcFrom_set bs k (by omega) hx hn (xor_cancel h)
theorem crcL_lt (bs : List UInt8) : crcL bs < 4294967296 := xor_lt (crcFrom_lt bs (by omega)) (by omega)

/-- What the machine reckons. -/
theorem i64_xorC (a b : Nat) (ha : a < 4294967296) (hb : b < 4294967296) : bits .xor .i64 (a : Int) (b : Int) = ((a ^^^ b : Nat) : Int) := by
  have hx := xor_lt ha hb
  have h1 : (BitVec.ofInt 64 (a : Int)).toNat = a := by
    rw [BitVec.ofInt_natCast, BitVec.toNat_ofNat]; exact Nat.mod_eq_of_lt (by omega)
  have h2 : (BitVec.ofInt 64 (b : Int)).toNat = b := by
    rw [BitVec.ofInt_natCast, BitVec.toNat_ofNat]; exact Nat.mod_eq_of_lt (by omega)
  show IntKind.i64.wrap ((BitVec.ofInt 64 (a : Int) ^^^ BitVec.ofInt 64 (b : Int)).toNat : Int) = _
  rw [BitVec.toNat_xor, h1, h2, IntKind.wrap_i64]
  omega
theorem u32_odd (c : Nat) (h : c < 4294967296) : bits .and .u32 (c : Int) 1 = ((c % 2 : Nat) : Int) := by
  have := u32_and_nat c 1 h (by omega)
  rw [nat_mask1] at this
  exact this
theorem half_cast (c : Nat) : (c : Int) / 2 = ((c / 2 : Nat) : Int) := by omega
theorem u32_poly (c : Nat) (h : c < 4294967296) : bits .xor .u32 ((c : Int) / 2) 3988292384 = (((c / 2) ^^^ 3988292384 : Nat) : Int) := by
  rw [half_cast]; exact u32_xor_nat (c / 2) 3988292384 (by omega) (by omega)
theorem i64_poly (c : Nat) (h : c < 4294967296) : bits .xor .i64 ((c : Int) / 2) 3988292384 = (((c / 2) ^^^ 3988292384 : Nat) : Int) := by
  rw [half_cast]; exact i64_xorC (c / 2) 3988292384 (by omega) (by omega)
theorem u32_not (c : Nat) (h : c < 4294967296) : bits .xor .u32 IntKind.u32.max (c : Int) = ((c ^^^ 4294967295 : Nat) : Int) := by
  rw [Nat.xor_comm]; exact u32_xor_nat 4294967295 c (by omega) h
theorem i64_not (c : Nat) (h : c < 4294967296) : bits .xor .i64 (c : Int) 4294967295 = ((c ^^^ 4294967295 : Nat) : Int) := i64_xorC c 4294967295 h (by omega)
theorem stp_odd {c : Nat} (h : c % 2 = 1) : stp c = (c / 2) ^^^ 3988292384 := by rw [stp, if_pos h]
theorem stp_even {c : Nat} (h : ¬ c % 2 = 1) : stp c = c / 2 := by rw [stp, if_neg h]
end Go.Proofs.Ytmfpojminbkojaa
