/-
  The walk of the law of the sum (P41).
-/
import Derived.Test.YtmfpojminbkojaaTxZ
import Derived.Test.YtmfpojminbkojaaCrcW
import Derived.Lib.ConvBytes
import Derived.Lib.SlBytesRow
import Derived.Lib.SmallJoins
import Derived.Deep.RegionHeld3
namespace Go.Proofs.Ytmfpojminbkojaa
open Go.RowKit

theorem crc_nil : crcL (⟨#[]⟩ : ByteArray).data.toList = 0 := by decide +kernel
theorem crc_digits : crcL (⟨#[49, 50, 51, 52, 53, 54, 55, 56, 57]⟩ : ByteArray).data.toList = 3421780262 := by decide +kernel
theorem Crc_dig (w : World) : Calls Try.prog 40 #[.string ⟨#[49, 50, 51, 52, 53, 54, 55, 56, 57]⟩] w fun e w' => e = .returned (.int .i64 3421780262) ∧ w' = w :=
  (Crc_any ⟨#[49, 50, 51, 52, 53, 54, 55, 56, 57]⟩ w (by decide)).mono fun e w' ⟨h1, h2⟩ => ⟨by rw [h1, crc_digits]; rfl, h2⟩
theorem Crc_val (s : ByteArray) (w : World) (hs : s.size ≤ maxLen) (c : Nat) (h : crcL s.data.toList = c) : Calls Try.prog 40 #[.string s] w fun e w' => e = .returned (.int .i64 (c : Int)) ∧ w' = w := by
  subst h; exact Crc_any s w hs
theorem sCrc_val (s : ByteArray) (w : World) (hs : s.size ≤ maxLen) (c : Nat) (h : crcL s.data.toList = c) : Calls Try.prog 41 #[.string s] w fun e w' => e = .returned (.int .i64 (c : Int)) ∧ w' = w := by
  subst h; exact sCrc_any s w hs
theorem size_nilC {s : ByteArray} (h : s.size = 0) : s = ⟨#[]⟩ := by
  cases s with
  | mk d => simp [ByteArray.size] at h; subst h; rfl
/-- A text with a byte changed. -/
def bent (s : ByteArray) (k : Nat) (b : UInt8) : ByteArray := ⟨(s.data.toList.set k b).toArray⟩
theorem bent_crc {s : ByteArray} {k : Nat} {b : UInt8} (hk : k < s.size) (hb : b ≠ s[k]'hk) : crcL (bent s k b).data.toList ≠ crcL s.data.toList := by
  show crcL (s.data.toList.set k b).toArray.toList ≠ _
  exact crc_set (byte_get s k hk) hb
theorem bytes_free (w : World) (e : TypeId) (s : ByteArray) (k : Nat) (hk : k < s.size) : (Lib.bytesWorld w e s).frozen? ⟨w.heap.size, k, none⟩ = false := by
  have hb : s.size ≤ (Lib.bytesCells w e s).size := by
    unfold Lib.bytesCells
    rw [Array.size_append, Array.size_map]
    exact Nat.le_add_right _ _
  simp only [World.frozen?, Lib.bytesWorld_at_new]
  simp
  omega
theorem bytes_cells (w : World) (e : TypeId) (s : ByteArray) : ∀ j (hj : j < s.size), (Lib.bytesWorld w e s).cell? ⟨w.heap.size, j, none⟩ = some (.int .u8 ((s[j]'hj).toNat : Int)) := fun j hj => by
  rw [Lib.bytesWorld_cell w e s j hj]
  have := byte_get s j hj
  rw [List.getD, this]
  rfl

theorem set_other {w : World} {g k i : Nat} {u v : Value} (h : w.cell? ⟨g, i, none⟩ = some u) (hn : k ≠ i) : (w.setCell ⟨g, k, none⟩ v).cell? ⟨g, i, none⟩ = some u := by
  rw [World.cell?_setCell_other w ⟨g, k, none⟩ ⟨g, i, none⟩ v (fun e => by injection e with e1 e2 _; exact hn e2)]
  exact h
theorem bent_size (s : ByteArray) (k : Nat) (b : UInt8) : (bent s k b).size = s.size := by
  rw [← data_len, ← data_len]
  show (s.data.toList.set k b).toArray.toList.length = _
  exact List.length_set
theorem bent_at {s : ByteArray} {k i : Nat} {b : UInt8} (hi : i < s.size) (h : i < (bent s k b).size) : (bent s k b)[i]'h = if i = k then b else s[i]'hi := by
  have h1 := byte_get (bent s k b) i h
  have h2 := byte_get s i hi
  have h3 : (bent s k b).data.toList = s.data.toList.set k b := rfl
  rw [h3, List.getElem?_set] at h1
  have hl := data_len s
  split
  · rename_i e
    subst e
    rw [if_pos rfl, if_pos (by omega)] at h1
    exact (Option.some.inj h1).symm
  · rename_i e
    rw [if_neg (fun h => e h.symm), h2] at h1
    exact (Option.some.inj h1).symm
theorem bend_val (x : UInt8) (m : Nat) (h : m < 8) : ∃ b : UInt8, bits .xor .u8 (x.toNat : Int) ((2 : Int) ^ m % 256) = (b.toNat : Int) ∧ b ≠ x := by
  have hx := x.toNat_lt
  have key : ∀ y : UInt8, y ≠ 0 → x ^^^ y ≠ x := fun y hy e => hy (by
    have h2 : x ^^^ (x ^^^ y) = x ^^^ x := by rw [e]
    rw [← UInt8.xor_assoc, UInt8.xor_self, UInt8.zero_xor] at h2
    exact h2)
  have go : ∀ y : UInt8, y ≠ 0 → ∀ v : Int, v = (y.toNat : Int) → ∃ b : UInt8, bits .xor .u8 (x.toNat : Int) v = (b.toNat : Int) ∧ b ≠ x := fun y hy v hv => by
    subst hv
    have hy2 := y.toNat_lt
    exact ⟨x ^^^ y, by rw [u8_xor_nat _ _ (by omega) (by omega), UInt8.toNat_xor], key y hy⟩
  have : m = 0 ∨ m = 1 ∨ m = 2 ∨ m = 3 ∨ m = 4 ∨ m = 5 ∨ m = 6 ∨ m = 7 := by omega
  rcases this with rfl | rfl | rfl | rfl | rfl | rfl | rfl | rfl
  · exact go 1 (by decide) _ (by decide)
  · exact go 2 (by decide) _ (by decide)
  · exact go 4 (by decide) _ (by decide)
  · exact go 8 (by decide) _ (by decide)
  · exact go 16 (by decide) _ (by decide)
  · exact go 32 (by decide) _ (by decide)
  · exact go 64 (by decide) _ (by decide)
  · exact go 128 (by decide) _ (by decide)

set_option maxRecDepth 100000 in
set_option maxHeartbeats 4000000 in
theorem FnCrc_any (A : Option Addr) (n cap : Nat) (zs : List Int) (A2 : Option Addr) (n2 cap2 : Nat) (zs2 : List Int) (w : World) (hz : Bytes w w.heap.size A zs ∧ zs.length = n ∧ n ≤ cap ∧ cap ≤ maxLen) (hz2 : Bytes w w.heap.size A2 zs2 ∧ zs2.length = n2 ∧ n2 ≤ cap2 ∧ cap2 ≤ maxLen) :
    Calls Try.prog 11 #[.slice A n cap, .slice A2 n2 cap2] w fun e w' => e = .returned (.bool true) ∧ Below w.heap.size w w' := by
  obtain ⟨hz, rfl, hc, hm⟩ := hz
  obtain ⟨-, rfl, hc2, hm2⟩ := hz2
  have hm' := hm
  have hm2' := hm2
  unfold maxLen at hm' hm2'
  by_cases hl : (1048576 : Int) < zs.length
  · go_enter Try.func11, Try.ntmps11
    go_wp2
    go_ret
    exact ⟨rfl, Below.refl _ _⟩
  by_cases hl2 : (1048576 : Int) < zs2.length
  · go_enter Try.func11, Try.ntmps11
    go_wp2
    go_ret
    exact ⟨rfl, Below.refl _ _⟩
  go_enter Try.func11, Try.ntmps11
  go_wp2_with fail
  refine (DrawCrc_any A cap zs w hz hc hm).mono ?_
  rintro e w1 ⟨s, rfl, hs, hb1⟩
  have B1 := Lib.hid hb1
  have hsm : s.size ≤ maxLen := by unfold maxLen; omega
  obtain ⟨c, hcs⟩ : ∃ c, crcL s.data.toList = c := ⟨_, rfl⟩
  have HS := Lib.hid hcs
  have hcl : c < 4294967296 := by rw [← hcs]; exact crcL_lt _
  clear hz hb1 hcs
  go_wp2_with fail
  refine (Crc_val s _ hsm c HS.out).mono ?_
  rintro e w2 ⟨rfl, rfl⟩
  go_wp2_with fail
  refine (sCrc_val s _ hsm c HS.out).mono ?_
  rintro e w3 ⟨rfl, rfl⟩
  go_wp2_with fail
  refine (Crc_dig _).mono ?_
  rintro e w4 ⟨rfl, rfl⟩
  by_cases h0 : s.size = 0
  · obtain rfl := size_nilC h0
    obtain rfl : 0 = c := crc_nil.symm.trans HS.out
    go_wp2_with fail
    refine (sCrc_val ⟨#[]⟩ _ hsm 0 crc_nil).mono ?_
    rintro e w5 ⟨rfl, rfl⟩
    go_wp2_with fail
    refine (Crc_dig _).mono ?_
    rintro e w6 ⟨rfl, rfl⟩
    go_wp2
    go_ret
    exact ⟨rfl, B1.out⟩
  · have hp : (0 : Int) < s.size := by omega
    have kc : ∀ W : World, (convert 9 48 (.string s)).run Try.prog W = .ok (.slice (some ⟨W.heap.size, 0, none⟩) s.size (grownCap W s.size 0 5)) (Lib.bytesWorld W 5 s) := fun W => Lib.run_convert_string_bytes W 9 48 5 s Try.underlying9 Try.underlying48 Try.underlying5
    go_upto_region 8 with fail
    have BW := Lib.hid (B1.out.trans (Joins.below_bytesWorld w.heap.size w4 5 s B1.out.size))
    have CW := Lib.hid (bytes_cells w4 5 s)
    have FW := Lib.hid (bytes_free w4 5 s)
    have z4 := B1.out.size
    generalize grownCap w4 s.size 0 5 = cp
    generalize Lib.bytesWorld w4 5 s = W at BW CW FW ⊢
    generalize w4.heap.size = g at CW FW z4 ⊢
    obtain ⟨k, hk⟩ : ∃ k, zs2.length % s.size = k := ⟨_, rfl⟩
    have hks : k < s.size := by rw [← hk]; exact Nat.mod_lt _ (by omega)
    have r1 : Int.tmod (zs2.length : Int) (s.size : Int) = (k : Int) := by rw [← hk]; rfl
    have r2 : (zs2.length : Int) % (s.size : Int) = (k : Int) := by rw [← hk]; rfl
    have r3 : IntKind.i64.wrap (k : Int) = (k : Int) := by rw [IntKind.wrap_i64]; omega
    have k0 : (0 : Int) ≤ (k : Int) := by omega
    have k1 : (k : Int) < (s.size : Int) := by omega
    obtain ⟨m, hm8⟩ : ∃ m, zs2.length % 8 = m := ⟨_, rfl⟩
    have m8 : m < 8 := by omega
    have q1 : Int.tmod (zs2.length : Int) 8 = (m : Int) := by rw [← hm8]; rfl
    have q2 : (zs2.length : Int) % 8 = (m : Int) := by rw [← hm8]; rfl
    have q3 : IntKind.i64.wrap (m : Int) = (m : Int) := by rw [IntKind.wrap_i64]; omega
    have q4 : (0 : Int) ≤ (m : Int) := by omega
    clear hk hm8
    have ck := CW.out k hks
    have fk := FW.out k hks
    obtain ⟨x, hx⟩ : ∃ x, s[k]'hks = x := ⟨_, rfl⟩
    rw [hx] at ck
    go_upto_region 9 with fail
    obtain ⟨b, hb, hbx⟩ := bend_val x m m8
    go_region
    have CB : Lib.Bytes ((W.setCell ⟨g, k, none⟩ (.int .u8 (b.toNat : Int))).drew) g 0 (bent s k b) := fun i h => by
      have hi : i < s.size := by rw [← bent_size s k b]; exact h
      rw [bent_at hi h]
      by_cases e : i = k
      · subst e
        rw [if_pos rfl]
        have := World.cell?_setCell_same W ⟨g, i, none⟩ (.int .u8 (b.toNat : Int)) ck
        simpa using this
      · rw [if_neg e]
        have := set_other (v := .int .u8 (b.toNat : Int)) (CW.out i hi) (show k ≠ i from fun h => e h.symm)
        simpa using this
    have kb := Lib.run_convert_whole (P := Try.prog) _ 48 5 9 Try.underlying48 Try.underlying5 Try.underlying9 g 0 (bent s k b) CB cp
    rw [bent_size] at kb
    have B5 := Lib.hid (show Below w.heap.size w ((W.setCell ⟨g, k, none⟩ (.int .u8 (b.toNat : Int))).drew) from (BW.out.setCell z4 _).drew)
    generalize (W.setCell ⟨g, k, none⟩ (.int .u8 (b.toNat : Int))).drew = W5 at kb B5 ⊢
    obtain ⟨c2, hc2⟩ : ∃ c2, crcL (bent s k b).data.toList = c2 := ⟨_, rfl⟩
    have hne : c2 ≠ c := by rw [← hc2, ← HS.out]; exact bent_crc hks (by rw [hx]; exact hbx)
    have hne1 : ((c2 : Int) == (c : Int)) = false := by rw [beq_eq_false_iff_ne]; omega
    have hne2 : (c2 : Int) ≠ (c : Int) := by omega
    have hne3 : ((c2 : Int) != (c : Int)) = true := by rw [bne, hne1]; rfl
    have HC2 := Lib.hid hc2
    have hbs : (bent s k b).size ≤ maxLen := by rw [bent_size]; exact hsm
    generalize bent s k b = t at kb HC2 hbs ⊢
    clear hc2 CB
    go_wp2_with fail
    refine (Crc_val t _ hbs c2 HC2.out).mono ?_
    rintro e w9 ⟨rfl, rfl⟩
    go_wp2
    go_ret
    exact ⟨by rw [← hne3]; rfl, B5.out⟩
end Go.Proofs.Ytmfpojminbkojaa
