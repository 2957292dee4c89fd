/-
  Walks: the sum of a text.
-/
import Derived.Test.YtmfpojminbkojaaRows
import Derived.Test.YtmfpojminbkojaaCrcP
import Derived.WalkKit
import Derived.WalkSpells
import Derived.WalkLawsBesides
import Derived.Lib.Hide
namespace Go.Proofs.Ytmfpojminbkojaa
open Go.RowKit

theorem byte_get (s : ByteArray) (k : Nat) (h : k < s.size) : s.data.toList[k]? = some (s[k]'h) := by
  rw [Array.getElem?_toList]; exact Array.getElem?_eq_getElem h
theorem data_len (s : ByteArray) : s.data.toList.length = s.size := by rw [Array.length_toList]; rfl

set_option maxHeartbeats 2000000 in
theorem Crc_any (s : ByteArray) (w : World) (hs : s.size ≤ maxLen) :
    Calls Try.prog 40 #[.string s] w fun e w' => e = .returned (.int .i64 ((crcL s.data.toList : Nat) : Int)) ∧ w' = w := by
  unfold maxLen at hs
  obtain ⟨r, hr⟩ : ∃ r, crcL s.data.toList = r := ⟨_, rfl⟩
  have HR := Lib.hid hr
  rw [hr]
  clear hr
  go_enter Try.func40, Try.ntmps40
  go_wp2
  go_loop [3, 8] (fun v i => ∃ k : Nat, k ≤ s.size ∧ i = .int .i64 k ∧ v = .int .u32 ((crcFrom 4294967295 (s.data.toList.take k) : Nat) : Int)) (fun _ i => s.size - (intOf i).toNat)
  case atStart => exact ⟨0, Nat.zero_le _, rfl, rfl⟩
  case round =>
    obtain ⟨k, hk, rfl, rfl⟩ := hrel
    have hc : crcFrom 4294967295 (s.data.toList.take k) < 4294967296 := crcFrom_lt _ (by omega)
    by_cases hlt : k < s.size
    · have HT := Lib.hid (crcFrom_take (c := 4294967295) (byte_get s k hlt))
      obtain ⟨c, hcc⟩ : ∃ c, crcFrom 4294967295 (s.data.toList.take k) = c := ⟨_, rfl⟩
      rw [hcc] at HT hc ⊢
      clear hcc
      have HX := Lib.hid (show bits .xor .u32 (c : Int) (((s[k]'hlt).toNat : Int) % 4294967296) = ((c ^^^ (s[k]'hlt).toNat : Nat) : Int) from by
        rw [Int.emod_eq_of_lt (by omega) (by have := byte_lt (s[k]'hlt); omega)]; exact u32_xor_nat c (s[k]'hlt).toNat hc (byte_lt _))
      have hxl : c ^^^ (s[k]'hlt).toNat < 4294967296 := xor_lt hc (byte_lt _)
      go_wp2
      go_loop [3, 17] (fun v i => ∃ j : Nat, j ≤ 8 ∧ i = .int .i64 j ∧ v = .int .u32 ((stps j (c ^^^ (s[k]'hlt).toNat) : Nat) : Int)) (fun _ i => 8 - (intOf i).toNat)
      case atStart => exact ⟨0, by omega, rfl, by first | (rw [HX.out]; rfl) | (simp only [HX.out]; rfl) | (simp; exact HX.out)⟩
      case round =>
        obtain ⟨j, hj, rfl, rfl⟩ := hrel
        have hd := stps_lt hxl j
        have HN := Lib.hid (show stps (j + 1) (c ^^^ (s[k]'hlt).toNat) = stp (stps j (c ^^^ (s[k]'hlt).toNat)) from rfl)
        have HB := Lib.hid (show j = 8 → crcByte c (s[k]'hlt) = stps j (c ^^^ (s[k]'hlt).toNat) from fun e => by rw [e]; rfl)
        obtain ⟨d, hdd⟩ : ∃ d, stps j (c ^^^ (s[k]'hlt).toNat) = d := ⟨_, rfl⟩
        rw [hdd] at HN HB hd ⊢
        clear hdd
        by_cases hj8 : j < 8
        · have ha := u32_odd d hd
          by_cases ho : d % 2 = 1
          · have HO := Lib.hid (u32_poly d hd)
            rw [stp_odd ho] at HN
            rw [ho] at ha
            have ha1 : bits .and .u32 (d : Int) 1 = 1 := ha
            clear ha ho
            go_wp2
            go_round
            case rel => exact ⟨j + 1, by omega, by go_num, by rw [HN.out, ← HO.out]⟩
            case measure => simp [intOf]; omega
          · rw [stp_even ho] at HN
            have ho' : d % 2 = 0 := by omega
            rw [ho'] at ha
            have ha1 : bits .and .u32 (d : Int) 1 = 0 := ha
            clear ha ho ho'
            go_wp2
            go_round
            case rel => exact ⟨j + 1, by omega, by go_num, by rw [HN.out, ← half_cast]⟩
            case measure => simp [intOf]; omega
        · have hj' : j = 8 := by omega
          have HE := Lib.hid (HB.out hj')
          clear HB HN
          go_wp2
          go_round
          case rel => exact ⟨k + 1, by omega, by go_num, by rw [HT.out, HE.out]⟩
          case measure => simp [intOf]; omega
    · obtain rfl : k = s.size := by omega
      have HE := Lib.hid (show r = crcFrom 4294967295 (s.data.toList.take s.size) ^^^ 4294967295 from by rw [← HR.out, crcL, List.take_of_length_le (by rw [data_len]; omega)])
      obtain ⟨c, hcc⟩ : ∃ c, crcFrom 4294967295 (s.data.toList.take s.size) = c := ⟨_, rfl⟩
      rw [hcc] at HE hc ⊢
      clear hcc
      have HX := Lib.hid (u32_not c hc)
      have hxl : c ^^^ 4294967295 < 4294967296 := xor_lt hc (by omega)
      go_wp2
      go_ret
      rw [HX.out, HE.out]
      refine ⟨?_, rfl⟩
      have : wrap64 (((c ^^^ 4294967295 : Nat) : Int)) = ((c ^^^ 4294967295 : Nat) : Int) := by
        generalize c ^^^ 4294967295 = z at hxl
        simp [wrap64]; omega
      simp [this]

set_option maxHeartbeats 2000000 in
theorem l7Crc_any (s : ByteArray) (w : World) (hs : s.size ≤ maxLen) :
    Calls Try.prog 70 #[.string s] w fun e w' => e = .returned (.int .i64 ((crcL s.data.toList : Nat) : Int)) ∧ w' = w := by
  unfold maxLen at hs
  obtain ⟨r, hr⟩ : ∃ r, crcL s.data.toList = r := ⟨_, rfl⟩
  have HR := Lib.hid hr
  rw [hr]
  clear hr
  go_enter Try.func70, Try.ntmps70
  go_wp2
  go_loop [3, 4] (fun v i => ∃ k : Nat, k ≤ s.size ∧ i = .int .i64 k ∧ v = .int .i64 ((crcFrom 4294967295 (s.data.toList.take k) : Nat) : Int)) (fun _ i => s.size - (intOf i).toNat)
  case atStart => exact ⟨0, Nat.zero_le _, rfl, rfl⟩
  case round =>
    obtain ⟨k, hk, rfl, rfl⟩ := hrel
    have hc : crcFrom 4294967295 (s.data.toList.take k) < 4294967296 := crcFrom_lt _ (by omega)
    by_cases hlt : k < s.size
    · have HT := Lib.hid (crcFrom_take (c := 4294967295) (byte_get s k hlt))
      obtain ⟨c, hcc⟩ : ∃ c, crcFrom 4294967295 (s.data.toList.take k) = c := ⟨_, rfl⟩
      rw [hcc] at HT hc ⊢
      clear hcc
      have HX := Lib.hid (show bits .xor .i64 (c : Int) (wrap64 ((s[k]'hlt).toNat : Int)) = ((c ^^^ (s[k]'hlt).toNat : Nat) : Int) from by
        rw [show wrap64 ((s[k]'hlt).toNat : Int) = ((s[k]'hlt).toNat : Int) from by have := (s[k]'hlt).toNat_lt; generalize (s[k]'hlt).toNat = z at this; simp [wrap64]; omega]
        exact i64_xorC c (s[k]'hlt).toNat hc (byte_lt _))
      have hxl : c ^^^ (s[k]'hlt).toNat < 4294967296 := xor_lt hc (byte_lt _)
      go_wp2
      go_loop [3, 5] (fun v i => ∃ j : Nat, j ≤ 8 ∧ i = .int .i64 j ∧ v = .int .i64 ((stps j (c ^^^ (s[k]'hlt).toNat) : Nat) : Int)) (fun _ i => 8 - (intOf i).toNat)
      case atStart => exact ⟨0, by omega, rfl, by first | (rw [HX.out]; rfl) | (simp only [HX.out]; rfl) | (simp; exact HX.out)⟩
      case round =>
        obtain ⟨j, hj, rfl, rfl⟩ := hrel
        have hd := stps_lt hxl j
        have HN := Lib.hid (show stps (j + 1) (c ^^^ (s[k]'hlt).toNat) = stp (stps j (c ^^^ (s[k]'hlt).toNat)) from rfl)
        have HB := Lib.hid (show j = 8 → crcByte c (s[k]'hlt) = stps j (c ^^^ (s[k]'hlt).toNat) from fun e => by rw [e]; rfl)
        obtain ⟨d, hdd⟩ : ∃ d, stps j (c ^^^ (s[k]'hlt).toNat) = d := ⟨_, rfl⟩
        rw [hdd] at HN HB hd ⊢
        clear hdd
        by_cases hj8 : j < 8
        · by_cases ho : d % 2 = 1
          · have HO := Lib.hid (i64_poly d hd)
            rw [stp_odd ho] at HN
            have ha1 : (d : Int) % 2 = 1 := by omega
            clear ho
            go_wp2
            go_round
            case rel => exact ⟨j + 1, by omega, by go_num, by rw [HN.out, ← HO.out]⟩
            case measure => simp [intOf]; omega
          · rw [stp_even ho] at HN
            have ha1 : (d : Int) % 2 = 0 := by omega
            clear ho
            go_wp2
            go_round
            case rel => exact ⟨j + 1, by omega, by go_num, by rw [HN.out, ← half_cast]⟩
            case measure => simp [intOf]; omega
        · have hj' : j = 8 := by omega
          have HE := Lib.hid (HB.out hj')
          clear HB HN
          go_wp2
          go_round
          case rel => exact ⟨k + 1, by omega, by go_num, by rw [HT.out, HE.out]⟩
          case measure => simp [intOf]; omega
    · obtain rfl : k = s.size := by omega
      have HE := Lib.hid (show r = crcFrom 4294967295 (s.data.toList.take s.size) ^^^ 4294967295 from by rw [← HR.out, crcL, List.take_of_length_le (by rw [data_len]; omega)])
      obtain ⟨c, hcc⟩ : ∃ c, crcFrom 4294967295 (s.data.toList.take s.size) = c := ⟨_, rfl⟩
      rw [hcc] at HE hc ⊢
      clear hcc
      have HX := Lib.hid (i64_not c hc)
      go_wp2
      go_ret
      rw [HX.out, HE.out]
      exact ⟨rfl, rfl⟩

set_option maxHeartbeats 1000000 in
theorem sCrc_any (s : ByteArray) (w : World) (hs : s.size ≤ maxLen) :
    Calls Try.prog 41 #[.string s] w fun e w' => e = .returned (.int .i64 ((crcL s.data.toList : Nat) : Int)) ∧ w' = w := by
  go_enter Try.func41, Try.ntmps41
  go_wp2_with fail
  refine (l7Crc_any s _ hs).mono ?_
  rintro e w1 ⟨rfl, rfl⟩
  go_wp2
  go_ret
  exact ⟨rfl, rfl⟩

end Go.Proofs.Ytmfpojminbkojaa
