/-
  Walks: what a key has at a point.
-/
import Derived.Test.YtacddgipcafdlaaRelAtS
namespace Go.Proofs.Ytacddgipcafdlaa
open Go.RowKit

def getP (key : ByteArray) : List PairV → ByteArray
  | [] => ⟨#[]⟩
  | p :: l => if (p.k.toList == key.toList) = true then p.t else getP key l
def getR (key : ByteArray) (c : Int) : List RowV → ByteArray
  | [] => ⟨#[]⟩
  | x :: l => if ((x.k.toList == key.toList) && hasB x.f x.e c) = true then x.t else getR key c l
theorem getP_eq (key : ByteArray) (c : Int) : ∀ zs : List RowV, getP key ((zs.filter fun x => hasB x.f x.e c).map pairOf) = getR key c zs
  | [] => rfl
  | x :: l => by
    rw [List.filter_cons]
    by_cases h : hasB x.f x.e c = true
    · rw [if_pos h, List.map_cons, getP, getR, h, Bool.and_true, getP_eq key c l]
      rfl
    · have h' : hasB x.f x.e c = false := by simpa using h
      rw [if_neg h, getR, h', Bool.and_false, if_neg (by simp)]
      exact getP_eq key c l
def relGetL (zs : List RowV) (key : ByteArray) (c : Int) : ByteArray := getP key (relAtL zs c)
theorem relGetL_no {zs : List RowV} {key : ByteArray} {c : Int} (h : relOk zs = false) : relGetL zs key c = ⟨#[]⟩ := by simp [relGetL, relAtL, h, getP]
theorem relGetL_ok {zs : List RowV} {key : ByteArray} {c : Int} (h : relOk zs = true) : relGetL zs key c = getR key c zs := by
  rw [relGetL, relAtL, if_pos h, atTo, List.take_length, getP_eq]

theorem drop_at {α : Type} {l : List α} {i : Nat} {x : α} (h : l[i]? = some x) : l.drop i = x :: l.drop (i + 1) := by
  obtain ⟨hi, rfl⟩ := List.getElem?_eq_some_iff.1 h
  exact List.drop_eq_getElem_cons hi
theorem ret_text {a b : ByteArray} (h : a = b) : Ending.returned (.string a) = .returned (.string b) := by rw [h]

set_option maxRecDepth 100000 in
set_option maxHeartbeats 2000000 in
theorem l2Get_any (A : Option Addr) (cap : Nat) (zs : List RowV) (key : ByteArray) (c : Int) (w : World) (hz : RowsA w A zs) (hl : zs.length ≤ 1048577) :
    Calls Try.prog 114 #[.slice A zs.length cap, .string key, .int .i64 c] w fun e w' => e = .returned (.string (getR key c zs)) ∧ Below w.heap.size w w' := by
  have HZ := Lib.hid hz
  clear hz
  go_enter Try.func114, Try.ntmps114
  go_wp2
  go_loopw [7] (fun i wr => ∃ k : Nat, k ≤ zs.length ∧ i = .int .i64 k ∧ getR key c (zs.drop k) = getR key c zs ∧ Below w.heap.size w wr) (fun i _ => zs.length - (intOf i).toNat)
  case atStart => exact ⟨0, Nat.zero_le _, rfl, rfl, Below.refl _ _⟩
  case round =>
    obtain ⟨k, hk, rfl, hg, hbr⟩ := hrel
    have HG := Lib.hid hg
    clear hg
    by_cases hlt : k < zs.length
    · obtain ⟨b, off, x, rfl, hb, hx, c0, c1, c2, c3⟩ := (HZ.out.below hbr).at_ hlt
      have HD := Lib.hid (drop_at hx)
      clear hx
      cases hkey : (x.k.toList == key.toList)
      · have HK := Lib.hid (show getR key c (zs.drop (k + 1)) = getR key c zs from by rw [← HG.out, HD.out, getR, if_neg (by rw [hkey]; simp)])
        go_wp2
        go_roundw
        case rel => exact ⟨k + 1, by omega, by go_num, HK.out, hbr⟩
        case measure => simp [intOf]; omega
      · cases hv : hasB x.f x.e c
        · have HK := Lib.hid (show getR key c (zs.drop (k + 1)) = getR key c zs from by rw [← HG.out, HD.out, getR, if_neg (by rw [hv]; simp)])
          have HV := Lib.hid hv
          clear hv
          go_wp2_with fail
          refine (l1Has_val _ _ _ _ _ HV.out).mono ?_
          rintro e w2 ⟨rfl, hb2⟩
          have B2 := Lib.hid (hbr.trans (hb2.mono hbr.size))
          clear hb2
          go_wp2
          go_roundw
          case rel => exact ⟨k + 1, by omega, by go_num, HK.out, B2.out⟩
          case measure => simp [intOf]; omega
        · have HK := Lib.hid (show getR key c zs = x.t from by rw [← HG.out, HD.out, getR, if_pos (by rw [hkey, hv]; rfl)])
          have HV := Lib.hid hv
          clear hv
          go_wp2_with fail
          refine (l1Has_val _ _ _ _ _ HV.out).mono ?_
          rintro e w2 ⟨rfl, hb2⟩
          replace c1 := cellBelow hb2 hb c1
          have B2 := Lib.hid (hbr.trans (hb2.mono hbr.size))
          clear hb2 c0 c2 c3
          go_wp2
          go_ret
          exact ⟨ret_text HK.out.symm, B2.out⟩
    · obtain rfl : k = zs.length := by omega
      have HK := Lib.hid (show getR key c zs = ⟨#[]⟩ from by rw [← HG.out, List.drop_length]; rfl)
      go_wp2
      go_ret
      exact ⟨ret_text HK.out.symm, hbr⟩

end Go.Proofs.Ytacddgipcafdlaa
