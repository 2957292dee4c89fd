/-
  Walks: a drawn text for the sum.
-/
import Derived.Test.YtmfpojminbkojaaTxY
import Derived.Test.YtmfpojminbkojaaDrawC
namespace Go.Proofs.Ytmfpojminbkojaa
open Go.RowKit

def digitsB : ByteArray := ⟨#[49, 50, 51, 52, 53, 54, 55, 56, 57]⟩
def DrawnText (w : World) (m : Nat) (e : Ending) (w' : World) : Prop := ∃ s : ByteArray, e = .returned (.string s) ∧ s.size ≤ m ∧ Below w.heap.size w w'

set_option maxRecDepth 10000 in
set_option maxHeartbeats 4000000 in
theorem DrawCrc_any (A : Option Addr) (cap : Nat) (zs : List Int) (w : World) (h : Bytes w w.heap.size A zs) (hc : zs.length ≤ cap) (hm : cap ≤ maxLen) :
    Calls Try.prog 39 #[.slice A zs.length cap] w (DrawnText w 256) := by
  go_enter Try.func39, Try.ntmps39
  go_wp2_with fail
  refine (l20Open_any A cap zs w h hc hm).mono ?_
  rintro e w1 ⟨bs, rfl, hrd1, hb1⟩
  have z1 := hb1.size
  have B1 := Lib.hid hb1
  clear h hb1
  go_wp2_with fail
  refine (l20Tx_any w.heap.size bs 0 w1 hrd1 (by omega) (by omega)).mono ?_
  rintro e w2 ⟨ts, A2, cap2, rfl, hn, hB, ho, p2, hp0, hp1, hrd2, hgr2⟩
  have z2 := hgr2.size
  have HB := Lib.hid hB
  have HO := Lib.hid (el_of_owns opC_len ho)
  have G2 := Lib.hid hgr2
  have hl2 := hrd2.lt
  clear hB ho hgr2 hrd1
  go_wp2_with fail
  refine (l7Put_any A2 cap2 ts w2 HO.out (by omega) HB.out).mono ?_
  rintro e w3 ⟨rfl, hb3⟩
  have hs := putB_size HB.out
  generalize putB ts = s at hs ⊢
  have z3 := hb3.size
  have hrd3 := hrd2.kept hb3
  have G3 := Lib.hid (grown_trans G2.out (grown_of_below (r := w.heap.size) hb3))
  clear hrd2 hb3 HO HB G2
  go_wp2_with fail
  refine (ofQ_any (fun s => s.size ≤ 256) w.heap.size w3.heap.size 4 bs [⟨#[]⟩, digitsB, ⟨#[97]⟩, s] p2 _ (rd_alloc hrd3 _) (by omega) (by omega) (by simp) (by simp) (by omega) (by
    intro t ht
    simp only [List.mem_cons, List.not_mem_nil, or_false] at ht
    rcases ht with rfl | rfl | rfl | rfl
    · exact Nat.zero_le _
    · decide
    · decide
    · show t.size ≤ 256
      omega) (by
    intro i hi
    match i, hi with
    | 0, _ => simp [go_sem]
    | 1, _ => simp [go_sem, digitsB]
    | 2, _ => simp [go_sem]
    | 3, _ => simp [go_sem]
    | j + 4, h => simp at h; omega)).mono ?_
  rintro e w4 ⟨t, rfl, ht, -, hgr4⟩
  have B4 := Lib.hid (grown_below B1.out (grown_trans (grown_alloc G3.out _) hgr4) (Nat.le_refl _))
  clear hgr4 G3 hrd3
  go_wp2
  go_ret
  exact ⟨t, rfl, ht, B4.out⟩
end Go.Proofs.Ytmfpojminbkojaa
