/-
  Walks: when a key holds.
-/
import Derived.Test.YtphinkcfmdnpfaaRelS
import Derived.Test.YtphinkcfmdnpfaaSetOf
import Derived.Test.YtphinkcfmdnpfaaAdd
import Derived.OwnWalk
namespace Go.Proofs.Ytphinkcfmdnpfaa
open Go.RowKit

def spanOf (x : RowV) : Int × Int := (x.f, x.e)
def spansTo (zs : List RowV) (key : ByteArray) (k : Nat) : List (Int × Int) := ((zs.take k).filter fun x => x.k.toList == key.toList).map spanOf
def relSpansL (zs : List RowV) (key : ByteArray) : List (Int × Int) := if relOk zs then addAll (spansTo zs key zs.length) else []
theorem spansTo_succ {zs : List RowV} {key : ByteArray} {k : Nat} {x : RowV} (hx : zs[k]? = some x) : spansTo zs key (k + 1) = spansTo zs key k ++ (if (x.k.toList == key.toList) = true then [spanOf x] else []) := by
  obtain ⟨hk, hx⟩ := List.getElem?_eq_some_iff.1 hx
  subst hx
  unfold spansTo
  rw [List.take_succ_eq_append_getElem hk, List.filter_append, List.map_append]
  by_cases h : (zs[k].k.toList == key.toList) = true
  · rw [List.filter_cons, if_pos h, if_pos h]; rfl
  · rw [List.filter_cons, if_neg h, if_neg h]; rfl
theorem spansTo_len (zs : List RowV) (key : ByteArray) (k : Nat) : (spansTo zs key k).length ≤ k := by
  unfold spansTo
  rw [List.length_map]
  have := List.length_filter_le (fun x : RowV => x.k.toList == key.toList) (zs.take k)
  rw [List.length_take] at this
  omega
theorem relOk_span {zs : List RowV} (h : relOk zs = true) {x : RowV} (hx : x ∈ zs) : 0 ≤ x.f ∧ x.f < x.e ∧ x.e ≤ 100 := by
  obtain ⟨k, hk, rfl⟩ := List.mem_iff_getElem.1 hx
  have h1 := relOk_each h hk
  rw [relAt, getD_of (List.getElem?_eq_getElem hk), Bool.and_eq_true] at h1
  have h2 := h1.1
  simp only [rowOk, okSpan, Bool.and_eq_true, decide_eq_true_eq] at h2
  exact h2.2
theorem spansTo_ok {zs : List RowV} (h : relOk zs = true) (key : ByteArray) (k : Nat) : allB (spansTo zs key k) = true := by
  unfold allB
  rw [List.all_eq_true]
  intro s hs
  obtain ⟨x, hx, rfl⟩ := List.mem_map.1 hs
  have hx' : x ∈ zs := List.mem_of_mem_take (List.mem_filter.1 hx).1
  have := relOk_span h hx'
  simp [okB, spanOf, this]
theorem relSpansL_ok (zs : List RowV) (key : ByteArray) : setOk (relSpansL zs key) = true := by
  unfold relSpansL
  by_cases h : relOk zs = true
  · rw [if_pos h]; exact addAll_setOk (spansTo_ok h key _)
  · rw [if_neg h]; rfl
theorem relSpansL_len (zs : List RowV) (key : ByteArray) : (relSpansL zs key).length ≤ 100 := setOk_len (relSpansL_ok zs key)

set_option maxRecDepth 100000 in
set_option maxHeartbeats 4000000 in
theorem l2Spans_any (A : Option Addr) (cap : Nat) (zs : List RowV) (key : ByteArray) (w : World) (hz : RowsA w A zs) (hok : relOk zs = true) :
    Calls Try.prog 77 #[.slice A zs.length cap, .string key] w (Gets w (addAll (spansTo zs key zs.length))) := by
  have HZ := Lib.hid hz
  have HO := Lib.hid hok
  have hlen := relOk_len hok
  clear hz hok
  go_enter Try.func77, Try.ntmps77
  go_wp2
  go_loopw [5, 6] (fun v i wr => ∃ k : Nat, k ≤ zs.length ∧ i = .int .i64 k ∧ wr.ownsRow w.heap.size 29 2 v (addAll (spansTo zs key k)).length (flat (addAll (spansTo zs key k))) ∧ Below w.heap.size w wr) (fun _ i _ => zs.length - (intOf i).toNat)
  case atStart =>
    refine ⟨0, Nat.zero_le _, rfl, ?_, (Below.refl _ _).alloc (Nat.le_refl _) _⟩
    have := World.ownsRow_lit (base := w.heap.size) (e := 29) (size := 2) w #[] 0 (by simp) (by simp [maxLen]) (by simp)
    simpa [flat, addAll, spansTo] using this
  case round =>
    obtain ⟨k, hk, rfl, hown, hbr⟩ := hrel
    have Hown := Lib.hid hown
    clear hown
    by_cases hlt : k < zs.length
    · obtain ⟨b, off, x, rfl, hb, hx, c0, c1, c2, c3⟩ := (HZ.out.below hbr).at_ hlt
      have HT := Lib.hid (spansTo_succ (key := key) hx)
      have hlo := setOk_len (addAll_setOk (spansTo_ok HO.out key k))
      clear hx
      cases hkey : (x.k.toList == key.toList)
      · rw [hkey, if_neg (by simp), List.append_nil] at HT
        go_wp2
        go_roundw
        case rel => exact ⟨k + 1, by omega, by go_num, (by rw [HT.out]; exact Hown.out), hbr⟩
        case measure => simp [intOf]; omega
      · rw [hkey, if_pos rfl] at HT
        have HT2 := Lib.hid (show addAll (spansTo zs key (k + 1)) = addL (addAll (spansTo zs key k)) (x.f, x.e) from by rw [HT.out, addAll_snoc]; rfl)
        obtain ⟨oo, hoo⟩ : ∃ oo, addAll (spansTo zs key k) = oo := ⟨_, rfl⟩
        rw [hoo] at Hown HT2 hlo
        clear hoo
        obtain ⟨A', c', hv⟩ := owns_slice Hown.out
        subst hv
        have BR := Lib.hid hbr
        clear hbr
        go_wp2_with fail
        refine (l1Add_any _ _ _ _ _ _ (owns_spans Hown.out) (by omega)).mono ?_
        rintro e w2 ⟨g2, c2', rfl, ho2, hb2⟩
        have O2 := Lib.hid (owns_base ho2 BR.out.size)
        have B2 := Lib.hid (BR.out.trans (hb2.mono BR.out.size))
        clear ho2 hb2
        go_wp2
        go_roundw
        case rel => exact ⟨k + 1, by omega, by go_num, (by rw [HT2.out]; exact O2.out), B2.out⟩
        case measure => simp [intOf]; omega
    · obtain rfl : k = zs.length := by omega
      obtain ⟨A', c', hv⟩ := owns_slice Hown.out
      subst hv
      go_wp2
      go_ret
      exact ⟨A', c', rfl, Hown.out, hbr⟩

end Go.Proofs.Ytphinkcfmdnpfaa
