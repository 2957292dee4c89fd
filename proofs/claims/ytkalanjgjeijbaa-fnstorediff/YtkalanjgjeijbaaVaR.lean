/-
  Walks: rows that are the same; the rows of a key.
-/
import Derived.Test.YtkalanjgjeijbaaRelS
import Derived.Test.YtkalanjgjeijbaaRowS
import Derived.OwnWalk
import Derived.Lib.OwnBridge
namespace Go.Proofs.Ytkalanjgjeijbaa
open Go.RowKit Go.Lib

set_option maxRecDepth 100000 in
set_option maxHeartbeats 1000000 in
theorem vaRows_same (A B : Option Addr) (cap cap' : Nat) (zs : List RowV) (w : World) (hz : RowsA w A zs) (hz' : RowsA w B zs) (hl : zs.length ≤ maxLen) :
    Calls Try.prog 9 #[.slice A zs.length cap, .slice B zs.length cap'] w fun e w' => e = .returned (.bool true) ∧ Below w.heap.size w w' := by
  unfold maxLen at hl
  have HZ := Lib.hid hz
  have HZ' := Lib.hid hz'
  clear hz hz'
  go_enter Try.func9, Try.ntmps9
  go_wp2
  go_loopw [5] (fun i wr => ∃ k : Nat, k ≤ zs.length ∧ i = .int .i64 k ∧ Below w.heap.size w wr) (fun i _ => zs.length - (intOf i).toNat)
  case atStart => exact ⟨0, Nat.zero_le _, rfl, Below.refl _ _⟩
  case round =>
    obtain ⟨k, hk, rfl, hbr⟩ := hrel
    by_cases hlt : k < zs.length
    · obtain ⟨b, off, x, rfl, hb, hx, c0, c1, c2, c3⟩ := (HZ.out.below hbr).at_ hlt
      obtain ⟨b', off', x', rfl, hb', hx', d0, d1, d2, d3⟩ := (HZ'.out.below hbr).at_ hlt
      obtain rfl : x' = x := by rw [hx] at hx'; injection hx' with h; exact h.symm
      have hkz : (k : Int) < (zs.length : Int) := by omega
      have hkz0 : (0 : Int) ≤ (k : Int) := by omega
      have h1 : (x'.k.toList == x'.k.toList) = true := by simp
      have h2 : (x'.t.toList == x'.t.toList) = true := by simp
      clear hx hx'
      go_wp2_with fail
      refine wp_region_later (by kernel_rfl) (by kernel_rfl) ?_
      intro f hf1 hf2 hfc
      repeat (go_big_quiet_step ((fail)))
      refine wpQuiet_nil ?_
      rintro _ ⟨v, rfl⟩
      have Hv := Lib.hid (hbr.trans ((hf1.out v).mono hbr.size))
      clear hfc
      go_wp2
      go_roundw
      case rel => exact ⟨k + 1, by omega, by go_num, Hv.out⟩
      case measure => simp [intOf]; omega
    · go_wp2
      go_ret
      exact ⟨rfl, hbr⟩

def keyB (key : ByteArray) (r : RowV) : Bool := r.k.toList == key.toList
theorem of_take {zs : List RowV} {k : Nat} {x : RowV} (key : ByteArray) (hx : zs[k]? = some x) : (zs.take (k + 1)).filter (keyB key) = (zs.take k).filter (keyB key) ++ if keyB key x = true then [x] else [] := by
  obtain ⟨hk, hx⟩ := List.getElem?_eq_some_iff.1 hx
  rw [List.take_succ_eq_append_getElem hk, List.filter_append, hx]
  congr 1
  by_cases h : keyB key x = true <;> simp [h]
theorem newsRow {w : World} {g : Nat} {r : RowV} (h0 : w.cell? ⟨g, 0, none⟩ = some (.string r.k)) (h1 : w.cell? ⟨g, 1, none⟩ = some (.string r.t)) (h2 : w.cell? ⟨g, 2, none⟩ = some (.int .i64 r.f)) (h3 : w.cell? ⟨g, 3, none⟩ = some (.int .i64 r.e)) : ∀ j u, [Value.string r.k, .string r.t, .int .i64 r.f, .int .i64 r.e][j]? = some u → w.cell? ((⟨g, 0, none⟩ : Addr).add j) = some u := by
  intro j u h
  match j, h with
  | 0, h => simp at h; subst h; simpa [Addr.add] using h0
  | 1, h => simp at h; subst h; simpa [Addr.add] using h1
  | 2, h => simp at h; subst h; simpa [Addr.add] using h2
  | 3, h => simp at h; subst h; simpa [Addr.add] using h3
  | j + 4, h => simp at h

end Go.Proofs.Ytkalanjgjeijbaa
