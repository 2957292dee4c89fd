/-
  Walks: rows that are the same; the rows of a key.
-/
import Derived.Test.YtacddgipcafdlaaRelS
import Derived.Test.YtacddgipcafdlaaRowS
import Derived.OwnWalk
import Derived.Lib.OwnBridge
namespace Go.Proofs.Ytacddgipcafdlaa
open Go.RowKit Go.Lib

set_option maxRecDepth 100000 in
set_option maxHeartbeats 1000000 in
theorem vaRows_same (A B : Option Addr) (cap cap' : Nat) (zs : List RowV) (w : World) (hz : RowsA w A zs) (hz' : RowsA w B zs) (hl : zs.length ≤ maxLen) :
    Calls Try.prog 44 #[.slice A zs.length cap, .slice B zs.length cap'] w fun e w' => e = .returned (.bool true) ∧ Below w.heap.size w w' := by
  unfold maxLen at hl
  have HZ := Lib.hid hz
  have HZ' := Lib.hid hz'
  clear hz hz'
  go_enter Try.func44, Try.ntmps44
  go_wp2
  go_loopw [5] (fun i wr => ∃ k : Nat, k ≤ zs.length ∧ i = .int .i64 k ∧ Below w.heap.size w wr) (fun i _ => zs.length - (intOf i).toNat)
  case atStart => exact ⟨0, Nat.zero_le _, rfl, Below.refl _ _⟩
  case round =>
    obtain ⟨k, hk, rfl, hbr⟩ := hrel
    by_cases hlt : k < zs.length
    · obtain ⟨b, off, x, rfl, hb, hx, c0, c1, c2, c3⟩ := (HZ.out.below hbr).at_ hlt
      obtain ⟨b', off', x', rfl, hb', hx', d0, d1, d2, d3⟩ := (HZ'.out.below hbr).at_ hlt
      obtain rfl : x' = x := by rw [hx] at hx'; injection hx' with h; exact h.symm
      have hkz : (k : Int) < (zs.length : Int) := by omega
      have hkz0 : (0 : Int) ≤ (k : Int) := by omega
      have h1 : (x'.k.toList == x'.k.toList) = true := by simp
      have h2 : (x'.t.toList == x'.t.toList) = true := by simp
      clear hx hx'
      go_wp2_with fail
      refine wp_region_later (by kernel_rfl) (by kernel_rfl) ?_
      intro f hf1 hf2 hfc
      repeat (go_big_quiet_step ((fail)))
      refine wpQuiet_nil ?_
      rintro _ ⟨v, rfl⟩
      have Hv := Lib.hid (hbr.trans ((hf1.out v).mono hbr.size))
      clear hfc
      go_wp2
      go_roundw
      case rel => exact ⟨k + 1, by omega, by go_num, Hv.out⟩
      case measure => simp [intOf]; omega
    · go_wp2
      go_ret
      exact ⟨rfl, hbr⟩

def keyB (key : ByteArray) (r : RowV) : Bool := r.k.toList == key.toList
theorem of_take {zs : List RowV} {k : Nat} {x : RowV} (key : ByteArray) (hx : zs[k]? = some x) : (zs.take (k + 1)).filter (keyB key) = (zs.take k).filter (keyB key) ++ if keyB key x = true then [x] else [] := by
  obtain ⟨hk, hx⟩ := List.getElem?_eq_some_iff.1 hx
  rw [List.take_succ_eq_append_getElem hk, List.filter_append, hx]
  congr 1
  by_cases h : keyB key x = true <;> simp [h]
theorem newsRow {w : World} {g : Nat} {r : RowV} (h0 : w.cell? ⟨g, 0, none⟩ = some (.string r.k)) (h1 : w.cell? ⟨g, 1, none⟩ = some (.string r.t)) (h2 : w.cell? ⟨g, 2, none⟩ = some (.int .i64 r.f)) (h3 : w.cell? ⟨g, 3, none⟩ = some (.int .i64 r.e)) : ∀ j u, [Value.string r.k, .string r.t, .int .i64 r.f, .int .i64 r.e][j]? = some u → w.cell? ((⟨g, 0, none⟩ : Addr).add j) = some u := by
  intro j u h
  match j, h with
  | 0, h => simp at h; subst h; simpa [Addr.add] using h0
  | 1, h => simp at h; subst h; simpa [Addr.add] using h1
  | 2, h => simp at h; subst h; simpa [Addr.add] using h2
  | 3, h => simp at h; subst h; simpa [Addr.add] using h3
  | j + 4, h => simp at h

set_option maxRecDepth 100000 in
set_option maxHeartbeats 4000000 in
theorem vaOf_any (A : Option Addr) (cap : Nat) (zs : List RowV) (key : ByteArray) (w : World) (hz : RowsA w A zs) (hl : zs.length ≤ 1048577) :
    Calls Try.prog 45 #[.slice A zs.length cap, .string key] w (GetsE rowC 4 72 w (zs.filter (keyB key))) := by
  obtain ⟨i0, hi, hz0, hz1, hz2⟩ := info_parts Try.infoR72
  have Hi := Lib.hid hi
  have Hz0 := Lib.hid hz0
  have Hz1 := Lib.hid hz1
  have Hz2 := Lib.hid hz2
  have HZ := Lib.hid hz
  clear hi hz0 hz1 hz2 hz
  go_enter Try.func45, Try.ntmps45
  go_wp2
  go_loopw [5, 6] (fun v i wr => ∃ k : Nat, k ≤ zs.length ∧ i = .int .i64 k ∧ wr.ownsRow w.heap.size 72 4 v ((zs.take k).filter (keyB key)).length (flatOf rowC ((zs.take k).filter (keyB key))) ∧ Below w.heap.size w wr) (fun _ i _ => zs.length - (intOf i).toNat)
  case atStart =>
    refine ⟨0, Nat.zero_le _, rfl, ?_, (Below.refl _ _).alloc (Nat.le_refl _) _⟩
    have := World.ownsRow_lit (base := w.heap.size) (e := 72) (size := 4) w #[] 0 (by simp) (by simp [maxLen]) (by simp)
    simpa [flatOf] using this
  case round =>
    obtain ⟨k, hk, rfl, hown, hbr⟩ := hrel
    have Hown := Lib.hid hown
    clear hown
    by_cases hlt : k < zs.length
    · obtain ⟨b, off, x, rfl, hb, hx, c0, c1, c2, c3⟩ := (HZ.out.below hbr).at_ hlt
      have HT := Lib.hid (of_take key hx)
      have hlo : ((zs.take k).filter (keyB key)).length ≤ k := by have := List.length_filter_le (keyB key) (zs.take k); rw [List.length_take] at this; omega
      obtain ⟨oo, hoo⟩ : ∃ oo, (zs.take k).filter (keyB key) = oo := ⟨_, rfl⟩
      rw [hoo] at Hown HT hlo
      have hkz : (k : Int) < (zs.length : Int) := by omega
      have hkz0 : (0 : Int) ≤ (k : Int) := by omega
      have hs2 := hbr.size
      clear hx hoo
      cases h1 : (x.k.toList == key.toList)
      · rw [if_neg (by rw [keyB, h1]; simp), List.append_nil] at HT
        go_wp2
        go_roundw
        case rel => exact ⟨k + 1, by omega, by go_num, by rw [HT.out]; exact Hown.out, hbr⟩
        case measure => simp [intOf]; omega
      · rw [if_pos (by rw [keyB, h1])] at HT
        go_wp2_with (at_builtin; refine wpList_append_own _ rfl _ _ 58 rfl w.heap.size 72 i0 _ 4 48 Try.underlying58 Hi.out Hz0.out Hz1.out Hz2.out rfl (by decide) _ oo.length (flatOf rowC oo) rfl (Hown.out.alloc _) ⟨wr.heap.size, 0, none⟩ 1 1 [.string x.k, .string x.t, .int .i64 x.f, .int .i64 x.e] rfl rfl (newsRow (by simp) (by simp) (by simp) (by simp)) (by simp [Value.oneCell']) (by unfold maxLen; omega) (by omega) (by simp; omega) ?_; intro v' w3 hown' hgrow hnil)
        have O3 := Lib.hid (show w3.ownsRow w.heap.size 72 4 v' (oo ++ [x]).length (flatOf rowC (oo ++ [x])) from by rw [flatOf_append, flatOf_one, List.length_append, List.length_singleton]; exact hown')
        have B3 := Lib.hid ((hbr.alloc hs2 _).grown hgrow (by simp; omega) (fun i e => by have := (Hown.out.lt i e).1; omega))
        clear hown' hgrow hnil
        go_wp2
        go_roundw
        case rel => exact ⟨k + 1, by omega, by go_num, by rw [HT.out]; exact O3.out, B3.out⟩
        case measure => simp [intOf]; omega
    · obtain rfl : k = zs.length := by omega
      obtain ⟨oo, hoo⟩ : ∃ oo, (zs.take zs.length).filter (keyB key) = oo := ⟨_, rfl⟩
      have HN := Lib.hid (show zs.filter (keyB key) = oo from by rw [← hoo, List.take_length])
      rw [hoo] at Hown
      clear hoo
      obtain ⟨A', c', hv⟩ := owns_sliceE Hown.out
      subst hv
      go_wp2
      go_ret
      rw [HN.out]
      exact ⟨A', c', rfl, Hown.out, hbr⟩
end Go.Proofs.Ytacddgipcafdlaa
