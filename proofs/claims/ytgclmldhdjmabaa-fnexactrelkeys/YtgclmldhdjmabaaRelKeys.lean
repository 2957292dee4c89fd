/-
  Walks: a table's keys.
-/
import Derived.Test.YtgclmldhdjmabaaRelS
import Derived.Test.YtgclmldhdjmabaaShelf
import Derived.OwnWalk
import Derived.Lib.OwnBridge
namespace Go.Proofs.Ytgclmldhdjmabaa
open Go.RowKit

def keysA (zs : List RowV) : Array ByteArray := (zs.map (·.k)).toArray
def keysTo (zs : List RowV) (k : Nat) : List ByteArray := Lib.compactUpTo (keysA zs) k
def relKeysL (zs : List RowV) : List ByteArray := if relOk zs then keysTo zs zs.length else []
theorem keysA_get {zs : List RowV} {k : Nat} {x : RowV} (h : zs[k]? = some x) : (keysA zs)[k]! = x.k := by
  obtain ⟨hk, rfl⟩ := List.getElem?_eq_some_iff.1 h
  simp [keysA, hk]
theorem keysTo_len (zs : List RowV) : ∀ k, (keysTo zs k).length ≤ k
  | 0 => by simp [keysTo, Lib.compactUpTo]
  | k + 1 => by
    have h := keysTo_len zs k
    unfold keysTo at h ⊢
    rw [Lib.compactUpTo_succ, List.length_append]
    split <;> simp <;> omega
theorem relKeysL_len (zs : List RowV) : (relKeysL zs).length ≤ 24 := by
  unfold relKeysL
  by_cases h : relOk zs = true
  · rw [if_pos h]
    have := keysTo_len zs zs.length
    have := relOk_len h
    omega
  · rw [if_neg h]; simp
theorem keysTo_zero (zs : List RowV) : keysTo zs 0 = [] := by simp [keysTo, Lib.compactUpTo]
theorem toList_beq (a b : ByteArray) : (a.toList == b.toList) = decide (a = b) := by
  rw [Bool.eq_iff_iff, beq_iff_eq, decide_eq_true_eq]
  constructor
  · intro h
    rw [ByteArray.toList_eq, ByteArray.toList_eq] at h
    obtain ⟨⟨x⟩⟩ := a
    obtain ⟨⟨y⟩⟩ := b
    simp at h
    rw [h]
  · rintro rfl; rfl
theorem keysTo_first {zs : List RowV} {x : RowV} (hx : zs[0]? = some x) : keysTo zs 1 = [x.k] := by
  unfold keysTo
  rw [Lib.compactUpTo_succ, if_pos (Lib.keeps_lt_one _ 0 (by omega)), keysA_get hx]
  simp [Lib.compactUpTo]
theorem keysTo_new {zs : List RowV} {k : Nat} {x y : RowV} (hx : zs[k]? = some x) (hy : zs[k - 1]? = some y) (h : (y.k.toList == x.k.toList) = false) : keysTo zs (k + 1) = keysTo zs k ++ [x.k] := by
  unfold keysTo
  rw [Lib.compactUpTo_succ, if_pos, keysA_get hx]
  refine Lib.keeps_pos ?_
  rw [keysA_get hx, keysA_get hy]
  rw [toList_beq, decide_eq_false_iff_not] at h
  exact fun e => h e.symm
theorem keysTo_same {zs : List RowV} {k : Nat} {x y : RowV} (h0 : 0 < k) (hx : zs[k]? = some x) (hy : zs[k - 1]? = some y) (h : (y.k.toList == x.k.toList) = true) : keysTo zs (k + 1) = keysTo zs k := by
  unfold keysTo
  have : Lib.keeps (keysA zs) k = false := by
    refine Lib.keeps_neg h0 ?_
    rw [keysA_get hx, keysA_get hy]
    rw [toList_beq, decide_eq_true_eq] at h
    exact h.symm
  rw [Lib.compactUpTo_succ, this, if_neg (by simp), List.append_nil]
theorem keysTo_last {zs : List RowV} : ∀ (k : Nat) {y : RowV}, zs[k]? = some y → ∃ l, keysTo zs (k + 1) = l ++ [y.k]
  | 0, y, hy => ⟨[], by rw [keysTo_first hy]; rfl⟩
  | k + 1, y, hy => by
    have hk : k < zs.length := by have := (List.getElem?_eq_some_iff.1 hy).1; omega
    have hx : zs[k]? = some zs[k] := List.getElem?_eq_getElem hk
    obtain ⟨l, hl⟩ := keysTo_last k hx
    cases h : (zs[k].k.toList == y.k.toList)
    · exact ⟨_, keysTo_new (k := k + 1) hy hx h⟩
    · refine ⟨l, ?_⟩
      rw [keysTo_same (k := k + 1) (by omega) hy hx h, hl]
      rw [toList_beq, decide_eq_true_eq] at h
      rw [h]

theorem Try.infoT9 : (Try.prog.info? 9).map (fun i => (i.zero, i.size, i.bytes)) = some (some (.string ⟨#[]⟩), 1, 16) := by kernel_rfl
theorem newsOne {w : World} {g : Nat} {f : Value} (h0 : w.cell? ⟨g, 0, none⟩ = some f) : ∀ j u, [f][j]? = some u → w.cell? ((⟨g, 0, none⟩ : Addr).add j) = some u := by
  intro j u h
  match j, h with
  | 0, h => simp at h; subst h; simpa [Addr.add] using h0
  | j + 1, h => simp at h
theorem flat_text : ∀ l : List ByteArray, flatOf textC l = l.map Value.string
  | [] => rfl
  | x :: l => by rw [flatOf, flat_text l]; rfl
theorem ownTexts {w : World} {base n : Nat} {v : Value} {o : List ByteArray} {x : ByteArray} {t : TypeId} (h : w.ownsRow base t 1 v n (flatOf textC o ++ [.string x])) (hn : n = o.length + 1) : w.ownsRow base t 1 v (o ++ [x]).length (flatOf textC (o ++ [x])) := by
  rw [flatOf_append, flatOf_one, List.length_append, List.length_singleton]
  subst hn
  exact h

set_option maxHeartbeats 1000000 in
theorem Compact_nil (w : World) : Calls Try.prog 101 #[.slice none 0 0] w fun e w' => e = .returned (.slice none 0 0) ∧ w' = w := by
  go_enter Try.func101, Try.ntmps101
  go_wp2
  go_ret
  exact ⟨rfl, rfl⟩

theorem eqlS (P : Program) (T : TypeId) : EqlAt P T Value.string (fun x y => decide (x = y)) := by
  have := EqlAt.string P T
  simpa only [toList_beq] using this
theorem neqS (P : Program) (T : TypeId) : NeqAt P T Value.string (fun x y => decide (x = y)) := by
  have := NeqAt.string P T
  simpa only [toList_beq] using this

theorem Compact_own (base : Nat) (v : Value) (ks : List ByteArray) (w : World) (h : w.ownsRow base 9 1 v ks.length (flatOf textC ks)) (hw : Below base w w) (hb : base ≤ w.heap.size) :
    Calls Try.prog 101 #[v] w fun e w' => ∃ v', e = .returned v' ∧ w'.ownsRow base 9 1 v' (Lib.compactUpTo ks.toArray ks.length).length (flatOf textC (Lib.compactUpTo ks.toArray ks.length)) ∧ Below base w w' := by
  rw [flat_text] at h
  by_cases hv : v = .slice none 0 0
  · subst hv
    have hl : ks = [] := by
      rcases h.2 with ⟨_, h0⟩ | ⟨g, c, cur, e, _⟩
      · exact List.length_eq_zero_iff.1 h0
      · cases e
    subst hl
    refine (Compact_nil w).mono fun e w' ⟨he, hw'⟩ => ?_
    subst hw'
    exact ⟨_, he, World.ownsRow_nil _ _ _ _, hw⟩
  · obtain ⟨g, cap, rfl, hg, hgl, hn, hcap, hlen, hH⟩ := Lib.holds_of_ownsRow h hv
    have hm : ks.length ≤ 9223372036854775807 := by unfold maxLen at hcap; omega
    have hcon := AnyE.slices_Compact Try.compactS Value.string (fun _ => rfl) (eqlS _ _) (neqS _ _) ⟨#[]⟩ Try.zeroValue9 g 0 cap ks.toArray w hH (by simpa using hm) (by simpa using hn)
    change Calls Try.prog 101 _ _ _ at hcon
    simp only [List.size_toArray] at hcon
    refine hcon.mono fun e w' ⟨he, q, hw'⟩ => ?_
    have hle : (Lib.compactUpTo ks.toArray ks.length).length ≤ ks.length := Lib.compact_length_le ks
    subst hw'
    have hc := Lib.ownsRow_putRow (q := q) (k := (Lib.compactUpTo ks.toArray ks.length).length) (ys := Lib.compactUpTo ks.toArray ks.length ++ List.replicate (ks.length - (Lib.compactUpTo ks.toArray ks.length).length) ⟨#[]⟩) h (by simp; omega) hle
    rw [List.take_left, ← flat_text] at hc
    exact ⟨_, he, hc, Lib.below_putRow hw hg⟩

set_option maxRecDepth 100000 in
set_option maxHeartbeats 4000000 in
theorem RelKeys_any (A : Option Addr) (cap : Nat) (zs : List RowV) (w : World) (hz : RowsA w A zs) (hl : zs.length ≤ 1048577) (hs : ∀ r ∈ zs, r.k.size ≤ maxLen ∧ r.t.size ≤ maxLen) :
    Calls Try.prog 43 #[.slice A zs.length cap] w (GetsE textC 1 9 w (relKeysL zs)) := by
  obtain ⟨i0, hi, hz0, hz1, hz2⟩ := info_parts Try.infoT9
  have Hi := Lib.hid hi
  have Hz0 := Lib.hid hz0
  have Hz1 := Lib.hid hz1
  have Hz2 := Lib.hid hz2
  have HZ := Lib.hid hz
  have HS := Lib.hid hs
  obtain ⟨o, ho⟩ : ∃ o, relOk zs = o := ⟨_, rfl⟩
  have HO := Lib.hid ho
  clear hi hz0 hz1 hz2 hz hs ho
  go_enter Try.func43, Try.ntmps43
  go_wp2_with fail
  refine (RelOk_any _ _ _ _ HZ.out hl HS.out).mono ?_
  rintro e w1 ⟨rfl, hb1⟩
  rw [HO.out]
  have B1 := Lib.hid hb1
  clear hb1
  cases o
  · go_wp2
    go_ret
    have : relKeysL zs = [] := by simp [relKeysL, HO.out]
    rw [this]
    exact getsE_nil _ _ _ B1.out
  · have hlen := relOk_len HO.out
    have HR := Lib.hid (show relKeysL zs = keysTo zs zs.length from by simp [relKeysL, HO.out])
    go_wp2
    go_loopw [3, 11] (fun v i wr => ∃ k : Nat, k ≤ zs.length ∧ i = .int .i64 k ∧ wr.ownsRow w.heap.size 9 1 v ((zs.take k).map (·.k)).length (flatOf textC ((zs.take k).map (·.k))) ∧ Below w.heap.size w wr) (fun _ i _ => zs.length - (intOf i).toNat)
    case atStart => exact ⟨0, Nat.zero_le _, rfl, World.ownsRow_nil _ _ _ _, B1.out⟩
    case round =>
      obtain ⟨k, hk, rfl, hown, hbr⟩ := hrel
      have Hown := Lib.hid hown
      clear hown
      by_cases hlt : k < zs.length
      · obtain ⟨b, off, x, rfl, hb, hx, c0, c1, c2, c3⟩ := (HZ.out.below hbr).at_ hlt
        have HT := Lib.hid (show (zs.take (k + 1)).map (·.k) = (zs.take k).map (·.k) ++ [x.k] from by
          obtain ⟨hk', hx'⟩ := List.getElem?_eq_some_iff.1 hx
          rw [List.take_succ_eq_append_getElem hk', List.map_append, hx']
          rfl)
        have hlo : ((zs.take k).map (·.k)).length ≤ k := by rw [List.length_map, List.length_take]; omega
        obtain ⟨oo, hoo⟩ : ∃ oo, (zs.take k).map (·.k) = oo := ⟨_, rfl⟩
        rw [hoo] at Hown HT hlo
        clear hx hoo
        have hs2 := hbr.size
        go_wp2_with (at_builtin; refine wpList_append_own _ rfl _ _ 55 rfl w.heap.size 9 i0 _ 1 16 Try.underlying55 Hi.out Hz0.out Hz1.out Hz2.out rfl (by decide) _ oo.length (flatOf textC oo) rfl ((Hown.out.alloc _).alloc _) ⟨wr.heap.size + 1, 0, none⟩ 1 1 [.string x.k] rfl rfl (newsOne (by simp)) (by simp [Value.oneCell']) (by unfold maxLen; omega) (by omega) (by simp; omega) ?_; intro v' w3 hown' hgrow hnil)
        have O3 := Lib.hid (ownTexts (x := x.k) hown' rfl)
        have B3 := Lib.hid (((hbr.alloc hs2 _).alloc (by simp; omega) _).grown hgrow (by simp; omega) (fun i e => by have := (Hown.out.lt i e).1; omega))
        clear hown' hgrow hnil
        refine ⟨⟨k + 1, by omega, by simp, ?_, ?_⟩, ?_⟩
        · rw [HT.out]; exact O3.out
        · exact B3.out
        · simp [intOf]; omega
      · obtain rfl : k = zs.length := by omega
        rw [List.take_length] at Hown
        have HK := Lib.hid (show keysTo zs zs.length = Lib.compactUpTo (zs.map (·.k)).toArray (zs.map (·.k)).length from by rw [List.length_map]; rfl)
        go_wp2_with fail
        refine (Compact_own w.heap.size _ _ _ Hown.out (Below.refl _ _) hbr.size).mono ?_
        rintro e w4 ⟨v', rfl, ho4, hb4⟩
        rw [← HK.out] at ho4
        have O4 := Lib.hid ho4
        have B4 := Lib.hid (hbr.trans hb4)
        clear ho4 hb4
        obtain ⟨A', c', hv⟩ := owns_sliceE O4.out
        subst hv
        go_wp2
        go_ret
        rw [HR.out]
        exact ⟨A', c', rfl, O4.out, B4.out⟩
end Go.Proofs.Ytgclmldhdjmabaa
