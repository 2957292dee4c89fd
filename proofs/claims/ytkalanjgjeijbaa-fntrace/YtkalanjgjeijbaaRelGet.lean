/-
  Walks: what a key has at a point.
-/
import Derived.Test.YtkalanjgjeijbaaRelS
import Derived.Test.YtkalanjgjeijbaaHas
import Derived.StillTailTactics
import Derived.OwnWalk
import Derived.Deep.RegionHeld3
import Derived.Deep.AppendLies
namespace Go.Proofs.Ytkalanjgjeijbaa
open Go.RowKit

def pairOf (x : RowV) : PairV := ⟨x.k, x.t⟩
def atTo (zs : List RowV) (c : Int) (k : Nat) : List PairV := ((zs.take k).filter fun x => hasB x.f x.e c).map pairOf
def relAtL (zs : List RowV) (c : Int) : List PairV := if relOk zs then atTo zs c zs.length else []
theorem atTo_succ {zs : List RowV} {c : Int} {k : Nat} {x : RowV} (hx : zs[k]? = some x) : atTo zs c (k + 1) = atTo zs c k ++ (if hasB x.f x.e c then [pairOf x] else []) := by
  obtain ⟨hk, hx⟩ := List.getElem?_eq_some_iff.1 hx
  subst hx
  unfold atTo
  rw [List.take_succ_eq_append_getElem hk, List.filter_append, List.map_append]
  by_cases h : hasB zs[k].f zs[k].e c = true <;> simp [h]
theorem atTo_len (zs : List RowV) (c : Int) (k : Nat) : (atTo zs c k).length ≤ k := by
  unfold atTo
  rw [List.length_map]
  have := List.length_filter_le (fun x : RowV => hasB x.f x.e c) (zs.take k)
  rw [List.length_take] at this
  omega
theorem relAtL_len (zs : List RowV) (c : Int) : (relAtL zs c).length ≤ 24 := by
  unfold relAtL
  by_cases h : relOk zs = true
  · rw [if_pos h]
    have := atTo_len zs c zs.length
    have := relOk_len h
    omega
  · rw [if_neg h]; simp

theorem Try.infoP88 : (Try.prog.info? 88).map (fun i => (i.zero, i.size, i.bytes)) = some (some (.agg #[.string ⟨#[]⟩, .string ⟨#[]⟩]), 2, 32) := by kernel_rfl
theorem newsTwo {w : World} {g : Nat} {f t : Value} (h0 : w.cell? ⟨g, 0, none⟩ = some f) (h1 : w.cell? ⟨g, 1, none⟩ = some t) : ∀ j u, [f, t][j]? = some u → w.cell? ((⟨g, 0, none⟩ : Addr).add j) = some u := by
  intro j u h
  match j, h with
  | 0, h => simp at h; subst h; simpa [Addr.add] using h0
  | 1, h => simp at h; subst h; simpa [Addr.add] using h1
  | j + 2, h => simp at h

theorem has_val (a b c : Int) (w : World) (v : Bool) (h : hasB a b c = v) : Calls Try.prog 52 #[.agg #[.int .i64 a, .int .i64 b], .int .i64 c] w fun e w' => e = .returned (.bool v) ∧ Below w.heap.size w w' := by
  subst h; exact has_any a b c w
theorem l1Has_val (a b c : Int) (w : World) (v : Bool) (h : hasB a b c = v) : Calls Try.prog 73 #[.agg #[.int .i64 a, .int .i64 b], .int .i64 c] w fun e w' => e = .returned (.bool v) ∧ Below w.heap.size w w' := by
  subst h; exact l1Has_any a b c w

theorem ownPairs {w : World} {base n : Nat} {v : Value} {o : List PairV} {x : PairV} {t : TypeId} (h : w.ownsRow base t 2 v n (flatOf pairC o ++ [.string x.k, .string x.t])) (hn : n = o.length + 1) : w.ownsRow base t 2 v (o ++ [x]).length (flatOf pairC (o ++ [x])) := by
  rw [flatOf_append, flatOf_one, List.length_append, List.length_singleton]
  subst hn
  exact h

set_option maxRecDepth 100000 in
set_option maxHeartbeats 4000000 in
theorem snapshot_any (A : Option Addr) (cap : Nat) (zs : List RowV) (c : Int) (w : World) (hz : RowsA w A zs) (hlen : zs.length ≤ 1048577) :
    Calls Try.prog 55 #[.slice A zs.length cap, .int .i64 c] w (GetsE pairC 2 88 w (atTo zs c zs.length)) := by
  obtain ⟨i0, hi, hz0, hz1, hz2⟩ := info_parts Try.infoP88
  have Hi := Lib.hid hi
  have Hz0 := Lib.hid hz0
  have Hz1 := Lib.hid hz1
  have Hz2 := Lib.hid hz2
  have HZ := Lib.hid hz
  clear hi hz0 hz1 hz2 hz
  go_enter Try.func55, Try.ntmps55
  go_wp2
  go_loopw [5, 10] (fun v i wr => ∃ k : Nat, k ≤ zs.length ∧ i = .int .i64 k ∧ wr.ownsRow w.heap.size 88 2 v (atTo zs c k).length (flatOf pairC (atTo zs c k)) ∧ Below w.heap.size w wr) (fun _ i _ => zs.length - (intOf i).toNat)
  case atStart => exact ⟨0, Nat.zero_le _, rfl, World.ownsRow_nil _ _ _ _, Below.refl _ _⟩
  case round =>
    obtain ⟨k, hk, rfl, hown, hbr⟩ := hrel
    have Hown := Lib.hid hown
    clear hown
    by_cases hlt : k < zs.length
    · obtain ⟨b, off, x, rfl, hb, hx, c0, c1, c2, c3⟩ := (HZ.out.below hbr).at_ hlt
      have HT := Lib.hid (atTo_succ (c := c) hx)
      have hlo := atTo_len zs c k
      obtain ⟨oo, hoo⟩ : ∃ oo, atTo zs c k = oo := ⟨_, rfl⟩
      rw [hoo] at Hown HT hlo
      clear hx hoo
      obtain ⟨hv, hhv⟩ : ∃ hv, hasB x.f x.e c = hv := ⟨_, rfl⟩
      have HV := Lib.hid hhv
      clear hhv
      go_wp2_with fail
      refine (has_val _ _ _ _ hv HV.out).mono ?_
      rintro e w2 ⟨rfl, hb2⟩
      obtain ⟨hc2, hf2⟩ := bcell hb2
      have q0 : w2.cell? ⟨wr.heap.size, 0, none⟩ = some (.string x.k) := (hc2 _ _ (by simp)).trans (by simp [go_sem])
      have q1 : w2.cell? ⟨wr.heap.size, 1, none⟩ = some (.string x.t) := (hc2 _ _ (by simp)).trans (by simp [go_sem])
      have O2 := Lib.hid (ownsKeep (Hown.out.alloc _) hb2)
      have B2 := Lib.hid ((hbr.alloc hbr.size _).trans (hb2.mono (by have := hbr.size; simp; omega)))
      clear hc2 hf2 hb2 Hown hbr c0 c1 c2 c3 hb
      cases hv
      · rw [HV.out, if_neg (by simp), List.append_nil] at HT
        go_wp2
        go_roundw
        case rel => exact ⟨k + 1, by omega, by go_num, by rw [HT.out]; exact O2.out, B2.out⟩
        case measure => simp [intOf]; omega
      · rw [HV.out, if_pos rfl] at HT
        have hs2 := B2.out.size
        go_wp2_with (at_builtin; refine wpList_append_own _ rfl _ _ 69 rfl w.heap.size 88 i0 _ 2 32 Try.underlying69 Hi.out Hz0.out Hz1.out Hz2.out rfl (by decide) _ oo.length (flatOf pairC oo) rfl (O2.out.alloc _) ⟨w2.heap.size, 0, none⟩ 1 1 [.string x.k, .string x.t] rfl rfl (newsTwo (by simp) (by simp)) (by simp [Value.oneCell']) (by unfold maxLen; omega) (by omega) (by simp; omega) ?_; intro v' w3 hown' hgrow hnil)
        have O3 := Lib.hid (ownPairs (x := pairOf x) hown' rfl)
        have B3 := Lib.hid ((B2.out.alloc hs2 _).grown hgrow (by simp; omega) (fun i e => by have := (O2.out.lt i e).1; omega))
        clear hown' hgrow hnil
        refine ⟨⟨k + 1, by omega, by simp, ?_, ?_⟩, ?_⟩
        · rw [HT.out]; exact O3.out
        · exact B3.out
        · simp [intOf]; omega
    · obtain rfl : k = zs.length := by omega
      obtain ⟨A', c', hv⟩ := owns_sliceE Hown.out
      subst hv
      go_wp2
      go_ret
      exact ⟨A', c', rfl, Hown.out, hbr⟩

set_option maxHeartbeats 1000000 in
theorem RelAt_any (A : Option Addr) (cap : Nat) (zs : List RowV) (c : Int) (w : World) (hz : RowsA w A zs) (hl : zs.length ≤ 1048577) (hs : ∀ r ∈ zs, r.k.size ≤ maxLen ∧ r.t.size ≤ maxLen) :
    Calls Try.prog 36 #[.slice A zs.length cap, .int .i64 c] w (GetsE pairC 2 88 w (relAtL zs c)) := by
  have HZ := Lib.hid hz
  have HS := Lib.hid hs
  obtain ⟨o, ho⟩ : ∃ o, relOk zs = o := ⟨_, rfl⟩
  have HO := Lib.hid ho
  clear hz hs ho
  go_enter Try.func36, Try.ntmps36
  go_wp2_with fail
  refine (RelOk_any _ _ _ _ HZ.out hl HS.out).mono ?_
  rintro e w1 ⟨rfl, hb1⟩
  rw [HO.out]
  have B1 := Lib.hid hb1
  clear hb1
  cases o
  · go_wp2
    go_ret
    have : relAtL zs c = [] := by simp [relAtL, HO.out]
    rw [this]
    exact getsE_nil _ _ _ B1.out
  · have HR := Lib.hid (show relAtL zs c = atTo zs c zs.length from by simp [relAtL, HO.out])
    go_wp2_with fail
    refine (snapshot_any _ _ _ _ _ (HZ.out.below B1.out) hl).mono ?_
    rintro e w2 h2
    obtain ⟨A', c', rfl, h3⟩ := getsE_after h2 B1.out
    have H3 := Lib.hid h3
    clear h2 h3
    go_wp2
    go_ret
    rw [HR.out]
    exact ⟨A', c', rfl, H3.out⟩
end Go.Proofs.Ytkalanjgjeijbaa
namespace Go.Proofs.Ytkalanjgjeijbaa
open Go.RowKit

end Go.Proofs.Ytkalanjgjeijbaa
namespace Go.Proofs.Ytkalanjgjeijbaa
open Go.RowKit

def getP (key : ByteArray) : List PairV → ByteArray
  | [] => ⟨#[]⟩
  | p :: l => if (p.k.toList == key.toList) = true then p.t else getP key l
def getR (key : ByteArray) (c : Int) : List RowV → ByteArray
  | [] => ⟨#[]⟩
  | x :: l => if ((x.k.toList == key.toList) && hasB x.f x.e c) = true then x.t else getR key c l
theorem getP_eq (key : ByteArray) (c : Int) : ∀ zs : List RowV, getP key ((zs.filter fun x => hasB x.f x.e c).map pairOf) = getR key c zs
  | [] => rfl
  | x :: l => by
    rw [List.filter_cons]
    by_cases h : hasB x.f x.e c = true
    · rw [if_pos h, List.map_cons, getP, getR, h, Bool.and_true, getP_eq key c l]
      rfl
    · have h' : hasB x.f x.e c = false := by simpa using h
      rw [if_neg h, getR, h', Bool.and_false, if_neg (by simp)]
      exact getP_eq key c l
def relGetL (zs : List RowV) (key : ByteArray) (c : Int) : ByteArray := getP key (relAtL zs c)
theorem relGetL_no {zs : List RowV} {key : ByteArray} {c : Int} (h : relOk zs = false) : relGetL zs key c = ⟨#[]⟩ := by simp [relGetL, relAtL, h, getP]
theorem relGetL_ok {zs : List RowV} {key : ByteArray} {c : Int} (h : relOk zs = true) : relGetL zs key c = getR key c zs := by
  rw [relGetL, relAtL, if_pos h, atTo, List.take_length, getP_eq]

theorem drop_at {α : Type} {l : List α} {i : Nat} {x : α} (h : l[i]? = some x) : l.drop i = x :: l.drop (i + 1) := by
  obtain ⟨hi, rfl⟩ := List.getElem?_eq_some_iff.1 h
  exact List.drop_eq_getElem_cons hi
theorem ret_text {a b : ByteArray} (h : a = b) : Ending.returned (.string a) = .returned (.string b) := by rw [h]

set_option maxRecDepth 100000 in
set_option maxHeartbeats 2000000 in
theorem textIn_any (A : Option Addr) (cap : Nat) (ps : List PairV) (key : ByteArray) (w : World) (hz : PairsA w A ps) (hpl : ps.length ≤ 1048577) :
    Calls Try.prog 35 #[.slice A ps.length cap, .string key] w fun e w' => e = .returned (.string (getP key ps)) ∧ Below w.heap.size w w' := by
  have HA := Lib.hid hz
  clear hz
  go_enter Try.func35, Try.ntmps35
  go_wp2
  go_loopw [9] (fun i wr => ∃ k : Nat, k ≤ ps.length ∧ i = .int .i64 k ∧ getP key (ps.drop k) = getP key ps ∧ Below w.heap.size w wr) (fun i _ => ps.length - (intOf i).toNat)
  case atStart => exact ⟨0, Nat.zero_le _, rfl, rfl, Below.refl _ _⟩
  case round =>
    obtain ⟨k, hk, rfl, hg, hbr⟩ := hrel
    have HG := Lib.hid hg
    clear hg
    by_cases hlt : k < ps.length
    · obtain ⟨b, off, x, rfl, hb, hx, c0, c1⟩ := (HA.out.below hbr).at_ hlt
      have HD := Lib.hid (drop_at hx)
      have B3 := Lib.hid (hbr.alloc hbr.size (.cells #[.string x.k, .string x.t] 88))
      clear hx
      cases hkey : (x.k.toList == key.toList)
      · have HK := Lib.hid (show getP key (ps.drop (k + 1)) = getP key ps from by rw [← HG.out, HD.out, getP, if_neg (by rw [hkey]; simp)])
        go_wp2
        go_roundw
        case rel => exact ⟨k + 1, by omega, by go_num, HK.out, B3.out⟩
        case measure => simp [intOf]; omega
      · have HK := Lib.hid (show getP key ps = x.t from by rw [← HG.out, HD.out, getP, if_pos hkey])
        go_wp2
        go_ret
        exact ⟨ret_text HK.out.symm, B3.out⟩
    · obtain rfl : k = ps.length := by omega
      have HK := Lib.hid (show getP key ps = ⟨#[]⟩ from by rw [← HG.out, List.drop_length]; rfl)
      go_wp2
      go_ret
      exact ⟨ret_text HK.out.symm, hbr⟩

set_option maxHeartbeats 2000000 in
theorem RelGet_any (A : Option Addr) (cap : Nat) (zs : List RowV) (key : ByteArray) (c : Int) (w : World) (hz : RowsA w A zs) (hl : zs.length ≤ 1048577) (hs : ∀ r ∈ zs, r.k.size ≤ maxLen ∧ r.t.size ≤ maxLen) :
    Calls Try.prog 16 #[.slice A zs.length cap, .string key, .int .i64 c] w fun e w' => e = .returned (.string (relGetL zs key c)) ∧ Below w.heap.size w w' := by
  have HZ := Lib.hid hz
  have HS := Lib.hid hs
  have hpl := relAtL_len zs c
  obtain ⟨ps, hps⟩ : ∃ ps, relAtL zs c = ps := ⟨_, rfl⟩
  rw [hps] at hpl
  have HR := Lib.hid (show relGetL zs key c = getP key ps from by rw [relGetL, hps])
  have HP := Lib.hid hps
  clear hz hs hps
  go_enter Try.func16, Try.ntmps16
  go_wp2_with fail
  refine (RelAt_any _ _ _ _ _ HZ.out hl HS.out).mono ?_
  rw [HP.out]
  rintro e w1 ⟨A1, c1, rfl, ho1, hb1⟩
  have HA := Lib.hid (show PairsA w1 A1 ps from el_of_owns pairC_len ho1)
  have B1 := Lib.hid hb1
  clear ho1 hb1
  go_wp2_with fail
  refine (textIn_any _ _ _ _ _ HA.out (by omega)).mono ?_
  rintro e w2 ⟨rfl, hb2⟩
  have B2 := Lib.hid (B1.out.trans (hb2.mono B1.out.size))
  clear hb2
  go_wp2
  go_ret
  exact ⟨ret_text HR.out.symm, B2.out⟩

set_option maxRecDepth 100000 in
set_option maxHeartbeats 2000000 in
theorem l2Get_any (A : Option Addr) (cap : Nat) (zs : List RowV) (key : ByteArray) (c : Int) (w : World) (hz : RowsA w A zs) (hl : zs.length ≤ 1048577) :
    Calls Try.prog 53 #[.slice A zs.length cap, .string key, .int .i64 c] w fun e w' => e = .returned (.string (getR key c zs)) ∧ Below w.heap.size w w' := by
  have HZ := Lib.hid hz
  clear hz
  go_enter Try.func53, Try.ntmps53
  go_wp2
  go_loopw [7] (fun i wr => ∃ k : Nat, k ≤ zs.length ∧ i = .int .i64 k ∧ getR key c (zs.drop k) = getR key c zs ∧ Below w.heap.size w wr) (fun i _ => zs.length - (intOf i).toNat)
  case atStart => exact ⟨0, Nat.zero_le _, rfl, rfl, Below.refl _ _⟩
  case round =>
    obtain ⟨k, hk, rfl, hg, hbr⟩ := hrel
    have HG := Lib.hid hg
    clear hg
    by_cases hlt : k < zs.length
    · obtain ⟨b, off, x, rfl, hb, hx, c0, c1, c2, c3⟩ := (HZ.out.below hbr).at_ hlt
      have HD := Lib.hid (drop_at hx)
      clear hx
      cases hkey : (x.k.toList == key.toList)
      · have HK := Lib.hid (show getR key c (zs.drop (k + 1)) = getR key c zs from by rw [← HG.out, HD.out, getR, if_neg (by rw [hkey]; simp)])
        go_wp2
        go_roundw
        case rel => exact ⟨k + 1, by omega, by go_num, HK.out, hbr⟩
        case measure => simp [intOf]; omega
      · cases hv : hasB x.f x.e c
        · have HK := Lib.hid (show getR key c (zs.drop (k + 1)) = getR key c zs from by rw [← HG.out, HD.out, getR, if_neg (by rw [hv]; simp)])
          have HV := Lib.hid hv
          clear hv
          go_wp2_with fail
          refine (l1Has_val _ _ _ _ _ HV.out).mono ?_
          rintro e w2 ⟨rfl, hb2⟩
          have B2 := Lib.hid (hbr.trans (hb2.mono hbr.size))
          clear hb2
          go_wp2
          go_roundw
          case rel => exact ⟨k + 1, by omega, by go_num, HK.out, B2.out⟩
          case measure => simp [intOf]; omega
        · have HK := Lib.hid (show getR key c zs = x.t from by rw [← HG.out, HD.out, getR, if_pos (by rw [hkey, hv]; rfl)])
          have HV := Lib.hid hv
          clear hv
          go_wp2_with fail
          refine (l1Has_val _ _ _ _ _ HV.out).mono ?_
          rintro e w2 ⟨rfl, hb2⟩
          replace c1 := cellBelow hb2 hb c1
          have B2 := Lib.hid (hbr.trans (hb2.mono hbr.size))
          clear hb2 c0 c2 c3
          go_wp2
          go_ret
          exact ⟨ret_text HK.out.symm, B2.out⟩
    · obtain rfl : k = zs.length := by omega
      have HK := Lib.hid (show getR key c zs = ⟨#[]⟩ from by rw [← HG.out, List.drop_length]; rfl)
      go_wp2
      go_ret
      exact ⟨ret_text HK.out.symm, hbr⟩

end Go.Proofs.Ytkalanjgjeijbaa
