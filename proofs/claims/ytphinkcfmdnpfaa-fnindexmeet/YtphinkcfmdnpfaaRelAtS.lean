/-
  Walks: all that holds at a point, as the model has it.
-/
import Derived.Test.YtphinkcfmdnpfaaRelS
import Derived.Test.YtphinkcfmdnpfaaHas
import Derived.StillTailTactics
import Derived.OwnWalk
import Derived.Deep.RegionHeld3
import Derived.Deep.AppendLies
namespace Go.Proofs.Ytphinkcfmdnpfaa
open Go.RowKit

def pairOf (x : RowV) : PairV := ⟨x.k, x.t⟩
def atTo (zs : List RowV) (c : Int) (k : Nat) : List PairV := ((zs.take k).filter fun x => hasB x.f x.e c).map pairOf
def relAtL (zs : List RowV) (c : Int) : List PairV := if relOk zs then atTo zs c zs.length else []
theorem atTo_succ {zs : List RowV} {c : Int} {k : Nat} {x : RowV} (hx : zs[k]? = some x) : atTo zs c (k + 1) = atTo zs c k ++ (if hasB x.f x.e c then [pairOf x] else []) := by
  obtain ⟨hk, hx⟩ := List.getElem?_eq_some_iff.1 hx
  subst hx
  unfold atTo
  rw [List.take_succ_eq_append_getElem hk, List.filter_append, List.map_append]
  by_cases h : hasB zs[k].f zs[k].e c = true <;> simp [h]
theorem atTo_len (zs : List RowV) (c : Int) (k : Nat) : (atTo zs c k).length ≤ k := by
  unfold atTo
  rw [List.length_map]
  have := List.length_filter_le (fun x : RowV => hasB x.f x.e c) (zs.take k)
  rw [List.length_take] at this
  omega
theorem relAtL_len (zs : List RowV) (c : Int) : (relAtL zs c).length ≤ 24 := by
  unfold relAtL
  by_cases h : relOk zs = true
  · rw [if_pos h]
    have := atTo_len zs c zs.length
    have := relOk_len h
    omega
  · rw [if_neg h]; simp

theorem Try.infoP44 : (Try.prog.info? 44).map (fun i => (i.zero, i.size, i.bytes)) = some (some (.agg #[.string ⟨#[]⟩, .string ⟨#[]⟩]), 2, 32) := by kernel_rfl
theorem newsTwo {w : World} {g : Nat} {f t : Value} (h0 : w.cell? ⟨g, 0, none⟩ = some f) (h1 : w.cell? ⟨g, 1, none⟩ = some t) : ∀ j u, [f, t][j]? = some u → w.cell? ((⟨g, 0, none⟩ : Addr).add j) = some u := by
  intro j u h
  match j, h with
  | 0, h => simp at h; subst h; simpa [Addr.add] using h0
  | 1, h => simp at h; subst h; simpa [Addr.add] using h1
  | j + 2, h => simp at h

theorem has_val (a b c : Int) (w : World) (v : Bool) (h : hasB a b c = v) : Calls Try.prog 121 #[.agg #[.int .i64 a, .int .i64 b], .int .i64 c] w fun e w' => e = .returned (.bool v) ∧ Below w.heap.size w w' := by
  subst h; exact has_any a b c w
theorem l1Has_val (a b c : Int) (w : World) (v : Bool) (h : hasB a b c = v) : Calls Try.prog 118 #[.agg #[.int .i64 a, .int .i64 b], .int .i64 c] w fun e w' => e = .returned (.bool v) ∧ Below w.heap.size w w' := by
  subst h; exact l1Has_any a b c w

theorem ownPairs {w : World} {base n : Nat} {v : Value} {o : List PairV} {x : PairV} {t : TypeId} (h : w.ownsRow base t 2 v n (flatOf pairC o ++ [.string x.k, .string x.t])) (hn : n = o.length + 1) : w.ownsRow base t 2 v (o ++ [x]).length (flatOf pairC (o ++ [x])) := by
  rw [flatOf_append, flatOf_one, List.length_append, List.length_singleton]
  subst hn
  exact h

set_option maxRecDepth 100000 in
set_option maxHeartbeats 4000000 in
theorem snapshot_any (A : Option Addr) (cap : Nat) (zs : List RowV) (c : Int) (w : World) (hz : RowsA w A zs) (hlen : zs.length ≤ 1048577) :
    Calls Try.prog 69 #[.slice A zs.length cap, .int .i64 c] w (GetsE pairC 2 44 w (atTo zs c zs.length)) := by
  obtain ⟨i0, hi, hz0, hz1, hz2⟩ := info_parts Try.infoP44
  have Hi := Lib.hid hi
  have Hz0 := Lib.hid hz0
  have Hz1 := Lib.hid hz1
  have Hz2 := Lib.hid hz2
  have HZ := Lib.hid hz
  clear hi hz0 hz1 hz2 hz
  go_enter Try.func69, Try.ntmps69
  go_wp2
  go_loopw [5, 10] (fun v i wr => ∃ k : Nat, k ≤ zs.length ∧ i = .int .i64 k ∧ wr.ownsRow w.heap.size 44 2 v (atTo zs c k).length (flatOf pairC (atTo zs c k)) ∧ Below w.heap.size w wr) (fun _ i _ => zs.length - (intOf i).toNat)
  case atStart => exact ⟨0, Nat.zero_le _, rfl, World.ownsRow_nil _ _ _ _, Below.refl _ _⟩
  case round =>
    obtain ⟨k, hk, rfl, hown, hbr⟩ := hrel
    have Hown := Lib.hid hown
    clear hown
    by_cases hlt : k < zs.length
    · obtain ⟨b, off, x, rfl, hb, hx, c0, c1, c2, c3⟩ := (HZ.out.below hbr).at_ hlt
      have HT := Lib.hid (atTo_succ (c := c) hx)
      have hlo := atTo_len zs c k
      obtain ⟨oo, hoo⟩ : ∃ oo, atTo zs c k = oo := ⟨_, rfl⟩
      rw [hoo] at Hown HT hlo
      clear hx hoo
      obtain ⟨hv, hhv⟩ : ∃ hv, hasB x.f x.e c = hv := ⟨_, rfl⟩
      have HV := Lib.hid hhv
      clear hhv
      go_wp2_with fail
      refine (has_val _ _ _ _ hv HV.out).mono ?_
      rintro e w2 ⟨rfl, hb2⟩
      obtain ⟨hc2, hf2⟩ := bcell hb2
      have q0 : w2.cell? ⟨wr.heap.size, 0, none⟩ = some (.string x.k) := (hc2 _ _ (by simp)).trans (by simp [go_sem])
      have q1 : w2.cell? ⟨wr.heap.size, 1, none⟩ = some (.string x.t) := (hc2 _ _ (by simp)).trans (by simp [go_sem])
      have O2 := Lib.hid (ownsKeep (Hown.out.alloc _) hb2)
      have B2 := Lib.hid ((hbr.alloc hbr.size _).trans (hb2.mono (by have := hbr.size; simp; omega)))
      clear hc2 hf2 hb2 Hown hbr c0 c1 c2 c3 hb
      cases hv
      · rw [HV.out, if_neg (by simp), List.append_nil] at HT
        go_wp2
        go_roundw
        case rel => exact ⟨k + 1, by omega, by go_num, by rw [HT.out]; exact O2.out, B2.out⟩
        case measure => simp [intOf]; omega
      · rw [HV.out, if_pos rfl] at HT
        have hs2 := B2.out.size
        go_wp2_with (at_builtin; refine wpList_append_own _ rfl _ _ 34 rfl w.heap.size 44 i0 _ 2 32 Try.underlying34 Hi.out Hz0.out Hz1.out Hz2.out rfl (by decide) _ oo.length (flatOf pairC oo) rfl (O2.out.alloc _) ⟨w2.heap.size, 0, none⟩ 1 1 [.string x.k, .string x.t] rfl rfl (newsTwo (by simp) (by simp)) (by simp [Value.oneCell']) (by unfold maxLen; omega) (by omega) (by simp; omega) ?_; intro v' w3 hown' hgrow hnil)
        have O3 := Lib.hid (ownPairs (x := pairOf x) hown' rfl)
        have B3 := Lib.hid ((B2.out.alloc hs2 _).grown hgrow (by simp; omega) (fun i e => by have := (O2.out.lt i e).1; omega))
        clear hown' hgrow hnil
        refine ⟨⟨k + 1, by omega, by simp, ?_, ?_⟩, ?_⟩
        · rw [HT.out]; exact O3.out
        · exact B3.out
        · simp [intOf]; omega
    · obtain rfl : k = zs.length := by omega
      obtain ⟨A', c', hv⟩ := owns_sliceE Hown.out
      subst hv
      go_wp2
      go_ret
      exact ⟨A', c', rfl, Hown.out, hbr⟩

set_option maxHeartbeats 1000000 in
theorem RelAt_any (A : Option Addr) (cap : Nat) (zs : List RowV) (c : Int) (w : World) (hz : RowsA w A zs) (hl : zs.length ≤ 1048577) (hs : ∀ r ∈ zs, r.k.size ≤ maxLen ∧ r.t.size ≤ maxLen) :
    Calls Try.prog 19 #[.slice A zs.length cap, .int .i64 c] w (GetsE pairC 2 44 w (relAtL zs c)) := by
  have HZ := Lib.hid hz
  have HS := Lib.hid hs
  obtain ⟨o, ho⟩ : ∃ o, relOk zs = o := ⟨_, rfl⟩
  have HO := Lib.hid ho
  clear hz hs ho
  go_enter Try.func19, Try.ntmps19
  go_wp2_with fail
  refine (RelOk_any _ _ _ _ HZ.out hl HS.out).mono ?_
  rintro e w1 ⟨rfl, hb1⟩
  rw [HO.out]
  have B1 := Lib.hid hb1
  clear hb1
  cases o
  · go_wp2
    go_ret
    have : relAtL zs c = [] := by simp [relAtL, HO.out]
    rw [this]
    exact getsE_nil _ _ _ B1.out
  · have HR := Lib.hid (show relAtL zs c = atTo zs c zs.length from by simp [relAtL, HO.out])
    go_wp2_with fail
    refine (snapshot_any _ _ _ _ _ (HZ.out.below B1.out) hl).mono ?_
    rintro e w2 h2
    obtain ⟨A', c', rfl, h3⟩ := getsE_after h2 B1.out
    have H3 := Lib.hid h3
    clear h2 h3
    go_wp2
    go_ret
    rw [HR.out]
    exact ⟨A', c', rfl, H3.out⟩
end Go.Proofs.Ytphinkcfmdnpfaa
namespace Go.Proofs.Ytphinkcfmdnpfaa
open Go.RowKit

set_option maxRecDepth 100000 in
set_option maxHeartbeats 4000000 in
theorem l2At_any (A : Option Addr) (cap : Nat) (zs : List RowV) (c : Int) (w : World) (hz : RowsA w A zs) (hl : zs.length ≤ 1048577) :
    Calls Try.prog 66 #[.slice A zs.length cap, .int .i64 c] w (GetsE pairC 2 44 w (atTo zs c zs.length)) := by
  obtain ⟨i0, hi, hz0, hz1, hz2⟩ := info_parts Try.infoP44
  have Hi := Lib.hid hi
  have Hz0 := Lib.hid hz0
  have Hz1 := Lib.hid hz1
  have Hz2 := Lib.hid hz2
  have HZ := Lib.hid hz
  clear hi hz0 hz1 hz2 hz
  go_enter Try.func66, Try.ntmps66
  go_wp2
  go_loopw [5, 6] (fun v i wr => ∃ k : Nat, k ≤ zs.length ∧ i = .int .i64 k ∧ wr.ownsRow w.heap.size 44 2 v (atTo zs c k).length (flatOf pairC (atTo zs c k)) ∧ Below w.heap.size w wr) (fun _ i _ => zs.length - (intOf i).toNat)
  case atStart =>
    refine ⟨0, Nat.zero_le _, rfl, ?_, (Below.refl _ _).alloc (Nat.le_refl _) _⟩
    have := World.ownsRow_lit (base := w.heap.size) (e := 44) (size := 2) w #[] 0 (by simp) (by simp [maxLen]) (by simp)
    simpa [flatOf, atTo] using this
  case round =>
    obtain ⟨k, hk, rfl, hown, hbr⟩ := hrel
    have Hown := Lib.hid hown
    clear hown
    by_cases hlt : k < zs.length
    · obtain ⟨b, off, x, rfl, hb, hx, c0, c1, c2, c3⟩ := (HZ.out.below hbr).at_ hlt
      have HT := Lib.hid (atTo_succ (c := c) hx)
      have hlo := atTo_len zs c k
      obtain ⟨oo, hoo⟩ : ∃ oo, atTo zs c k = oo := ⟨_, rfl⟩
      rw [hoo] at Hown HT hlo
      clear hx hoo
      obtain ⟨hv, hhv⟩ : ∃ hv, hasB x.f x.e c = hv := ⟨_, rfl⟩
      have HV := Lib.hid hhv
      clear hhv
      go_wp2_with fail
      refine (l1Has_val _ _ _ _ hv HV.out).mono ?_
      rintro e w2 ⟨rfl, hb2⟩
      replace c0 := cellBelow hb2 hb c0
      replace c1 := cellBelow hb2 hb c1
      have O2 := Lib.hid (ownsKeep Hown.out hb2)
      have B2 := Lib.hid (hbr.trans (hb2.mono hbr.size))
      clear hb2 Hown hbr c2 c3 hb
      cases hv
      · rw [HV.out, if_neg (by simp), List.append_nil] at HT
        go_wp2
        go_roundw
        case rel => exact ⟨k + 1, by omega, by go_num, by rw [HT.out]; exact O2.out, B2.out⟩
        case measure => simp [intOf]; omega
      · rw [HV.out, if_pos rfl] at HT
        have hs2 := B2.out.size
        have hb0 : b < w.heap.size := by
          obtain ⟨b', off', e', hlt', _⟩ := HZ.out (by omega)
          injection e' with e'
          injection e' with e1 e2 e3
          subst e1
          exact hlt'
        have ag : u5.ownBlock ≠ some b := fun e => by have := (O2.out.lt b e).1; omega
        have hb2 : b < w2.heap.size := by omega
        have k0 : (0 : Int) ≤ (k : Int) := Int.natCast_nonneg _
        have k1 : (k : Int) < (zs.length : Int) := by omega
        go_wp2_with fail
        go_region_held3 (fun w' => w'.cell? ⟨b, off + k * 4, none⟩ = some (.string x.k) ∧ w'.cell? ⟨b, off + k * 4 + 1, none⟩ = some (.string x.t))
          (first
            | go_keep
            | (go_split_ands
               refine ⟨?_, ?_⟩
               · (rw [hgrow.cell_far _ (by simp; omega) (Ne.symm ag)]; assumption)
               · (rw [hgrow.cell_far _ (by simp; omega) (Ne.symm ag)]; assumption)))
          ((refine step_append_lies _ (by rfl) _ _ _ (by rfl) w.heap.size 44 i0 _ 2 32 Try.underlying34 Hi.out Hz0.out Hz1.out Hz2.out rfl (by omega) u5 oo.length (flatOf pairC oo) (by rfl) ((O2.out.alloc _).drew)
              ⟨w2.heap.size, 0, none⟩ 1 1 [.string x.k, .string x.t] (by rfl) (by rfl) (World.news_of_block (cs := #[.string x.k, .string x.t]) (t := 44) (fr := (0, 0)) (heap_alloc_new w2 _)) (by simp [Value.oneCell'])
              (by omega) (by unfold maxLen; omega) (by omega) (by simp; omega) (w2.heap.size + 1) (by simp) ?_; intro gg cap1 w3 hown' hgrow hat hlt3))
        have O3 := Lib.hid (ownPairs (x := pairOf x) hown' rfl)
        have B3 := Lib.hid (((B2.out.alloc hs2 _).drew).grown hgrow (by simp; omega) (fun i e => by have := (O2.out.lt i e).1; omega))
        clear hown' hgrow hat
        go_wp2
        go_roundw
        case rel => exact ⟨k + 1, by omega, by go_num, (by rw [HT.out]; exact O3.out), B3.out⟩
        case measure => simp [intOf]; omega
    · obtain rfl : k = zs.length := by omega
      obtain ⟨A', c', hv⟩ := owns_sliceE Hown.out
      subst hv
      go_wp2
      go_ret
      exact ⟨A', c', rfl, Hown.out, hbr⟩

end Go.Proofs.Ytphinkcfmdnpfaa
