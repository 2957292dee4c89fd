/-
  Walks: how many rows a store knows at each stamp.
-/
import Derived.Test.YtacddgipcafdlaaRowD
import Derived.Test.YtacddgipcafdlaaStoAt
import Derived.OwnWalk
import Derived.Lib.OwnBridge
namespace Go.Proofs.Ytacddgipcafdlaa
open Go.RowKit

def intC (n : Int) : List Value := [.int .i64 n]
theorem intC_len (n : Int) : (intC n).length = 1 := rfl
theorem intC_one (n : Int) : ∀ v ∈ intC n, v.oneCell' = true := by intro v h; simp [intC] at h; subst h; rfl
structure TraV where
  k : Int
  t : ByteArray
def traC (r : TraV) : List Value := [.int .i64 r.k, .string r.t]
def tra0 : TraV := ⟨0, ByteArray.empty⟩
theorem traC_len (r : TraV) : (traC r).length = 2 := rfl
theorem traC_one (r : TraV) : ∀ v ∈ traC r, v.oneCell' = true := by intro v h; simp [traC] at h; rcases h with rfl | rfl <;> rfl

/-- The slice holds these numbers, traces. -/
def IntsA (w : World) (A : Option Addr) (zs : List Int) : Prop := ElAt intC 1 w A zs
def TrasA (w : World) (A : Option Addr) (zs : List TraV) : Prop := ElAt traC 2 w A zs
theorem IntsA.below {w w' : World} {A : Option Addr} {l : List Int} (h : IntsA w A l) (hb : Below w.heap.size w w') : IntsA w' A l := ElAt.below h hb
theorem TrasA.below {w w' : World} {A : Option Addr} {l : List TraV} (h : TrasA w A l) (hb : Below w.heap.size w w') : TrasA w' A l := ElAt.below h hb
theorem IntsA.at_ {w : World} {A : Option Addr} {l : List Int} (h : IntsA w A l) {i : Nat} (hi : i < l.length) : ∃ b off x, A = some ⟨b, off, none⟩ ∧ b < w.heap.size ∧ l[i]? = some x ∧ w.cell? ⟨b, off + i, none⟩ = some (.int .i64 x) := by
  obtain ⟨b, off, e, hlt, hc⟩ := h (by omega)
  have hx : l[i]? = some l[i] := List.getElem?_eq_getElem hi
  have := hc i _ hx 0 _ rfl
  rw [Nat.mul_one, Nat.add_zero] at this
  exact ⟨b, off, _, e, hlt, hx, this⟩
theorem TrasA.at_ {w : World} {A : Option Addr} {l : List TraV} (h : TrasA w A l) {i : Nat} (hi : i < l.length) : ∃ b off x, A = some ⟨b, off, none⟩ ∧ b < w.heap.size ∧ l[i]? = some x ∧ w.cell? ⟨b, off + i * 2, none⟩ = some (.int .i64 x.k) ∧ w.cell? ⟨b, off + i * 2 + 1, none⟩ = some (.string x.t) := by
  obtain ⟨b, off, e, hlt, hc⟩ := h (by omega)
  have hx : l[i]? = some l[i] := List.getElem?_eq_getElem hi
  exact ⟨b, off, _, e, hlt, hx, hc i _ hx 0 _ rfl, hc i _ hx 1 _ rfl⟩
end Go.Proofs.Ytacddgipcafdlaa
namespace Go.Proofs.Ytacddgipcafdlaa
open Go.Shelf Go.RowKit Go.Lib Go.Sort

def manyAt (zs : List VerV) (j : Nat) : Int := ((liveL zs ((j : Int) + 1)).length : Int)
def storeManyL (zs : List VerV) (now : Int) : List Int := if storeB zs now = true then (List.range now.toNat).map (manyAt zs) else []
theorem storeManyL_len (zs : List VerV) (now : Int) : (storeManyL zs now).length ≤ 30 := by
  unfold storeManyL
  split
  · rename_i h
    have := (storeB_iff.1 h).1
    rw [List.length_map, List.length_range]
    omega
  · simp
theorem Try.infoT3 : (Try.prog.info? 3).map (fun i => (i.zero, i.size, i.bytes)) = some (some (.int .i64 0), 1, 8) := by kernel_rfl
theorem news1 {w : World} {g : Nat} {f : Value} (h0 : w.cell? ⟨g, 0, none⟩ = some f) : ∀ j u, [f][j]? = some u → w.cell? ((⟨g, 0, none⟩ : Addr).add j) = some u := by
  intro j u h
  match j, h with
  | 0, h => simp at h; subst h; simpa [Addr.add] using h0
  | j + 1, h => simp at h
theorem ownInts {w : World} {base n : Nat} {v : Value} {o : List Int} {x : Int} {t : TypeId} (h : w.ownsRow base t 1 v n (flatOf intC o ++ [.int .i64 x])) (hn : n = o.length + 1) : w.ownsRow base t 1 v (o ++ [x]).length (flatOf intC (o ++ [x])) := by
  rw [flatOf_append, flatOf_one, List.length_append, List.length_singleton]
  subst hn
  exact h
theorem many_take (zs : List VerV) (k : Nat) : (List.range (k + 1)).map (manyAt zs) = (List.range k).map (manyAt zs) ++ [manyAt zs k] := by
  rw [List.range_succ, List.map_append]; rfl

set_option maxRecDepth 100000 in
set_option maxHeartbeats 4000000 in
theorem StoreMany_any (A : Option Addr) (cap : Nat) (zs : List VerV) (now : Int) (w : World) (hz : VersA w A zs) (hl : zs.length ≤ 1048577) (hs : ShortV zs) :
    Calls Try.prog 31 #[.agg #[.int .i64 now, .slice A zs.length cap]] w (GetsE intC 1 3 w (storeManyL zs now)) := by
  obtain ⟨i0, hi, hz0, hz1, hz2⟩ := info_parts Try.infoT3
  have Hi := Lib.hid hi
  have Hz0 := Lib.hid hz0
  have Hz1 := Lib.hid hz1
  have Hz2 := Lib.hid hz2
  have HS := Lib.hid hs
  clear hi hz0 hz1 hz2 hs
  obtain ⟨sb, hsb⟩ : ∃ sb, storeB zs now = sb := ⟨_, rfl⟩
  have HSB := Lib.hid hsb
  obtain ⟨r, hr⟩ : ∃ r, storeManyL zs now = r := ⟨_, rfl⟩
  have HR := Lib.hid hr
  rw [hr]
  clear hsb hr
  go_enter Try.func31, Try.ntmps31
  go_wp2_with fail
  generalize hW : w.alloc _ = W0
  have s0 : W0.cell? ⟨w.heap.size, 0, none⟩ = some (.int .i64 now) := by rw [← hW]; simp [go_sem]
  have s1 : W0.cell? ⟨w.heap.size, 1, none⟩ = some (.slice A zs.length cap) := by rw [← hW]; simp [go_sem]
  have ls : w.heap.size < W0.heap.size := by rw [← hW]; simp
  have B0 := Lib.hid (show Below w.heap.size w W0 from by rw [← hW]; exact (Below.refl _ _).alloc (Nat.le_refl _) _)
  have HZ := Lib.hid (hz.below B0.out)
  obtain ⟨G, hG⟩ : ∃ G, w.heap.size = G := ⟨_, rfl⟩
  have hGle : w.heap.size ≤ G := Nat.le_of_eq hG
  rw [hG] at s0 s1 ls ⊢
  clear hW hG
  refine (StoreOk_any A cap zs now _ HZ.out hl HS.out).mono ?_
  rw [HSB.out]
  rintro e w1 ⟨rfl, hb⟩
  replace s0 := cellBelow hb ls s0
  replace s1 := cellBelow hb ls s1
  have ls1 := Nat.lt_of_lt_of_le ls hb.size
  have B1 := Lib.hid (B0.out.trans (hb.mono B0.out.size))
  have Z0 := Lib.hid hz
  clear hb HZ B0 ls hz
  cases sb
  · have HE := Lib.hid (show r = [] from by rw [← HR.out, storeManyL, if_neg (by rw [HSB.out]; simp)])
    go_wp2
    go_ret
    rw [HE.out]
    exact getsE_nil _ _ _ B1.out
  · have HE := Lib.hid (show r = (List.range now.toNat).map (manyAt zs) from by rw [← HR.out, storeManyL, if_pos HSB.out])
    have hnow := (storeB_iff.1 HSB.out).1
    obtain ⟨q, rfl⟩ : ∃ q : Nat, now = q := ⟨now.toNat, by omega⟩
    have hq30 : q ≤ 30 := by omega
    clear hnow
    go_wp2
    have S0 := Lib.hid s0
    have S1 := Lib.hid s1
    clear s0 s1
    go_loopw [3, 4] (fun v i wr => ∃ k : Nat, k ≤ q ∧ i = .int .i64 ((k : Int) + 1) ∧ wr.ownsRow (G + 1) 3 1 v ((List.range k).map (manyAt zs)).length (flatOf intC ((List.range k).map (manyAt zs))) ∧ Below (G + 1) w1 wr) (fun _ i _ => q + 1 - (intOf i).toNat)
    case atStart => exact ⟨0, Nat.zero_le _, rfl, World.ownsRow_nil _ _ _ _, Below.refl _ _⟩
    case round =>
      obtain ⟨k, hk, rfl, hown, hbr⟩ := hrel
      have Hown := Lib.hid hown
      clear hown
      have hsz := hbr.size
      have t0 : wr.cell? ⟨G, 0, none⟩ = some (.int .i64 (q : Int)) := (hbr.cell (p := ⟨G, 0, none⟩) (show G < G + 1 by omega)).trans S0.out
      have t1 : wr.cell? ⟨G, 1, none⟩ = some (.slice A zs.length cap) := (hbr.cell (p := ⟨G, 1, none⟩) (show G < G + 1 by omega)).trans S1.out
      have BW := Lib.hid (B1.out.trans (hbr.mono (by omega)))
      by_cases hlt : k < q
      · have HZ := Lib.hid (Z0.out.below BW.out)
        have HT := Lib.hid (many_take zs k)
        have hkq : (k : Int) + 1 ≤ (q : Int) := by omega
        have hmin : min ((k : Int) + 1) (q : Int) = (k : Int) + 1 := by omega
        have hlo : ((List.range k).map (manyAt zs)).length = k := by rw [List.length_map, List.length_range]
        obtain ⟨oo, hoo⟩ : ∃ oo, (List.range k).map (manyAt zs) = oo := ⟨_, rfl⟩
        rw [hoo] at Hown HT hlo
        clear hoo
        go_wp2_with fail
        refine (storeAt_any A cap zs (q : Int) ((k : Int) + 1) _ HZ.out hl).mono ?_
        rintro e w2 ⟨l, A2, c2, rfl, _, hp, _, hb⟩
        rw [hmin] at hp
        have HL := Lib.hid (show (l.length : Int) = manyAt zs k from by rw [hp.length_eq]; rfl)
        have Hown2 := Lib.hid (ownsKeep Hown.out hb)
        have B2 := Lib.hid (hbr.trans (hb.mono (by omega)))
        have hs2 : wr.heap.size ≤ w2.heap.size := hb.size
        have hlo' : oo.length ≤ 30 := by omega
        clear hp hb hbr Hown hlo hmin
        go_wp2_with (at_builtin; refine wpList_append_own _ rfl _ _ 44 rfl (G + 1) 3 i0 _ 1 8 Try.underlying44 Hi.out Hz0.out Hz1.out Hz2.out rfl (by decide) _ oo.length (flatOf intC oo) rfl (Hown2.out.alloc _) ⟨w2.heap.size, 0, none⟩ 1 1 [.int .i64 (l.length : Int)] rfl rfl (news1 (by simp)) (by simp [Value.oneCell']) (by unfold maxLen; omega) (by omega) (by simp; omega) ?_; intro v' w3 hown' hgrow hnil)
        have O3 := Lib.hid (ownInts (x := manyAt zs k) (by rw [← HL.out]; exact hown') rfl)
        have B3 := Lib.hid ((B2.out.alloc (by omega) _).grown hgrow (by simp; omega) (fun i e => by have := (Hown2.out.lt i e).1; omega))
        clear hown' hgrow hnil
        go_wp2
        go_roundw
        case rel => exact ⟨k + 1, by omega, by go_num, by rw [HT.out]; exact O3.out, B3.out⟩
        case measure => simp [intOf]; omega
      · obtain rfl : k = q := by omega
        have hd : ¬ (k : Int) + 1 ≤ (k : Int) := by omega
        obtain ⟨oo, hoo⟩ : ∃ oo, (List.range k).map (manyAt zs) = oo := ⟨_, rfl⟩
        have HN := Lib.hid (show r = oo from by rw [HE.out, ← hoo]; simp)
        rw [hoo] at Hown
        clear hoo
        obtain ⟨A', c', hv⟩ := owns_sliceE Hown.out
        subst hv
        go_wp2
        go_ret
        rw [HN.out]
        exact ⟨A', c', rfl, ownsBase Hown.out (by omega), BW.out⟩
set_option maxRecDepth 100000 in
set_option maxHeartbeats 4000000 in
theorem sStoreMany_any (A : Option Addr) (cap : Nat) (zs : List VerV) (now : Int) (w : World) (hz : VersA w A zs) (hl : zs.length ≤ 1048576) (hs : ShortV zs) :
    Calls Try.prog 30 #[.agg #[.int .i64 now, .slice A zs.length cap]] w (GetsE intC 1 3 w (storeManyL zs now)) := by
  obtain ⟨i0, hi, hz0, hz1, hz2⟩ := info_parts Try.infoT3
  have Hi := Lib.hid hi
  have Hz0 := Lib.hid hz0
  have Hz1 := Lib.hid hz1
  have Hz2 := Lib.hid hz2
  have HS := Lib.hid hs
  clear hi hz0 hz1 hz2 hs
  obtain ⟨sb, hsb⟩ : ∃ sb, storeB zs now = sb := ⟨_, rfl⟩
  have HSB := Lib.hid hsb
  obtain ⟨r, hr⟩ : ∃ r, storeManyL zs now = r := ⟨_, rfl⟩
  have HR := Lib.hid hr
  rw [hr]
  clear hsb hr
  go_enter Try.func30, Try.ntmps30
  go_wp2_with fail
  have hOW := World.ownsRow_lit (base := w.heap.size + 1) (e := 3) (size := 1) (w.alloc (.cells #[.int .i64 now, .slice A zs.length cap] 26)) #[] 0 (by simp) (by simp [maxLen]) (by simp)
  generalize hW : (w.alloc _).alloc _ = W0
  have s0 : W0.cell? ⟨w.heap.size, 0, none⟩ = some (.int .i64 now) := by rw [← hW]; simp [go_sem]
  have s1 : W0.cell? ⟨w.heap.size, 1, none⟩ = some (.slice A zs.length cap) := by rw [← hW]; simp [go_sem]
  have ls : w.heap.size < W0.heap.size := by rw [← hW]; simp; omega
  have B0 := Lib.hid (show Below w.heap.size w W0 from by rw [← hW]; exact ((Below.refl _ _).alloc (Nat.le_refl _) _).alloc (by simp) _)
  have OW := Lib.hid (show W0.ownsRow (w.heap.size + 1) 3 1 (.slice (some ⟨w.heap.size + 1, 0, none⟩) 0 0) 0 (flatOf intC []) from by rw [← hW]; simpa [flatOf] using hOW)
  have HZ := Lib.hid (hz.below B0.out)
  obtain ⟨G, hG⟩ : ∃ G, w.heap.size = G := ⟨_, rfl⟩
  have hGle : w.heap.size ≤ G := Nat.le_of_eq hG
  rw [hG] at s0 s1 ls OW ⊢
  clear hW hG hOW
  refine (l5Ok_any A cap zs now _ HZ.out hl HS.out).mono ?_
  rw [HSB.out]
  rintro e w1 ⟨rfl, hb⟩
  replace s0 := cellBelow hb ls s0
  replace s1 := cellBelow hb ls s1
  have ls1 := Nat.lt_of_lt_of_le ls hb.size
  have B1 := Lib.hid (B0.out.trans (hb.mono B0.out.size))
  have Z0 := Lib.hid hz
  have OW1 := Lib.hid (ownsKeep OW.out hb)
  clear OW hb HZ B0 ls hz
  cases sb
  · have HE := Lib.hid (show r = [] from by rw [← HR.out, storeManyL, if_neg (by rw [HSB.out]; simp)])
    go_wp2
    go_ret
    rw [HE.out]
    exact getsE_nil _ _ _ B1.out
  · have HE := Lib.hid (show r = (List.range now.toNat).map (manyAt zs) from by rw [← HR.out, storeManyL, if_pos HSB.out])
    have hnow := (storeB_iff.1 HSB.out).1
    obtain ⟨q, rfl⟩ : ∃ q : Nat, now = q := ⟨now.toNat, by omega⟩
    have hq30 : q ≤ 30 := by omega
    clear hnow
    go_wp2
    have S0 := Lib.hid s0
    have S1 := Lib.hid s1
    clear s0 s1
    go_loopw [3, 4] (fun v i wr => ∃ k : Nat, k ≤ q ∧ i = .int .i64 ((k : Int) + 1) ∧ wr.ownsRow (G + 1) 3 1 v ((List.range k).map (manyAt zs)).length (flatOf intC ((List.range k).map (manyAt zs))) ∧ Below (G + 1) w1 wr) (fun _ i _ => q + 1 - (intOf i).toNat)
    case atStart => exact ⟨0, Nat.zero_le _, rfl, OW1.out, Below.refl _ _⟩
    case round =>
      obtain ⟨k, hk, rfl, hown, hbr⟩ := hrel
      have Hown := Lib.hid hown
      clear hown
      have hsz := hbr.size
      have t0 : wr.cell? ⟨G, 0, none⟩ = some (.int .i64 (q : Int)) := (hbr.cell (p := ⟨G, 0, none⟩) (show G < G + 1 by omega)).trans S0.out
      have t1 : wr.cell? ⟨G, 1, none⟩ = some (.slice A zs.length cap) := (hbr.cell (p := ⟨G, 1, none⟩) (show G < G + 1 by omega)).trans S1.out
      have BW := Lib.hid (B1.out.trans (hbr.mono (by omega)))
      by_cases hlt : k < q
      · have HZ := Lib.hid (Z0.out.below BW.out)
        have HT := Lib.hid (many_take zs k)
        have hkq : (k : Int) + 1 ≤ (q : Int) := by omega
        have hlo : ((List.range k).map (manyAt zs)).length = k := by rw [List.length_map, List.length_range]
        obtain ⟨oo, hoo⟩ : ∃ oo, (List.range k).map (manyAt zs) = oo := ⟨_, rfl⟩
        rw [hoo] at Hown HT hlo
        clear hoo
        go_wp2_with fail
        refine (l5Live_any A cap zs ((k : Int) + 1) _ HZ.out hl).mono ?_
        obtain ⟨l, hll⟩ : ∃ l, liveS zs ((k : Int) + 1) = l := ⟨_, rfl⟩
        have HL := Lib.hid (show (l.length : Int) = manyAt zs k from by rw [← hll, (liveS_facts zs ((k : Int) + 1)).2.length_eq]; rfl)
        rw [hll]
        clear hll
        rintro e w2 ⟨A2, c2, rfl, _, hb⟩
        have Hown2 := Lib.hid (ownsKeep Hown.out hb)
        have B2 := Lib.hid (hbr.trans (hb.mono (by omega)))
        have hs2 : wr.heap.size ≤ w2.heap.size := hb.size
        have hlo' : oo.length ≤ 30 := by omega
        clear hb hbr Hown hlo
        go_wp2_with (at_builtin; refine wpList_append_own _ rfl _ _ 44 rfl (G + 1) 3 i0 _ 1 8 Try.underlying44 Hi.out Hz0.out Hz1.out Hz2.out rfl (by decide) _ oo.length (flatOf intC oo) rfl (Hown2.out.alloc _) ⟨w2.heap.size, 0, none⟩ 1 1 [.int .i64 (l.length : Int)] rfl rfl (news1 (by simp)) (by simp [Value.oneCell']) (by unfold maxLen; omega) (by omega) (by simp; omega) ?_; intro v' w3 hown' hgrow hnil)
        have O3 := Lib.hid (ownInts (x := manyAt zs k) (by rw [← HL.out]; exact hown') rfl)
        have B3 := Lib.hid ((B2.out.alloc (by omega) _).grown hgrow (by simp; omega) (fun i e => by have := (Hown2.out.lt i e).1; omega))
        clear hown' hgrow hnil
        go_wp2
        go_roundw
        case rel => exact ⟨k + 1, by omega, by go_num, by rw [HT.out]; exact O3.out, B3.out⟩
        case measure => simp [intOf]; omega
      · obtain rfl : k = q := by omega
        have hd : ¬ (k : Int) + 1 ≤ (k : Int) := by omega
        obtain ⟨oo, hoo⟩ : ∃ oo, (List.range k).map (manyAt zs) = oo := ⟨_, rfl⟩
        have HN := Lib.hid (show r = oo from by rw [HE.out, ← hoo]; simp)
        rw [hoo] at Hown
        clear hoo
        obtain ⟨A', c', hv⟩ := owns_sliceE Hown.out
        subst hv
        go_wp2
        go_ret
        rw [HN.out]
        exact ⟨A', c', rfl, ownsBase Hown.out (by omega), BW.out⟩
end Go.Proofs.Ytacddgipcafdlaa
