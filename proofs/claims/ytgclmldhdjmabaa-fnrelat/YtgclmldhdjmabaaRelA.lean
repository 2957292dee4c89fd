/-
  Plain: the pairs of a table at a point rise by key, and each is what its key has there. Two drawn: a table and a point.
-/
import Derived.Test.YtgclmldhdjmabaaDrawL
import Derived.Test.YtgclmldhdjmabaaRelQ
namespace Go.Proofs.Ytgclmldhdjmabaa
open Go.Shelf Go.RowKit Go.Lib Go.Sort

theorem at_rise {zs : List RowV} (h : relOk zs = true) (c : Int) : (relAtL zs c).Pairwise (fun p q => kl p.k q.k = true) := by
  rw [relAtL, if_pos h, atTo, List.take_length, List.pairwise_map]
  have hp : (zs.filter fun x => hasB x.f x.e c).Pairwise adj := (rel_apart h).2.sublist List.filter_sublist
  refine hp.imp_of_mem ?_
  intro x y hx hy hxy
  have h1 : x.f ≤ c ∧ c < x.e := by simpa [hasB] using (List.mem_filter.1 hx).2
  have h2 : y.f ≤ c ∧ c < y.e := by simpa [hasB] using (List.mem_filter.1 hy).2
  rcases hxy with h | ⟨_, h⟩
  · exact h
  · omega
theorem getP_mem : ∀ ps : List PairV, ps.Pairwise (fun p q => kl p.k q.k = true) → ∀ p ∈ ps, getP p.k ps = p.t
  | [], _, p, h => by cases h
  | q :: l, hp, p, h => by
    obtain ⟨h1, h2⟩ := List.pairwise_cons.1 hp
    rw [getP]
    rcases List.mem_cons.1 h with rfl | h
    · rw [if_pos (same_key.2 rfl)]
    · have h3 := h1 p h
      rw [if_neg (fun e => by rw [same_key.1 e, kl_irrefl] at h3; cases h3)]
      exact getP_mem l h2 p h
/-- Each pair at a point is what its key has there. -/
theorem at_get {zs : List RowV} (h : relOk zs = true) {c : Int} {k : Nat} {p : PairV} (hp : (relAtL zs c)[k]? = some p) : relGetL zs p.k c = p.t := by
  rw [relGetL]
  exact getP_mem _ (at_rise h c) p (List.mem_of_getElem? hp)
theorem pairs_rise {ps : List PairV} (hp : ps.Pairwise (fun p q => kl p.k q.k = true)) {k : Nat} {x y : PairV} (h0 : k ≠ 0) (hx : ps[k]? = some x) (hy : ps[k - 1]? = some y) : Op.bytesLess x.k.toList y.k.toList = false ∧ (x.k.toList == y.k.toList) = false := by
  obtain ⟨h1, rfl⟩ := List.getElem?_eq_some_iff.1 hx
  obtain ⟨h2, rfl⟩ := List.getElem?_eq_some_iff.1 hy
  have h := List.pairwise_iff_getElem.1 hp (k - 1) k h2 h1 (by omega)
  refine ⟨kl_asymm h, ?_⟩
  cases he : (ps[k].k.toList == ps[k - 1].k.toList) with
  | false => rfl
  | true => rw [same_key.1 he, kl_irrefl] at h; cases h

/-- A drawn table and a point. -/
def DrawnRA (w : World) (e : Ending) (w' : World) : Prop :=
  ∃ (zs : List RowV) (A : Option Addr) (cap : Nat) (c : Int), e = .returned (.tuple #[.slice A zs.length cap, .int .i64 c]) ∧ -1 ≤ c ∧ c ≤ 30 ∧ zs.length ≤ 25 ∧ Short zs ∧ w'.ownsRow w.heap.size 34 4 (.slice A zs.length cap) zs.length (flatOf rowC zs) ∧ Below w.heap.size w w'

set_option maxRecDepth 100000 in
set_option maxHeartbeats 2000000 in
theorem DrawRelAt_any (A : Option Addr) (cap : Nat) (bs : List Int) (w : World) (h : Bytes w w.heap.size A bs) (hc : bs.length ≤ cap) (hm : cap ≤ maxLen) :
    Calls Try.prog 14 #[.slice A bs.length cap] w (DrawnRA w) := by
  go_enter Try.func14, Try.ntmps14
  go_wp2_with fail
  refine (l20Open_any A cap bs _ h hc hm).mono ?_
  rintro e w1 ⟨zs0, rfl, hrd1, hb1⟩
  have hl1 := hrd1.lt
  clear h
  go_wp2_with fail
  refine (l20AnyRel_any _ zs0 0 _ hrd1 (by omega) (by omega)).mono ?_
  rintro e w2 ⟨zs, A2, c2, rfl, hll, hsh, hol, p', hpa, hpb, hrd2, hgr2⟩
  have O2 := Lib.hid hol
  have HS := Lib.hid hsh
  clear hol hsh
  go_wp2_with fail
  refine (pick_any _ zs0 p' _ _ hrd2 (by omega) (by omega) (by omega) (by omega)).mono ?_
  rintro e w4 ⟨v, rfl, v0, v1, hrd4, hgr4⟩
  have O4 := Lib.hid (O2.out.kept hgr4 (owns_notR O2.out hl1))
  have HB := Lib.hid (grown_below hb1 (grown_trans hgr2 hgr4) (Nat.le_refl _))
  have hs1 := hb1.size
  clear hgr2 hgr4 hrd1 hrd2 hrd4 O2 hb1
  go_wp2
  refine bodyPost_ret (v := .tuple #[.slice A2 zs.length c2, .int .i64 (v - 1)]) (by simp [results, Try.results14, go_sem]) rfl ?_
  exact ⟨zs, A2, c2, v - 1, rfl, by omega, by omega, hll, HS.out, owns_baseE O4.out hs1, HB.out⟩
end Go.Proofs.Ytgclmldhdjmabaa
