/-
  The walk of FnRelSame.
-/
import Derived.Test.YtphinkcfmdnpfaaDrawL
import Derived.Test.YtphinkcfmdnpfaaRelG
namespace Go.Proofs.Ytphinkcfmdnpfaa
open Go.Shelf Go.RowKit Go.Lib Go.Sort

theorem take_same {α : Type} {xs ys : List α} {k : Nat} {x : α} (h : xs.take k = ys.take k) (hx : xs[k]? = some x) (hy : ys[k]? = some x) : xs.take (k + 1) = ys.take (k + 1) := by
  obtain ⟨h1, rfl⟩ := List.getElem?_eq_some_iff.1 hx
  obtain ⟨h2, e2⟩ := List.getElem?_eq_some_iff.1 hy
  rw [List.take_succ_eq_append_getElem h1, List.take_succ_eq_append_getElem h2, h, e2]
theorem take_not {α : Type} {xs ys : List α} {k : Nat} {x y : α} (hx : xs[k]? = some x) (hy : ys[k]? = some y) (h : x ≠ y) : xs ≠ ys := by
  rintro rfl
  exact h (Option.some.inj (hx.symm.trans hy))
theorem pair_eq {x y : PairV} (h1 : (x.k.toList == y.k.toList) = true) (h2 : (x.t.toList == y.t.toList) = true) : x = y := by
  cases x
  cases y
  have e1 := same_key.1 h1
  have e2 := same_key.1 h2
  simp only at e1 e2
  rw [e1, e2]

/-- Whether two lists are the same, as a truth value. -/
def SaysE {α : Type} (xs ys : List α) (w : World) (e : Ending) (w' : World) : Prop := ∃ v : Bool, (v = true ↔ xs = ys) ∧ e = .returned (.bool v) ∧ Below w.heap.size w w'

set_option maxRecDepth 100000 in
set_option maxHeartbeats 1000000 in
theorem vaPairs_any (A B : Option Addr) (cap cap' : Nat) (xs ys : List PairV) (w : World) (hz : PairsA w A xs) (hz' : PairsA w B ys) (hl : xs.length ≤ 1048577) :
    Calls Try.prog 25 #[.slice A xs.length cap, .slice B ys.length cap'] w (SaysE xs ys w) := by
  by_cases hn : xs.length = ys.length
  · have hni : (xs.length : Int) = (ys.length : Int) := by omega
    go_enter Try.func25, Try.ntmps25
    go_wp2
    go_loopw [5] (fun i wr => ∃ k : Nat, k ≤ xs.length ∧ i = .int .i64 k ∧ xs.take k = ys.take k ∧ Below w.heap.size w wr) (fun i _ => xs.length - (intOf i).toNat)
    case atStart => exact ⟨0, Nat.zero_le _, rfl, rfl, Below.refl _ _⟩
    case round =>
      obtain ⟨k, hk, rfl, hta, hbr⟩ := hrel
      have HTA := Lib.hid hta
      clear hta
      by_cases hlt : k < xs.length
      · obtain ⟨b, off, x, rfl, hb, hx, c0, c1⟩ := hz.at_ hlt
        obtain ⟨b', off', y, rfl, hb', hy, d0, d1⟩ := hz'.at_ (show k < ys.length by omega)
        have c0r := cellBelow hbr hb c0
        have c1r := cellBelow hbr hb c1
        have d0r := cellBelow hbr hb' d0
        have d1r := cellBelow hbr hb' d1
        have HX := Lib.hid hx
        have HY := Lib.hid hy
        have hkz : (k : Int) < (xs.length : Int) := by omega
        have hkz2 : (k : Int) < (ys.length : Int) := by omega
        have hkz0 : (0 : Int) ≤ (k : Int) := by omega
        clear hx hy c0 c1 d0 d1
        cases h1 : (x.k.toList == y.k.toList)
        · have HN := Lib.hid (take_not HX.out HY.out (fun e => by rw [e] at h1; simp at h1))
          go_wp2_with fail
          go_quiet (fail)
          go_wp2
          go_ret
          exact ⟨false, by simp [HN.out], rfl, below_drewN hbr _⟩
        · cases h2 : (x.t.toList == y.t.toList)
          · have HN := Lib.hid (take_not HX.out HY.out (fun e => by rw [e] at h2; simp at h2))
            go_wp2_with fail
            go_quiet (fail)
            go_wp2
            go_ret
            exact ⟨false, by simp [HN.out], rfl, below_drewN hbr _⟩
          · obtain rfl := pair_eq h1 h2
            have HT := Lib.hid (take_same HTA.out HX.out HY.out)
            go_wp2_with fail
            go_quiet (fail)
            go_wp2
            go_roundw
            case rel => exact ⟨k + 1, by omega, by go_num, HT.out, below_drewN hbr _⟩
            case measure => simp [intOf]; omega
      · obtain rfl : k = xs.length := by omega
        have HE := Lib.hid (show xs = ys from by have := HTA.out; rwa [List.take_length, hn, List.take_length] at this)
        go_wp2
        go_ret
        exact ⟨true, by simp [HE.out], rfl, hbr⟩
  · have hni : ¬ (xs.length : Int) = (ys.length : Int) := by omega
    have HN := Lib.hid (show xs ≠ ys from fun e => hn (by rw [e]))
    go_enter Try.func25, Try.ntmps25
    go_wp2
    go_ret
    exact ⟨false, by simp [HN.out], rfl, Below.refl _ _⟩

theorem row_eq {x y : RowV} (h1 : (x.k.toList == y.k.toList) = true) (h2 : (x.t.toList == y.t.toList) = true) (h3 : x.f = y.f) (h4 : x.e = y.e) : x = y := by
  cases x
  cases y
  have e1 := same_key.1 h1
  have e2 := same_key.1 h2
  simp only at e1 e2 h3 h4
  rw [e1, e2, h3, h4]

set_option maxRecDepth 100000 in
set_option maxHeartbeats 2000000 in
theorem vaRows_any (A B : Option Addr) (cap cap' : Nat) (xs ys : List RowV) (w : World) (hz : RowsA w A xs) (hz' : RowsA w B ys) (hl : xs.length ≤ 1048577) :
    Calls Try.prog 23 #[.slice A xs.length cap, .slice B ys.length cap'] w (SaysE xs ys w) := by
  by_cases hn : xs.length = ys.length
  · have hni : (xs.length : Int) = (ys.length : Int) := by omega
    go_enter Try.func23, Try.ntmps23
    go_wp2
    go_loopw [5] (fun i wr => ∃ k : Nat, k ≤ xs.length ∧ i = .int .i64 k ∧ xs.take k = ys.take k ∧ Below w.heap.size w wr) (fun i _ => xs.length - (intOf i).toNat)
    case atStart => exact ⟨0, Nat.zero_le _, rfl, rfl, Below.refl _ _⟩
    case round =>
      obtain ⟨k, hk, rfl, hta, hbr⟩ := hrel
      have HTA := Lib.hid hta
      clear hta
      by_cases hlt : k < xs.length
      · obtain ⟨b, off, x, rfl, hb, hx, c0, c1, c2, c3⟩ := hz.at_ hlt
        obtain ⟨b', off', y, rfl, hb', hy, d0, d1, d2, d3⟩ := hz'.at_ (show k < ys.length by omega)
        replace c0 := cellBelow hbr hb c0
        replace c1 := cellBelow hbr hb c1
        replace c2 := cellBelow hbr hb c2
        replace c3 := cellBelow hbr hb c3
        replace d0 := cellBelow hbr hb' d0
        replace d1 := cellBelow hbr hb' d1
        replace d2 := cellBelow hbr hb' d2
        replace d3 := cellBelow hbr hb' d3
        have HX := Lib.hid hx
        have HY := Lib.hid hy
        have hkz : (k : Int) < (xs.length : Int) := by omega
        have hkz2 : (k : Int) < (ys.length : Int) := by omega
        have hkz0 : (0 : Int) ≤ (k : Int) := by omega
        clear hx hy
        cases h1 : (x.k.toList == y.k.toList)
        · have HN := Lib.hid (take_not HX.out HY.out (fun e => by rw [e] at h1; simp at h1))
          go_wp2_with fail
          go_quiet (fail)
          go_wp2
          go_ret
          exact ⟨false, by simp [HN.out], rfl, below_drewN hbr _⟩
        · cases h2 : (x.t.toList == y.t.toList)
          · have HN := Lib.hid (take_not HX.out HY.out (fun e => by rw [e] at h2; simp at h2))
            go_wp2_with fail
            go_quiet (fail)
            go_wp2
            go_ret
            exact ⟨false, by simp [HN.out], rfl, below_drewN hbr _⟩
          · by_cases h3 : x.f = y.f
            · by_cases h4 : x.e = y.e
              · obtain rfl := row_eq h1 h2 h3 h4
                have HT := Lib.hid (take_same HTA.out HX.out HY.out)
                clear h3 h4
                go_wp2_with fail
                go_quiet (fail)
                go_wp2
                go_roundw
                case rel => exact ⟨k + 1, by omega, by go_num, HT.out, below_drewN hbr _⟩
                case measure => simp [intOf]; omega
              · have HN := Lib.hid (take_not HX.out HY.out (fun e => h4 (by rw [e])))
                go_wp2_with fail
                go_quiet (fail)
                go_wp2
                go_ret
                exact ⟨false, by simp [HN.out], rfl, below_drewN hbr _⟩
            · have HN := Lib.hid (take_not HX.out HY.out (fun e => h3 (by rw [e])))
              go_wp2_with fail
              go_quiet (fail)
              go_wp2
              go_ret
              exact ⟨false, by simp [HN.out], rfl, below_drewN hbr _⟩
      · obtain rfl : k = xs.length := by omega
        have HE := Lib.hid (show xs = ys from by have := HTA.out; rwa [List.take_length, hn, List.take_length] at this)
        go_wp2
        go_ret
        exact ⟨true, by simp [HE.out], rfl, hbr⟩
  · have hni : ¬ (xs.length : Int) = (ys.length : Int) := by omega
    have HN := Lib.hid (show xs ≠ ys from fun e => hn (by rw [e]))
    go_enter Try.func23, Try.ntmps23
    go_wp2
    go_ret
    exact ⟨false, by simp [HN.out], rfl, Below.refl _ _⟩

/-- Two drawn tables. -/
def DrawnTables (w : World) (e : Ending) (w' : World) : Prop :=
  ∃ (za zb : List RowV) (A B : Option Addr) (c d : Nat), e = .returned (.tuple #[.slice A za.length c, .slice B zb.length d]) ∧ za.length ≤ 25 ∧ zb.length ≤ 25 ∧ Short za ∧ Short zb ∧ w'.ownsRow w.heap.size 70 4 (.slice A za.length c) za.length (flatOf rowC za) ∧ w'.ownsRow w.heap.size 70 4 (.slice B zb.length d) zb.length (flatOf rowC zb) ∧ Below w.heap.size w w'

set_option maxRecDepth 100000 in
set_option maxHeartbeats 2000000 in
theorem l20Two_any (A : Option Addr) (cap : Nat) (bs : List Int) (w : World) (h : Bytes w w.heap.size A bs) (hc : bs.length ≤ cap) (hm : cap ≤ maxLen) :
    Calls Try.prog 70 #[.slice A bs.length cap] w (DrawnTables w) := by
  go_enter Try.func70, Try.ntmps70
  go_wp2_with fail
  refine (l20Open_any A cap bs _ h hc hm).mono ?_
  rintro e w1 ⟨zs0, rfl, hrd1, hb1⟩
  have hl1 := hrd1.lt
  clear h
  go_wp2_with fail
  refine (l20AnyRel_any _ zs0 0 _ hrd1 (by omega) (by omega)).mono ?_
  rintro e w2 ⟨za, A2, c2, rfl, hla, hsa, hol, p', hpa, hpb, hrd2, hgr2⟩
  have O2 := Lib.hid hol
  have HSA := Lib.hid hsa
  clear hol hsa
  go_wp2_with fail
  refine (l20AnyRel_any _ zs0 p' _ hrd2 (by omega) (by omega)).mono ?_
  rintro e w3 ⟨zb, A3, c3, rfl, hlb, hsb, hol3, p2, hpa2, hpb2, hrd3, hgr3⟩
  have O3 := Lib.hid (O2.out.kept hgr3 (owns_notR O2.out hl1))
  have hs2 := hgr2.size
  have P3 := Lib.hid (owns_baseE hol3 hs2)
  have HSB := Lib.hid hsb
  have HB := Lib.hid (grown_below hb1 (grown_trans hgr2 hgr3) (Nat.le_refl _))
  have hs1 := hb1.size
  clear hgr2 hgr3 hrd1 hrd2 hrd3 O2 hb1 hol3 hsb
  go_wp2
  refine bodyPost_ret (v := .tuple #[.slice A2 za.length c2, .slice A3 zb.length c3]) (by simp [results, Try.results70, go_sem]) rfl ?_
  exact ⟨za, zb, A2, A3, c2, c3, rfl, hla, hlb, HSA.out, HSB.out, owns_baseE O3.out hs1, owns_baseE P3.out hs1, HB.out⟩

def SameTo (za zb : List RowV) (k : Nat) : Prop := ∀ c : Int, 0 ≤ c → c < k → relAtL za c = relAtL zb c
theorem sameTo_succ {za zb : List RowV} {k : Nat} : SameTo za zb (k + 1) ↔ SameTo za zb k ∧ relAtL za k = relAtL zb k := by
  constructor
  · intro h
    exact ⟨fun c h0 h1 => h c h0 (by omega), h k (by omega) (by omega)⟩
  · rintro ⟨h, h'⟩ c h0 h1
    by_cases e : c = k
    · rw [e]; exact h'
    · exact h c h0 (by omega)
theorem sameTo_known {za zb : List RowV} (ha : relOk za = true) (hb : relOk zb = true) : SameTo za zb 100 ↔ za = zb := by
  constructor
  · intro h
    exact rel_known ha hb (fun c h0 h1 => h c h0 (by omega))
  · rintro rfl
    exact fun c _ _ => rfl

end Go.Proofs.Ytphinkcfmdnpfaa
