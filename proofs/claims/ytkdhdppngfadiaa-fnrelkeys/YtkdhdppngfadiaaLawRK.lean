/-
  The walk of FnRelKeys.
-/
import Derived.Test.YtkdhdppngfadiaaDrawL
import Derived.Test.YtkdhdppngfadiaaRelKeyS
namespace Go.Proofs.Ytkdhdppngfadiaa
open Go.Shelf Go.RowKit Go.Lib Go.Sort

theorem apart_at {zs : List RowV} (h : Apart zs) {i j : Nat} {a b : RowV} (hi : zs[i]? = some a) (hj : zs[j]? = some b) (hij : i < j) : adj a b := by
  obtain ⟨h1, rfl⟩ := List.getElem?_eq_some_iff.1 hi
  obtain ⟨h2, rfl⟩ := List.getElem?_eq_some_iff.1 hj
  exact List.pairwise_iff_getElem.1 h i j h1 h2 hij
theorem keys_facts {zs : List RowV} (h : Apart zs) : ∀ k, k ≤ zs.length → (keysTo zs k).Pairwise (fun a b => kl a b = true) ∧ (∀ q ∈ keysTo zs k, ∃ j x, j < k ∧ zs[j]? = some x ∧ x.k = q) ∧ (∀ j x, j < k → zs[j]? = some x → x.k ∈ keysTo zs k)
  | 0, _ => by rw [keysTo_zero]; exact ⟨List.Pairwise.nil, fun q hq => (by cases hq), fun j x hj => (by omega)⟩
  | k + 1, hk => by
    obtain ⟨h1, h2, h3⟩ := keys_facts h k (by omega)
    obtain ⟨x, hx⟩ : ∃ x, zs[k]? = some x := ⟨zs[k], List.getElem?_eq_getElem (by omega)⟩
    by_cases h0 : k = 0
    · subst h0
      rw [keysTo_first hx]
      refine ⟨List.pairwise_singleton _ _, fun q hq => ⟨0, x, by omega, hx, (List.mem_singleton.1 hq).symm⟩, fun j y hj hy => ?_⟩
      obtain rfl : j = 0 := by omega
      rw [hx] at hy
      cases hy
      simp
    · obtain ⟨y, hy⟩ : ∃ y, zs[k - 1]? = some y := ⟨zs[k - 1], List.getElem?_eq_getElem (by omega)⟩
      cases hb : (y.k.toList == x.k.toList)
      · rw [keysTo_new hx hy hb]
        have hyx : kl y.k x.k = true := by
          rcases apart_at h hy hx (by omega) with h' | h'
          · exact h'
          · rw [same_key.2 h'.1] at hb; cases hb
        refine ⟨List.pairwise_append.2 ⟨h1, List.pairwise_singleton _ _, fun a ha b hb' => ?_⟩, fun q hq => ?_, fun j z hj hz => ?_⟩
        · obtain rfl : b = x.k := List.mem_singleton.1 hb'
          obtain ⟨j, z, hj, hz, rfl⟩ := h2 a ha
          by_cases hj1 : j = k - 1
          · subst hj1
            rw [hy] at hz
            cases hz
            exact hyx
          · rcases apart_at h hz hy (by omega) with h' | h'
            · exact kl_trans h' hyx
            · rw [h'.1]; exact hyx
        · rcases List.mem_append.1 hq with hq | hq
          · obtain ⟨j, z, hj, hz⟩ := h2 q hq
            exact ⟨j, z, by omega, hz⟩
          · exact ⟨k, x, by omega, hx, (List.mem_singleton.1 hq).symm⟩
        · by_cases hj' : j < k
          · exact List.mem_append_left _ (h3 j z hj' hz)
          · obtain rfl : j = k := by omega
            rw [hx] at hz
            cases hz
            simp
      · rw [keysTo_same (by omega) hx hy hb]
        have e := same_key.1 hb
        refine ⟨h1, fun q hq => ?_, fun j z hj hz => ?_⟩
        · obtain ⟨j, z, hj, hz⟩ := h2 q hq
          exact ⟨j, z, by omega, hz⟩
        · by_cases hj' : j < k
          · exact h3 j z hj' hz
          · obtain rfl : j = k := by omega
            rw [hx] at hz
            cases hz
            rw [← e]
            exact h3 (j - 1) y (by omega) hy

def one (k q : ByteArray) : Nat := if (k.toList == q.toList) = true then 1 else 0
def cntK (zs : List RowV) (q : ByteArray) : Nat := match zs with | [] => 0 | x :: l => one x.k q + cntK l q
def sumK (zs : List RowV) : List ByteArray → Nat
  | [] => 0
  | q :: l => cntK zs q + sumK zs l
def ones (k : ByteArray) : List ByteArray → Nat
  | [] => 0
  | q :: l => one k q + ones k l
theorem one_le (k q : ByteArray) : one k q ≤ 1 := by unfold one; split <;> omega
theorem cntK_le (q : ByteArray) : ∀ zs : List RowV, cntK zs q ≤ zs.length
  | [] => by simp [cntK]
  | x :: l => by
    have h1 := cntK_le q l
    have h2 := one_le x.k q
    rw [cntK, List.length_cons]
    omega
theorem cntK_snoc (q : ByteArray) (x : RowV) : ∀ zs : List RowV, cntK (zs ++ [x]) q = cntK zs q + one x.k q
  | [] => by simp [cntK]
  | y :: l => by rw [List.cons_append, cntK, cntK, cntK_snoc q x l]; omega
theorem cntK_take {zs : List RowV} {k : Nat} {x : RowV} (q : ByteArray) (hx : zs[k]? = some x) : cntK (zs.take (k + 1)) q = cntK (zs.take k) q + one x.k q := by
  obtain ⟨hk, rfl⟩ := List.getElem?_eq_some_iff.1 hx
  rw [List.take_succ_eq_append_getElem hk, cntK_snoc]
theorem sumK_snoc (zs : List RowV) (q : ByteArray) : ∀ l : List ByteArray, sumK zs (l ++ [q]) = sumK zs l + cntK zs q
  | [] => by simp [sumK]
  | y :: l => by rw [List.cons_append, sumK, sumK, sumK_snoc zs q l]; omega
theorem sumK_take {ks : List ByteArray} {k : Nat} {q : ByteArray} (zs : List RowV) (hx : ks[k]? = some q) : sumK zs (ks.take (k + 1)) = sumK zs (ks.take k) + cntK zs q := by
  obtain ⟨hk, rfl⟩ := List.getElem?_eq_some_iff.1 hx
  rw [List.take_succ_eq_append_getElem hk, sumK_snoc]
theorem sumK_le {zs : List RowV} (h : zs.length ≤ 24) : ∀ l : List ByteArray, sumK zs l ≤ 24 * l.length
  | [] => by simp [sumK]
  | q :: l => by
    have h1 := sumK_le h l
    have h2 := cntK_le q zs
    rw [sumK, List.length_cons]
    omega
theorem sumK_none : ∀ l : List ByteArray, sumK [] l = 0
  | [] => rfl
  | q :: l => by rw [sumK, sumK_none l, cntK]
theorem sumK_cons (x : RowV) (zs : List RowV) : ∀ l : List ByteArray, sumK (x :: zs) l = ones x.k l + sumK zs l
  | [] => rfl
  | q :: l => by rw [sumK, sumK, ones, cntK, sumK_cons x zs l]; omega
theorem ones_none {k : ByteArray} : ∀ l : List ByteArray, ¬ k ∈ l → ones k l = 0
  | [], _ => rfl
  | q :: l, h => by
    have h1 : ¬ (k.toList == q.toList) = true := fun e => h (by rw [same_key.1 e]; simp)
    rw [ones, one, if_neg h1, ones_none l (fun hm => h (List.mem_cons_of_mem _ hm))]
theorem ones_one {k : ByteArray} : ∀ l : List ByteArray, l.Pairwise (fun a b => kl a b = true) → k ∈ l → ones k l = 1
  | [], _, h => by cases h
  | q :: l, hp, h => by
    obtain ⟨p1, p2⟩ := List.pairwise_cons.1 hp
    by_cases e : k = q
    · subst e
      have hn : ¬ k ∈ l := fun hm => by have := p1 k hm; rw [kl_irrefl] at this; cases this
      rw [ones, one, if_pos (same_key.2 rfl), ones_none l hn]
    · have h1 : ¬ (k.toList == q.toList) = true := fun e' => e (same_key.1 e')
      rcases List.mem_cons.1 h with h | h
      · exact absurd h e
      · rw [ones, one, if_neg h1, ones_one l p2 h]
theorem sumK_all {ks : List ByteArray} (hp : ks.Pairwise (fun a b => kl a b = true)) : ∀ zs : List RowV, (∀ x ∈ zs, x.k ∈ ks) → sumK zs ks = zs.length
  | [], _ => sumK_none ks
  | x :: l, h => by rw [sumK_cons, ones_one ks hp (h x (by simp)), sumK_all hp l (fun y hy => h y (by simp [hy])), List.length_cons]; omega
theorem relKeys_facts {zs : List RowV} (h : relOk zs = true) : (relKeysL zs).Pairwise (fun a b => kl a b = true) ∧ sumK zs (relKeysL zs) = zs.length := by
  unfold relKeysL
  rw [if_pos h]
  obtain ⟨h1, h2, h3⟩ := keys_facts (rel_apart h).2 zs.length (Nat.le_refl _)
  refine ⟨h1, sumK_all h1 zs (fun x hx => ?_)⟩
  obtain ⟨j, hj⟩ := List.getElem?_of_mem hx
  exact h3 j x (List.getElem?_eq_some_iff.1 hj).1 hj
theorem keys_rise {ks : List ByteArray} (hp : ks.Pairwise (fun a b => kl a b = true)) {k : Nat} {x y : ByteArray} (h0 : k ≠ 0) (hx : ks[k]? = some x) (hy : ks[k - 1]? = some y) : Op.bytesLess x.toList y.toList = false ∧ (x.toList == y.toList) = false := by
  obtain ⟨h1, rfl⟩ := List.getElem?_eq_some_iff.1 hx
  obtain ⟨h2, rfl⟩ := List.getElem?_eq_some_iff.1 hy
  have h := List.pairwise_iff_getElem.1 hp (k - 1) k h2 h1 (by omega)
  refine ⟨kl_asymm h, ?_⟩
  cases he : (ks[k].toList == ks[k - 1].toList) with
  | false => rfl
  | true => rw [same_key.1 he, kl_irrefl] at h; cases h

set_option maxRecDepth 100000 in
set_option maxHeartbeats 1000000 in
theorem vaTexts_same (A B : Option Addr) (cap cap' : Nat) (ks : List ByteArray) (w : World) (hz : TextsA w A ks) (hz' : TextsA w B ks) (hl : ks.length ≤ 1048577) :
    Calls Try.prog 58 #[.slice A ks.length cap, .slice B ks.length cap'] w fun e w' => e = .returned (.bool true) ∧ Below w.heap.size w w' := by
  go_enter Try.func58, Try.ntmps58
  go_wp2
  go_loopw [5] (fun i wr => ∃ k : Nat, k ≤ ks.length ∧ i = .int .i64 k ∧ Below w.heap.size w wr) (fun i _ => ks.length - (intOf i).toNat)
  case atStart => exact ⟨0, Nat.zero_le _, rfl, Below.refl _ _⟩
  case round =>
    obtain ⟨k, hk, rfl, hbr⟩ := hrel
    by_cases hlt : k < ks.length
    · obtain ⟨b, off, x, rfl, hb, hx, c0⟩ := hz.at_ hlt
      obtain ⟨b', off', x', rfl, hb', hx', c1⟩ := hz'.at_ hlt
      obtain rfl : x = x' := Option.some.inj (hx.symm.trans hx')
      have c0r : wr.cell? ⟨b, off + k, none⟩ = some (.string x) := cellBelow hbr hb c0
      have c1r : wr.cell? ⟨b', off' + k, none⟩ = some (.string x) := cellBelow hbr hb' c1
      have hkz : (k : Int) < (ks.length : Int) := by omega
      have hkz0 : (0 : Int) ≤ (k : Int) := by omega
      clear hx hx' c0 c1
      go_wp2_with fail
      go_quiet (fail)
      go_wp2
      go_roundw
      case rel => exact ⟨k + 1, by omega, by go_num, below_drewN hbr _⟩
      case measure => simp [intOf]; omega
    · go_wp2
      go_ret
      exact ⟨rfl, hbr⟩

/-- A drawn table. -/
def DrawnRK (w : World) (e : Ending) (w' : World) : Prop :=
  ∃ (zs : List RowV) (A : Option Addr) (cap : Nat), e = .returned (.slice A zs.length cap) ∧ zs.length ≤ 25 ∧ Short zs ∧ w'.ownsRow w.heap.size 66 4 (.slice A zs.length cap) zs.length (flatOf rowC zs) ∧ Below w.heap.size w w'

set_option maxRecDepth 100000 in
set_option maxHeartbeats 2000000 in
theorem DrawRelKeys_any (A : Option Addr) (cap : Nat) (bs : List Int) (w : World) (h : Bytes w w.heap.size A bs) (hc : bs.length ≤ cap) (hm : cap ≤ maxLen) :
    Calls Try.prog 56 #[.slice A bs.length cap] w (DrawnRK w) := by
  go_enter Try.func56, Try.ntmps56
  go_wp2_with fail
  refine (l20Open_any A cap bs _ h hc hm).mono ?_
  rintro e w1 ⟨zs0, rfl, hrd1, hb1⟩
  clear h
  go_wp2_with fail
  refine (l20AnyRel_any _ zs0 0 _ hrd1 (by omega) (by omega)).mono ?_
  rintro e w2 ⟨zs, A2, c2, rfl, hll, hsh, hol, p', hpa, hpb, hrd2, hgr2⟩
  have O2 := Lib.hid hol
  have HS := Lib.hid hsh
  have HB := Lib.hid (grown_below hb1 hgr2 (Nat.le_refl _))
  have hs1 := hb1.size
  clear hol hsh hgr2 hrd1 hrd2 hb1
  go_wp2
  go_ret
  exact ⟨zs, A2, c2, rfl, hll, HS.out, owns_baseE O2.out hs1, HB.out⟩

set_option maxRecDepth 100000 in
set_option maxHeartbeats 4000000 in
theorem FnRelKeys_any (A : Option Addr) (n cap : Nat) (bs : List Int) (w : World) (hz : Bytes w w.heap.size A bs ∧ bs.length = n ∧ n ≤ cap ∧ cap ≤ maxLen) :
    Calls Try.prog 12 #[.slice A n cap] w fun e w' => e = .returned (.bool true) ∧ Below w.heap.size w w' := by
  obtain ⟨hz, rfl, hc, hm⟩ := hz
  have hm' := hm
  unfold maxLen at hm'
  by_cases hl0 : (1048576 : Int) < bs.length
  · go_enter Try.func12, Try.ntmps12
    go_wp2
    go_ret
    exact ⟨rfl, Below.refl _ _⟩
  · go_enter Try.func12, Try.ntmps12
    go_wp2_with fail
    refine (DrawRelKeys_any A cap bs w hz hc hm).mono ?_
    rintro e w0 ⟨zs, A1, c1, rfl, hll, hsh, hol, hb0⟩
    have T0 := Lib.hid (rowsA_own hol rfl)
    have B0 := Lib.hid hb0
    have HS := Lib.hid hsh
    have hl : zs.length ≤ 1048577 := by omega
    obtain ⟨o, ho⟩ : ∃ o, relOk zs = o := ⟨_, rfl⟩
    have HO := Lib.hid ho
    have hkl := relKeysL_len zs
    have HK := Lib.hid (show relOk zs = true → _ from fun h => relKeys_facts h)
    obtain ⟨ks, hks⟩ : ∃ ks, relKeysL zs = ks := ⟨_, rfl⟩
    have HKS := Lib.hid hks
    rw [hks] at hkl HK
    clear hol hb0 hsh hz hc hm hm' ho hks
    go_wp2_with fail
    refine (RelKeys_any A1 c1 zs _ T0.out hl HS.out).mono ?_
    rw [HKS.out]
    rintro e w1 ⟨A2, c2, rfl, ho, hb⟩
    have K1 := Lib.hid (show TextsA w1 A2 ks from el_of_owns textC_len ho)
    clear ho
    have T1 := Lib.hid (T0.out.below hb)
    have B1 := Lib.hid (B0.out.trans (hb.mono B0.out.size))
    clear hb T0 B0
    go_wp2_with fail
    refine (sRelKeys_any A1 c1 zs _ T1.out hl HS.out).mono ?_
    rw [HKS.out]
    rintro e w2 ⟨A3, c3, rfl, ho, hb⟩
    have Q2 := Lib.hid (show TextsA w2 A3 ks from el_of_owns textC_len ho)
    clear ho
    have K2 := Lib.hid (K1.out.below hb)
    have T2 := Lib.hid (T1.out.below hb)
    have B2 := Lib.hid (B1.out.trans (hb.mono B1.out.size))
    clear hb K1 T1 B1
    go_wp2_with fail
    refine (vaTexts_same _ _ _ _ ks _ K2.out Q2.out (by omega)).mono ?_
    rintro e w3 ⟨rfl, hb⟩
    have K3 := Lib.hid (K2.out.below hb)
    have T3 := Lib.hid (T2.out.below hb)
    have B3 := Lib.hid (B2.out.trans (hb.mono B2.out.size))
    clear hb Q2 K2 T2 B2
    go_wp2_with fail
    refine (RelOk_any A1 c1 zs _ T3.out hl HS.out).mono ?_
    rw [HO.out]
    rintro e w4 ⟨rfl, hb⟩
    have K4 := Lib.hid (K3.out.below hb)
    have T4 := Lib.hid (T3.out.below hb)
    have B4 := Lib.hid (B3.out.trans (hb.mono B3.out.size))
    clear hb K3 T3 B3
    cases o
    · skip
      go_wp2_with fail
      refine (sRelKeys_any A1 c1 zs _ T4.out hl HS.out).mono ?_
      rw [HKS.out]
      rintro e w5 ⟨A3, c3, rfl, ho, hb⟩
      have Q5 := Lib.hid (show TextsA w5 A3 ks from el_of_owns textC_len ho)
      clear ho
      have K5 := Lib.hid (K4.out.below hb)
      have B5 := Lib.hid (B4.out.trans (hb.mono B4.out.size))
      clear hb K4 T4 B4
      go_wp2_with fail
      refine (vaTexts_same _ _ _ _ ks _ K5.out Q5.out (by omega)).mono ?_
      rintro e w6 ⟨rfl, hb⟩
      have B6 := Lib.hid (B5.out.trans (hb.mono B5.out.size))
      clear hb
      go_wp2
      go_ret
      exact ⟨rfl, B6.out⟩
    · have hl24 := relOk_len HO.out
      have HKP := Lib.hid (HK.out HO.out).1
      have HKA := Lib.hid (HK.out HO.out).2
      clear HK
      go_wp2
      go_loopw [5, 6] (fun v i wr => ∃ k : Nat, k ≤ ks.length ∧ i = .int .i64 k ∧ v = .int .i64 ((sumK zs (ks.take k) : Nat) : Int) ∧ Below w4.heap.size w4 wr) (fun _ i _ => ks.length - (intOf i).toNat)
      case atStart => exact ⟨0, Nat.zero_le _, rfl, by simp [sumK], Below.refl _ _⟩
      case round =>
        obtain ⟨k, hk, rfl, rfl, hbr⟩ := hrel
        have hsb := sumK_le hl24 (ks.take k)
        rw [List.length_take] at hsb
        by_cases hlt : k < ks.length
        · obtain ⟨b0, off, q, rfl, hbq, hq, d0⟩ := K4.out.at_ hlt
          have HT := Lib.hid (sumK_take zs hq)
          obtain ⟨sv, hsv⟩ : ∃ sv, sumK zs (ks.take k) = sv := ⟨_, rfl⟩
          rw [hsv] at HT hsb ⊢
          have hkz : (k : Int) < (ks.length : Int) := by omega
          have hkz0 : (0 : Int) ≤ (k : Int) := by omega
          have c0 := cellBelow hbr hbq d0
          have D0 := Lib.hid d0
          have BQ := Lib.hid hbq
          have HX := Lib.hid (show k ≠ 0 → ∃ y, ks[k - 1]? = some y ∧ w4.cell? ⟨b0, off + (k - 1), none⟩ = some (.string y) ∧ Op.bytesLess q.toList y.toList = false ∧ (q.toList == y.toList) = false from fun h0 => by
            obtain ⟨b1, off1, y, e1, _, hy, d1⟩ := K4.out.at_ (show k - 1 < ks.length by omega)
            injection e1 with e1
            injection e1 with e2 e3 _
            subst e2 e3
            exact ⟨y, hy, d1, keys_rise HKP.out h0 hq hy⟩)
          clear hsv hq d0 hbq
          by_cases hk0 : k = 0
          · subst hk0
            replace D0 := Lib.hid (show w4.cell? ⟨b0, off, none⟩ = some (.string q) from by have := D0.out; simpa using this)
            clear HX c0
            go_wp2_with fail
            go_quiet (fail)
            have hbr := below_drewN hbr nq
            go_wp2
            go_loopw [5, 7] (fun v i wi => ∃ m : Nat, m ≤ zs.length ∧ i = .int .i64 m ∧ v = .int .i64 ((sv + cntK (zs.take m) q : Nat) : Int) ∧ Below w4.heap.size w4 wi) (fun _ i _ => zs.length - (intOf i).toNat)
            case atStart => exact ⟨0, Nat.zero_le _, rfl, by simp [cntK], hbr⟩
            case round =>
              obtain ⟨m, hm, rfl, rfl, hbi⟩ := hrel
              have hcb := cntK_le q (zs.take m)
              rw [List.length_take] at hcb
              by_cases hlt2 : m < zs.length
              · obtain ⟨b2, off2, x, rfl, hb2, hx, e0, e1, e2, e3⟩ := (T4.out.below hbi).at_ hlt2
                have HC := Lib.hid (cntK_take q hx)
                have q0 := cellBelow hbi BQ.out D0.out
                obtain ⟨cv, hcv⟩ : ∃ cv, cntK (zs.take m) q = cv := ⟨_, rfl⟩
                rw [hcv] at HC hcb ⊢
                have hmz : (m : Int) < (zs.length : Int) := by omega
                have hmz0 : (0 : Int) ≤ (m : Int) := by omega
                clear hx hcv e1 e2 e3
                cases hkey : (x.k.toList == q.toList)
                · have HC2 := Lib.hid (show cntK (zs.take (m + 1)) q = cv from by rw [HC.out, one, hkey]; rfl)
                  clear HC
                  go_wp2_with fail
                  go_quiet (fail)
                  have BN := Lib.hid (below_drewN hbi nq)
                  go_wp2
                  go_roundw
                  case rel => exact ⟨m + 1, by omega, by go_num, by rw [HC2.out], BN.out⟩
                  case measure => simp [intOf]; omega
                · have HC2 := Lib.hid (show cntK (zs.take (m + 1)) q = cv + 1 from by rw [HC.out, one, hkey]; rfl)
                  clear HC
                  go_wp2_with fail
                  go_quiet (fail)
                  have BN := Lib.hid (below_drewN hbi nq)
                  go_wp2
                  go_roundw
                  case rel => exact ⟨m + 1, by omega, by go_num, by rw [HC2.out]; go_num, BN.out⟩
                  case measure => simp [intOf]; omega
              · obtain rfl : m = zs.length := by omega
                rw [List.take_length]
                rw [List.take_length] at hcb
                have HT2 := Lib.hid (show (sumK zs (ks.take (0 + 1)) : Nat) = sv + cntK zs q from HT.out)
                obtain ⟨cv, hcv⟩ : ∃ cv, cntK zs q = cv := ⟨_, rfl⟩
                rw [hcv] at HT2 hcb ⊢
                clear hcv
                go_wp2
                go_roundw
                case rel => exact ⟨0 + 1, by omega, by go_num, by rw [HT2.out], hbi⟩
                case measure => simp [intOf]; omega
          · obtain ⟨y, -, d1, hy1, hy2⟩ := HX.out hk0
            have cy := cellBelow hbr BQ.out d1
            have hkp : (0 : Int) < (k : Int) := by omega
            have hkN : 0 < k := by omega
            have hkd : decide (0 < k) = true := decide_eq_true hkN
            have hkp1 : (0 : Int) ≤ (k : Int) - 1 := by omega
            have hkp2 : (k : Int) - 1 < (ks.length : Int) := by omega
            have hkn : ((k : Int) - 1).toNat = k - 1 := by omega
            clear HX d1
            go_wp2_with fail
            go_quiet (fail)
            have hbr := below_drewN hbr nq
            clear c0 cy
            go_wp2
            go_loopw [5, 7] (fun v i wi => ∃ m : Nat, m ≤ zs.length ∧ i = .int .i64 m ∧ v = .int .i64 ((sv + cntK (zs.take m) q : Nat) : Int) ∧ Below w4.heap.size w4 wi) (fun _ i _ => zs.length - (intOf i).toNat)
            case atStart => exact ⟨0, Nat.zero_le _, rfl, by simp [cntK], hbr⟩
            case round =>
              obtain ⟨m, hm, rfl, rfl, hbi⟩ := hrel
              have hcb := cntK_le q (zs.take m)
              rw [List.length_take] at hcb
              by_cases hlt2 : m < zs.length
              · obtain ⟨b2, off2, x, rfl, hb2, hx, e0, e1, e2, e3⟩ := (T4.out.below hbi).at_ hlt2
                have HC := Lib.hid (cntK_take q hx)
                have q0 := cellBelow hbi BQ.out D0.out
                obtain ⟨cv, hcv⟩ : ∃ cv, cntK (zs.take m) q = cv := ⟨_, rfl⟩
                rw [hcv] at HC hcb ⊢
                have hmz : (m : Int) < (zs.length : Int) := by omega
                have hmz0 : (0 : Int) ≤ (m : Int) := by omega
                clear hx hcv e1 e2 e3
                cases hkey : (x.k.toList == q.toList)
                · have HC2 := Lib.hid (show cntK (zs.take (m + 1)) q = cv from by rw [HC.out, one, hkey]; rfl)
                  clear HC
                  go_wp2_with fail
                  go_quiet (fail)
                  have BN := Lib.hid (below_drewN hbi nq)
                  go_wp2
                  go_roundw
                  case rel => exact ⟨m + 1, by omega, by go_num, by rw [HC2.out], BN.out⟩
                  case measure => simp [intOf]; omega
                · have HC2 := Lib.hid (show cntK (zs.take (m + 1)) q = cv + 1 from by rw [HC.out, one, hkey]; rfl)
                  clear HC
                  go_wp2_with fail
                  go_quiet (fail)
                  have BN := Lib.hid (below_drewN hbi nq)
                  go_wp2
                  go_roundw
                  case rel => exact ⟨m + 1, by omega, by go_num, by rw [HC2.out]; go_num, BN.out⟩
                  case measure => simp [intOf]; omega
              · obtain rfl : m = zs.length := by omega
                rw [List.take_length]
                rw [List.take_length] at hcb
                have HT2 := Lib.hid (show (sumK zs (ks.take (k + 1)) : Nat) = sv + cntK zs q from HT.out)
                obtain ⟨cv, hcv⟩ : ∃ cv, cntK zs q = cv := ⟨_, rfl⟩
                rw [hcv] at HT2 hcb ⊢
                clear hcv
                go_wp2
                go_roundw
                case rel => exact ⟨k + 1, by omega, by go_num, by rw [HT2.out], hbi⟩
                case measure => simp [intOf]; omega
        · obtain rfl : k = ks.length := by omega
          rw [List.take_length, HKA.out]
          have BR := Lib.hid (B4.out.trans (hbr.mono B4.out.size))
          clear hbr
          go_wp2
          go_ret
          exact ⟨rfl, BR.out⟩
end Go.Proofs.Ytkdhdppngfadiaa
