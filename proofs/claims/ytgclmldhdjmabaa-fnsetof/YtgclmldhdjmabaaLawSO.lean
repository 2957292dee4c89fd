/-
  The walk of FnSetOf.
-/
import Derived.Test.YtgclmldhdjmabaaSetOfS
import Derived.Test.YtgclmldhdjmabaaLawSM
import Derived.Test.YtgclmldhdjmabaaLawHas
namespace Go.Proofs.Ytgclmldhdjmabaa
open Go.RowKit

set_option maxRecDepth 100000 in
set_option maxHeartbeats 2000000 in
theorem DrawSetOf_any (A : Option Addr) (cap : Nat) (bs : List Int) (w : World) (h : Bytes w w.heap.size A bs) (hc : bs.length ≤ cap) (hm : cap ≤ maxLen) :
    Calls Try.prog 58 #[.slice A bs.length cap] w (DrawnOne w) := by
  obtain ⟨i0, hi, hz0, hz1, hz2⟩ := info_parts Try.info32
  have Hi := Lib.hid hi
  have Hz0 := Lib.hid hz0
  have Hz1 := Lib.hid hz1
  have Hz2 := Lib.hid hz2
  clear hi hz0 hz1 hz2
  go_enter Try.func58, Try.ntmps58
  go_wp2_with fail
  refine (l20Open_any A cap bs _ h hc hm).mono ?_
  rintro e w1 ⟨zs0, rfl, hrd1, hb1⟩
  have hl1 := hrd1.lt
  go_wp2_with fail
  refine (l20Spans_any _ zs0 0 _ hrd1 (by omega) (by omega)).mono ?_
  rintro e w2 ⟨zs, g, c, rfl, hll, hol, p', hpa, hpb, hrd2, hgr2⟩
  have hg := hol.lt g rfl
  have Hol := Lib.hid hol
  have HB := Lib.hid (grown_below hb1 hgr2 (Nat.le_refl _))
  have hs1 := hb1.size
  clear hol hgr2 hrd1 h hc hm hb1
  go_wp2_with fail
  refine (pick_any _ zs0 p' _ _ hrd2 (by omega) (by omega) (by omega) (by omega)).mono ?_
  rintro e w3 ⟨v, rfl, v0, v1, hrd3, hgr3⟩
  have Hol3 := Lib.hid (Hol.out.kept hgr3 (.inr (by simp [Value.ownBlock]; omega)))
  have HB3 := Lib.hid (grown_below HB.out hgr3 (Nat.le_refl _))
  clear hgr3 hrd2 Hol HB
  by_cases hv : v = 0
  · subst hv
    go_wp2_with fail
    refine (l20AnySpan_any _ zs0 (p' + 1) _ hrd3 (by omega) (by omega)).mono ?_
    rintro e w4 ⟨a, b, rfl, _, p4, hp4a, hp4b, hrd4, hgr4⟩
    have Hol4 := Lib.hid (Hol3.out.kept hgr4 (.inr (by simp [Value.ownBlock]; omega)))
    have HB4 := Lib.hid (grown_below HB3.out hgr4 (Nat.le_refl _))
    have hs4 := HB4.out.size
    clear hgr4 hrd3 Hol3 HB3 hrd4
    go_wp2_with (at_builtin; refine wpList_append_own _ rfl _ _ 35 rfl w.heap.size 32 i0 _ 2 16 Try.underlying35 Hi.out Hz0.out Hz1.out Hz2.out rfl (by decide) _ zs.length (flat zs) rfl ((owns_base Hol4.out (by omega)).alloc _) ⟨w4.heap.size, 0, none⟩ 1 1 [.int .i64 a, .int .i64 b] rfl rfl (news_two (by simp) (by simp)) (by simp [Value.oneCell']) (by unfold maxLen; omega) (by omega) (by simp; omega) ?_; intro v' w5 hown' hgrow hnil)
    have hnn : v' ≠ .slice none 0 0 := fun h => by have := (hnil.1 h).2; omega
    have k7 := owns_snoc (f := a) (t := b) hown' rfl
    obtain ⟨g', c', rfl, hga, hgb⟩ := owns_form k7 hnn
    have K7 := Lib.hid k7
    have HB5 := Lib.hid ((HB4.out.alloc hs4 _).grown hgrow (by simp; omega) (fun i e => by have := (Hol4.out.lt i e).1; omega))
    clear hgrow hnil hown' Hol4 k7 hnn
    go_wp2
    go_ret
    exact ⟨zs ++ [(a, b)], g', c', rfl, by simp; omega, K7.out, HB5.out⟩
  · have hvb : (v == 0) = false := by simpa using hv
    clear hv
    go_wp2
    go_ret
    exact ⟨zs, g, c, rfl, by omega, owns_base Hol3.out (by omega), HB3.out⟩

theorem anyIn_iff (zs : List (Int × Int)) (c : Int) : anyIn zs c = true ↔ has zs c := by
  unfold anyIn
  rw [List.any_eq_true]
  constructor
  · rintro ⟨k, hk, h⟩
    have hk' : k < zs.length := by simpa using hk
    refine ⟨zs[k], List.getElem_mem hk', ?_⟩
    simpa [hasAt, hasB, List.getD, hk'] using h
  · rintro ⟨z, hz, h⟩
    obtain ⟨k, hk, rfl⟩ := List.mem_iff_getElem.1 hz
    exact ⟨k, by simpa using hk, by simpa [hasAt, hasB, List.getD, hk] using h⟩
theorem bool_iff {a b : Bool} (h : a = true ↔ b = true) : a = b := by cases a <;> cases b <;> simp_all
theorem setOf_has {xs : List (Int × Int)} (h : allB xs = true) (c : Int) : setHas (addAll xs) c = anyIn xs c :=
  bool_iff (by rw [setHas_iff (addAll_setOk h), anyIn_iff, has_addAll h])
theorem allB_perm {l zs : List (Int × Int)} (h : l.Perm zs) (hz : allB zs = true) : allB l = true := by
  unfold allB at *
  rw [List.all_eq_true] at *
  exact fun s hs => hz s (h.mem_iff.1 hs)
theorem setOf_perm {l zs : List (Int × Int)} (h : l.Perm zs) (hz : allB zs = true) : setOfL l = addAll zs := by
  rw [setOfL, if_pos (allB_perm h hz)]
  refine canon_same ((setOk_iff _).1 (addAll_setOk (allB_perm h hz))) ((setOk_iff _).1 (addAll_setOk hz)) fun q => ?_
  rw [has_addAll (allB_perm h hz), has_addAll hz]
  exact has_perm h q
theorem allB_of_ok {zs : List (Int × Int)} (h : setOk zs = true) : allB zs = true :=
  allB_yes fun k hk => by
    have := setOk_at h k hk
    unfold okB
    exact decide_eq_true this
theorem setOf_self {zs : List (Int × Int)} (h : setOk zs = true) : setOfL zs = zs := by
  rw [setOfL, if_pos (allB_of_ok h)]
  refine canon_same ((setOk_iff _).1 (addAll_setOk (allB_of_ok h))) ((setOk_iff _).1 h) fun q => has_addAll (allB_of_ok h) q
theorem rev_take {zs : List (Int × Int)} {k : Nat} (hk : k < zs.length) : zs.reverse.take (k + 1) = zs.reverse.take k ++ [((zs.getD (zs.length - 1 - k) (0, 0)).1, (zs.getD (zs.length - 1 - k) (0, 0)).2)] := by
  rw [List.take_succ_eq_append_getElem (by simpa using hk), List.getElem_reverse]
  have e : zs.getD (zs.length - 1 - k) (0, 0) = zs[zs.length - 1 - k]'(by omega) := by simp [List.getD, show zs.length - 1 - k < zs.length by omega]
  rw [e]

set_option maxRecDepth 100000 in
set_option maxHeartbeats 8000000 in
theorem FnSetOf_any (A : Option Addr) (n cap : Nat) (bs : List Int) (w : World) (hz : Bytes w w.heap.size A bs ∧ bs.length = n ∧ n ≤ cap ∧ cap ≤ maxLen) :
    Calls Try.prog 12 #[.slice A n cap] w fun e w' => e = .returned (.bool true) ∧ Below w.heap.size w w' := by
  obtain ⟨hz, rfl, hc, hm⟩ := hz
  have hm' := hm
  unfold maxLen at hm'
  obtain ⟨i0, hi, hz0, hz1, hz2⟩ := info_parts Try.info32
  have Hi := Lib.hid hi
  have Hz0 := Lib.hid hz0
  have Hz1 := Lib.hid hz1
  have Hz2 := Lib.hid hz2
  clear hi hz0 hz1 hz2
  by_cases hl : (1048576 : Int) < bs.length
  · go_enter Try.func12, Try.ntmps12
    go_wp2
    go_ret
    exact ⟨rfl, Below.refl _ _⟩
  · go_enter Try.func12, Try.ntmps12
    go_wp2_with fail
    refine (DrawSetOf_any A cap bs w hz hc hm).mono ?_
    rintro e w1 ⟨xs, g, c, rfl, hlx, hox, hb1⟩
    have Ox := Lib.hid hox
    have B1 := Lib.hid hb1
    clear hox hz hc hm hm' hb1
    have hzl := setOfL_len xs
    obtain ⟨zs, hzs⟩ : ∃ zs, setOfL xs = zs := ⟨_, rfl⟩
    have HZ := Lib.hid hzs
    have Hzok := Lib.hid (show setOk zs = true from by rw [← hzs]; exact setOfL_ok xs)
    rw [hzs] at hzl
    clear hzs
    go_wp2_with fail
    refine (SetOf_any _ _ _ _ (owns_spans Ox.out) (owns_block Ox.out) (by omega)).mono ?_
    rw [HZ.out]
    rintro e w2 ⟨A2, c2, rfl, ho2, hb2⟩
    have Oz := Lib.hid ho2
    have Px := Lib.hid (owns_keep Ox.out hb2)
    have B2 := Lib.hid (B1.out.trans (hb2.mono B1.out.size))
    clear ho2 hb2 Ox B1
    go_wp2_with fail
    refine (sSetOf_any _ _ _ _ (owns_spans Px.out) (by omega)).mono ?_
    rw [HZ.out]
    rintro e w3 ⟨A3, c3, rfl, ho3, hb3⟩
    have O3 := Lib.hid ho3
    have Pz := Lib.hid (owns_keep Oz.out hb3)
    have Qx := Lib.hid (owns_keep Px.out hb3)
    have B3 := Lib.hid (B2.out.trans (hb3.mono B2.out.size))
    clear ho3 hb3 Oz Px B2
    go_wp2_with fail
    refine (vaSpans_same _ _ _ _ zs _ (owns_spans Pz.out) (owns_spans O3.out) (by unfold maxLen; omega)).mono ?_
    rintro e w4 ⟨rfl, hb4⟩
    have Qz := Lib.hid (owns_keep Pz.out hb4)
    have Rx := Lib.hid (owns_keep Qx.out hb4)
    have B4 := Lib.hid (B3.out.trans (hb4.mono B3.out.size))
    clear hb4 O3 Pz Qx B3
    by_cases hn : zs.length = 0
    · have hn1 : ((zs.length : Int) == 0) = true := by simp [hn]
      have hn2 : decide ((zs.length : Int) = 0) = true := by simp [hn]
      have hn3 : (zs.length == 0) = true := by simp [hn]
      have Hn := Lib.hid hn
      clear hn
      go_wp2_with fail
      refine (sSetOf_any _ _ _ _ (owns_spans Rx.out) (by omega)).mono ?_
      rw [HZ.out]
      rintro e w5 ⟨A5, c5, rfl, ho5, hb5⟩
      have O5 := Lib.hid ho5
      have Rz := Lib.hid (owns_keep Qz.out hb5)
      have B5 := Lib.hid (B4.out.trans (hb5.mono B4.out.size))
      clear ho5 hb5 Qz Rx B4
      go_wp2_with fail
      refine (vaSpans_same _ _ _ _ zs _ (owns_spans Rz.out) (owns_spans O5.out) (by unfold maxLen; omega)).mono ?_
      rintro e w6 ⟨rfl, hb6⟩
      have B6 := Lib.hid (B5.out.trans (hb6.mono B5.out.size))
      clear hb6
      go_wp2
      go_ret
      exact ⟨rfl, B6.out⟩
    · have hn1 : ((zs.length : Int) == 0) = false := by rw [beq_eq_false_iff_ne]; omega
      have hn2 : decide ((zs.length : Int) = 0) = false := decide_eq_false (by omega)
      have hn3 : (zs.length == 0) = false := by rw [beq_eq_false_iff_ne]; omega
      have hall : allB xs = true := by
        cases h : allB xs
        · exfalso
          apply hn
          rw [← HZ.out, setOfL, h]
          rfl
        · rfl
      have Hall := Lib.hid hall
      have HA := Lib.hid (show zs = addAll xs from by rw [← HZ.out, setOfL, hall]; rfl)
      have Hhas := Lib.hid (show ∀ p, setHas zs p = anyIn xs p from fun p => by rw [HA.out]; exact setOf_has hall p)
      have HT := Lib.hid (show setOfL xs.reverse = zs from by rw [HA.out]; exact setOf_perm (List.reverse_perm xs) hall)
      have HS := Lib.hid (setOf_self Hzok.out)
      clear hn hall
      obtain ⟨wt, rfl⟩ : ∃ wt, wt = w4 := ⟨_, rfl⟩
      go_wp2
      go_loopw [5, 6] (fun v i wr => ∃ k : Nat, k ≤ xs.length ∧ i = .int .i64 ((xs.length : Int) - 1 - k) ∧ wr.ownsRow wt.heap.size 32 2 v (xs.reverse.take k).length (flat (xs.reverse.take k)) ∧ Below wt.heap.size wt wr) (fun _ i _ => (intOf i + 1).toNat)
      case atStart =>
        refine ⟨0, Nat.zero_le _, by simp, ?_, (Below.refl _ _).alloc (Nat.le_refl _) _⟩
        have := World.ownsRow_lit (base := wt.heap.size) (e := 32) (size := 2) wt #[] 0 (by simp) (by simp [maxLen]) (by simp)
        simpa [flat] using this
      case round =>
        obtain ⟨k, hk, rfl, hown, hbr⟩ := hrel
        have Hown := Lib.hid hown
        clear hown
        have Sx := Lib.hid (owns_keep Rx.out hbr)
        have Sz := Lib.hid (owns_keep Qz.out hbr)
        by_cases hlt : k < xs.length
        · obtain ⟨b, off, e1, hcells⟩ := owns_spans Sx.out (by omega)
          injection e1 with e1
          injection e1 with e1 e2 e3
          subst e1 e2
          obtain ⟨c0, c1⟩ := hcells (xs.length - 1 - k) (by omega)
          clear hcells
          have HR := Lib.hid (rev_take hlt)
          obtain ⟨x, hx⟩ : ∃ x, (xs.getD (xs.length - 1 - k) (0, 0)).1 = x := ⟨_, rfl⟩
          obtain ⟨y, hy⟩ : ∃ y, (xs.getD (xs.length - 1 - k) (0, 0)).2 = y := ⟨_, rfl⟩
          rw [hx, hy] at HR
          rw [hx, Nat.zero_add] at c0
          rw [hy, Nat.zero_add] at c1
          have hlo : (xs.reverse.take k).length ≤ k := by rw [List.length_take]; omega
          obtain ⟨oo, hoo⟩ : ∃ oo, xs.reverse.take k = oo := ⟨_, rfl⟩
          rw [hoo] at Hown HR hlo
          clear hx hy hoo
          have hs2 := hbr.size
          have q0 : (0 : Int) ≤ (xs.length : Int) - 1 - k := by omega
          have q1 : (xs.length : Int) - 1 - k < (xs.length : Int) := by omega
          have q2 : ((xs.length : Int) - 1 - k).toNat = xs.length - 1 - k := by omega
          go_wp2_with (at_builtin; refine wpList_append_own _ rfl _ _ 35 rfl wt.heap.size 32 i0 _ 2 16 Try.underlying35 Hi.out Hz0.out Hz1.out Hz2.out rfl (by decide) _ oo.length (flat oo) rfl (Hown.out.alloc _) ⟨wr.heap.size, 0, none⟩ 1 1 [.int .i64 x, .int .i64 y] rfl rfl (news_two (by simp) (by simp)) (by simp [Value.oneCell']) (by unfold maxLen; omega) (by omega) (by simp; omega) ?_; intro v' w6 hown' hgrow hnil)
          have O3 := Lib.hid (owns_snoc (f := x) (t := y) hown' rfl)
          have B3 := Lib.hid ((hbr.alloc hs2 _).grown hgrow (by simp; omega) (fun i e => by have := (Hown.out.lt i e).1; omega))
          clear hown' hgrow hnil
          refine ⟨⟨k + 1, by omega, by congr 1; omega, ?_, ?_⟩, ?_⟩
          · rw [HR.out]; exact O3.out
          · exact B3.out
          · simp [intOf]; omega
        · obtain rfl : k = xs.length := by omega
          rw [List.take_of_length_le (by simp)] at Hown
          have hrl : xs.reverse.length = xs.length := List.length_reverse
          obtain ⟨rs, hrs⟩ : ∃ rs, xs.reverse = rs := ⟨_, rfl⟩
          rw [hrs] at Hown hrl HT
          have hrl' : rs.length ≤ 64 := by omega
          have B5 := Lib.hid (B4.out.trans (hbr.mono B4.out.size))
          obtain ⟨A6, c6, hv⟩ := owns_slice Hown.out
          subst hv
          clear hrs hrl hbr Rx Qz
          obtain ⟨wu, rfl⟩ : ∃ wu, wu = wr := ⟨_, rfl⟩
          go_wp2
          go_loopw [7] (fun i wr => ∃ k : Nat, k ≤ 100 ∧ i = .int .i64 k ∧ Below wu.heap.size wu wr) (fun i _ => 100 - (intOf i).toNat)
          case atStart => exact ⟨0, Nat.zero_le _, rfl, Below.refl _ _⟩
          case round =>
            obtain ⟨j, hj, rfl, hbr⟩ := hrel
            have Tx := Lib.hid (owns_keep Sx.out hbr)
            have Tz := Lib.hid (owns_keep Sz.out hbr)
            have Tr := Lib.hid (owns_keep Hown.out hbr)
            by_cases hlt2 : j < 100
            · have Hh := Lib.hid (Hhas.out j)
              go_wp2_with fail
              refine (SetHas_any _ _ zs j _ (owns_spans Tz.out) (by omega)).mono ?_
              rintro e w7 ⟨rfl, hb7⟩
              have Ux := Lib.hid (owns_keep Tx.out hb7)
              have B7 := Lib.hid (hbr.trans (hb7.mono hbr.size))
              rw [Hh.out]
              clear hb7 Tx Tz Tr
              obtain ⟨pa, hpa⟩ : ∃ p, anyIn xs j = p := ⟨_, rfl⟩
              have Hpa := Lib.hid hpa
              rw [hpa]
              clear hpa
              go_wp2_with fail
              refine (vaIn_any _ _ xs j _ (owns_spans Ux.out) (by unfold maxLen; omega)).mono ?_
              rintro e w8 ⟨rfl, rfl⟩
              rw [Hpa.out]
              go_wp2
              go_roundw
              case rel => exact ⟨j + 1, by omega, by go_num, B7.out⟩
              case measure => simp [intOf]; omega
            · obtain rfl : j = 100 := by omega
              have B6 := Lib.hid (B5.out.trans (hbr.mono B5.out.size))
              clear hbr Sx Sz Hown
              go_wp2_with fail
              refine (SetOk_any _ _ zs _ (owns_spans Tz.out) (by omega)).mono ?_
              rintro e w7 ⟨rfl, hb7⟩
              have Uz := Lib.hid (owns_keep Tz.out hb7)
              have Ur := Lib.hid (owns_keep Tr.out hb7)
              have B7 := Lib.hid (B6.out.trans (hb7.mono B6.out.size))
              rw [Hzok.out]
              clear hb7 Tx Tz Tr B6
              go_wp2_with fail
              refine (SetOf_any _ _ _ _ (owns_spans Ur.out) (owns_block Ur.out) (by omega)).mono ?_
              rw [HT.out]
              rintro e w8 ⟨A8, c8, rfl, ho8, hb8⟩
              have O8 := Lib.hid ho8
              have Vz := Lib.hid (owns_keep Uz.out hb8)
              have B8 := Lib.hid (B7.out.trans (hb8.mono B7.out.size))
              clear ho8 hb8 Ur Uz B7
              go_wp2_with fail
              refine (vaSpans_same _ _ _ _ zs _ (owns_spans O8.out) (owns_spans Vz.out) (by unfold maxLen; omega)).mono ?_
              rintro e w9 ⟨rfl, hb9⟩
              have Wz := Lib.hid (owns_keep Vz.out hb9)
              have B9 := Lib.hid (B8.out.trans (hb9.mono B8.out.size))
              clear hb9 Vz O8 B8
              go_wp2_with fail
              refine (SetOf_any _ _ _ _ (owns_spans Wz.out) (owns_block Wz.out) (by omega)).mono ?_
              rw [HS.out]
              rintro e w10 ⟨A10, c10, rfl, ho10, hb10⟩
              have O10 := Lib.hid ho10
              have Xz := Lib.hid (owns_keep Wz.out hb10)
              have B10 := Lib.hid (B9.out.trans (hb10.mono B9.out.size))
              clear ho10 hb10 Wz B9
              go_wp2_with fail
              refine (vaSpans_same _ _ _ _ zs _ (owns_spans O10.out) (owns_spans Xz.out) (by unfold maxLen; omega)).mono ?_
              rintro e w11 ⟨rfl, hb11⟩
              have B11 := Lib.hid (B10.out.trans (hb11.mono B10.out.size))
              clear hb11
              go_wp2
              go_ret
              exact ⟨rfl, B11.out⟩
end Go.Proofs.Ytgclmldhdjmabaa
