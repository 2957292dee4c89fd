/-
  Walks: whether a list is a table's tree, as the model asks.
-/
import Derived.Test.YtphinkcfmdnpfaaTreB
import Derived.Test.YtphinkcfmdnpfaaIdxF
import Derived.Test.YtphinkcfmdnpfaaRelS
import Derived.Test.YtphinkcfmdnpfaaRelOfS
namespace Go.Proofs.Ytphinkcfmdnpfaa
open Go.Shelf Go.RowKit Go.Lib

set_option maxRecDepth 100000 in
theorem eqNod_run (d : Nat) (x y : NodV) (w : World) :
    (Op.equalIn (d + 1 + 1 + 1 + 1) 72 (.agg #[.string x.r.k, .string x.r.t, .int .i64 x.r.f, .int .i64 x.r.e, .int .i64 x.i, .int .i64 x.o]) (.agg #[.string y.r.k, .string y.r.t, .int .i64 y.r.f, .int .i64 y.r.e, .int .i64 y.i, .int .i64 y.o])).run Try.prog w = .ok (sameNod x y) w := by
  have u3 := Try.underlying3
  have a3 := Try.isAgg3
  have z3 := Try.sizeOf3
  have a70 := Try.isAgg70
  have z70 := Try.sizeOf70
  have hS' : Try.prog.underlying 72 = some (.struct (Try.prog.fieldsOf 72)) := by kernel_rfl
  have hp' : Try.prog.stoodInHeld 72 = false := by kernel_rfl
  have hs := fun w => eqRow_run3 d x.r.k y.r.k x.r.t y.r.t x.r.f x.r.e y.r.f y.r.e w
  rw [run_equalIn_agg w (d + 1 + 1 + 1) 72 _ _ hS' hp']
  clear hS' hp'
  unfold sameNod sameRow
  simp only [Program.fieldsOf, Try.underlying72]
  go_simp
  cases h1 : (x.r.k.toList == y.r.k.toList) <;> cases h2 : (x.r.t.toList == y.r.t.toList) <;> cases h3 : (x.r.f == y.r.f) <;> cases h4 : (x.r.e == y.r.e) <;> cases h5 : (x.i == y.i) <;> cases h6 : (x.o == y.o) <;> simp_all
theorem eqNod_at (x y : NodV) (w : World) :
    (Op.equalIn 10000 72 (.agg #[.string x.r.k, .string x.r.t, .int .i64 x.r.f, .int .i64 x.r.e, .int .i64 x.i, .int .i64 x.o]) (.agg #[.string y.r.k, .string y.r.t, .int .i64 y.r.f, .int .i64 y.r.e, .int .i64 y.i, .int .i64 y.o])).run Try.prog w = .ok (sameNod x y) w := eqNod_run 9996 x y w
theorem eqNs_len {xs ys : List NodV} (h : ¬ xs.length = ys.length) : eqNs xs ys = false := by
  cases hc : eqNs xs ys with
  | false => rfl
  | true => exact absurd (congrArg List.length (eqNs_iff.1 hc)) h
theorem drop_atN {zs : List NodV} {k : Nat} {x : NodV} (h : zs[k]? = some x) : zs.drop k = x :: zs.drop (k + 1) := by
  obtain ⟨hk, hx⟩ := List.getElem?_eq_some_iff.1 h
  rw [← hx]
  exact List.drop_eq_getElem_cons hk

set_option maxRecDepth 100000 in
set_option maxHeartbeats 4000000 in
theorem EqualN_any (A B : Option Addr) (ca cb : Nat) (xs ys : List NodV) (w : World) (hx : NodsA w A xs) (hy : NodsA w B ys) (hl : xs.length ≤ maxLen) :
    Calls Try.prog 136 #[.slice A xs.length ca, .slice B ys.length cb] w fun e w' => e = .returned (.bool (eqNs xs ys)) ∧ Below w.heap.size w w' := by
  have HX := Lib.hid hx
  have HY := Lib.hid hy
  unfold maxLen at hl
  clear hx hy
  by_cases hn : xs.length = ys.length
  · have HN := Lib.hid hn
    have hz : ((xs.length : Int) == (ys.length : Int)) = true := by rw [hn]; simp
    obtain ⟨m, hm⟩ : ∃ m, ys.length = m := ⟨_, rfl⟩
    have HM := Lib.hid hm
    rw [hm] at hn hz
    rw [hn] at hl hz ⊢
    rw [hm]
    clear hn hm
    have HNX := Lib.hid (show xs.length = m from HN.out.trans HM.out)
    go_enter Try.func136, Try.ntmps136
    go_wp2
    go_loopw [13] (fun i wr => ∃ k : Nat, k ≤ m ∧ i = .int .i64 k ∧ eqNs xs ys = eqNs (xs.drop k) (ys.drop k) ∧ Below w.heap.size w wr) (fun i _ => m - (intOf i).toNat)
    case atStart => exact ⟨0, Nat.zero_le _, rfl, rfl, Below.refl _ _⟩
    case round =>
      obtain ⟨k, hk, rfl, heq, hbr⟩ := hrel
      have HE := Lib.hid heq
      clear heq
      by_cases hlt : k < m
      · obtain ⟨b, off, x, rfl, hb, hxk, c0, c1, c2, c3, c4, c5⟩ := (HX.out.below hbr).at_ (show k < xs.length by rw [HNX.out]; exact hlt)
        obtain ⟨b', off', y, rfl, hb', hyk, d0, d1, d2, d3, d4, d5⟩ := (HY.out.below hbr).at_ (show k < ys.length by rw [HM.out]; exact hlt)
        have HD := Lib.hid (show eqNs xs ys = (sameNod x y && eqNs (xs.drop (k + 1)) (ys.drop (k + 1))) from by
          rw [HE.out, drop_atN hxk, drop_atN hyk]; rfl)
        have hkz : (k : Int) < (m : Int) := by omega
        have hkz0 : (0 : Int) ≤ (k : Int) := by omega
        have BR := Lib.hid hbr
        obtain ⟨v, hv⟩ : ∃ v, sameNod x y = v := ⟨_, rfl⟩
        have hE : ∀ W, (Op.equalIn 10000 72 (.agg #[.string x.r.k, .string x.r.t, .int .i64 x.r.f, .int .i64 x.r.e, .int .i64 x.i, .int .i64 x.o]) (.agg #[.string y.r.k, .string y.r.t, .int .i64 y.r.f, .int .i64 y.r.e, .int .i64 y.i, .int .i64 y.o])).run Try.prog W = .ok v W := fun W => by rw [← hv]; exact eqNod_at x y W
        rw [hv] at HD
        clear hxk hyk hbr hv HE
        go_wp2_with fail
        go_quiet (fail)
        have BN := Lib.hid (show Below w.heap.size w (wr.drewN nq) from below_drewN BR.out _)
        cases v
        · go_wp2
          go_ret
          rw [HD.out]
          exact ⟨rfl, BN.out⟩
        · go_wp2
          go_roundw
          case rel => exact ⟨k + 1, by omega, by go_num, by rw [HD.out]; rfl, BN.out⟩
          case measure => simp [intOf]; omega
      · have e : k = m := by omega
        subst e
        have BR := Lib.hid hbr
        clear hbr
        go_wp2
        go_ret
        refine ⟨?_, BR.out⟩
        rw [HE.out, List.drop_of_length_le (by rw [HNX.out]; omega), List.drop_of_length_le (by rw [HM.out]; omega)]
        rfl
  · have HF := Lib.hid (eqNs_len hn)
    have hz : ((xs.length : Int) == (ys.length : Int)) = false := by rw [beq_eq_false_iff_ne]; omega
    clear hn
    go_enter Try.func136, Try.ntmps136
    go_wp2
    go_ret
    rw [HF.out]
    exact ⟨rfl, Below.refl _ _⟩

theorem rowsN_take {x : List NodV} {k : Nat} {y : NodV} (h : x[k]? = some y) : rowsN (x.take (k + 1)) = rowsN (x.take k) ++ [y.r] := by
  obtain ⟨hk, rfl⟩ := List.getElem?_eq_some_iff.1 h
  unfold rowsN
  rw [List.take_succ_eq_append_getElem hk, List.map_append]
  rfl
theorem rowsN_takeLen {x : List NodV} {k : Nat} (h : k ≤ x.length) : (rowsN (x.take k)).length = k := by
  rw [rowsN_len, List.length_take]; omega

set_option maxRecDepth 100000 in
set_option maxHeartbeats 4000000 in
theorem l8Rows_any (A : Option Addr) (ca : Nat) (x : List NodV) (w : World) (hx : NodsA w A x) (hl : x.length ≤ 1048577) :
    Calls Try.prog 134 #[.slice A x.length ca] w (GetsE rowC 4 70 w (rowsN x)) := by
  obtain ⟨i0, hi, hz0, hz1, hz2⟩ := info_parts Try.infoR70
  have Hi := Lib.hid hi
  have Hz0 := Lib.hid hz0
  have Hz1 := Lib.hid hz1
  have Hz2 := Lib.hid hz2
  have HX := Lib.hid hx
  clear hi hz0 hz1 hz2 hx
  go_enter Try.func134, Try.ntmps134
  go_wp2
  go_loopw [3, 4] (fun v i wr => ∃ k : Nat, k ≤ x.length ∧ i = .int .i64 k ∧ wr.ownsRow w.heap.size 70 4 v k (flatOf rowC (rowsN (x.take k))) ∧ Below w.heap.size w wr) (fun _ i _ => x.length - (intOf i).toNat)
  case atStart =>
    refine ⟨0, Nat.zero_le _, rfl, ?_, (Below.refl _ _).alloc (Nat.le_refl _) _⟩
    have := World.ownsRow_lit (base := w.heap.size) (e := 70) (size := 4) w #[] 0 (by simp) (by simp [maxLen]) (by simp)
    simpa [flatOf, rowsN] using this
  case round =>
    obtain ⟨k, hk, rfl, hown, hbr⟩ := hrel
    have Hown := Lib.hid hown
    clear hown
    by_cases hlt : k < x.length
    · obtain ⟨b, off, y, rfl, hb, hxk, c0, c1, c2, c3, c4, c5⟩ := (HX.out.below hbr).at_ hlt
      have HT := Lib.hid (rowsN_take hxk)
      have hkz : (k : Int) < (x.length : Int) := by omega
      have hkz0 : (0 : Int) ≤ (k : Int) := by omega
      have hs5 := hbr.size
      obtain ⟨oo, hoo⟩ : ∃ oo, rowsN (x.take k) = oo := ⟨_, rfl⟩
      rw [hoo] at Hown HT
      clear hxk hoo c4 c5
      go_wp2_with (at_builtin; refine wpList_append_own _ rfl _ _ 23 rfl w.heap.size 70 i0 _ 4 48 Try.underlying23 Hi.out Hz0.out Hz1.out Hz2.out rfl (by decide) _ k (flatOf rowC oo) rfl (Hown.out.alloc _) ⟨wr.heap.size, 0, none⟩ 1 1 [.string y.r.k, .string y.r.t, .int .i64 y.r.f, .int .i64 y.r.e] rfl rfl (newsFour (by simp) (by simp) (by simp) (by simp)) (by simp [Value.oneCell']) (by unfold maxLen; omega) (by omega) (by simp; omega) ?_; intro v' w3 hown' hgrow hnil; have O3 := Lib.hid hown'; have B3 := Lib.hid ((hbr.alloc hs5 _).grown hgrow (by simp; omega) (fun i e => by have := (Hown.out.lt i e).1; omega)); clear hown' hgrow hnil)
      refine ⟨⟨k + 1, by omega, by simp, ?_, B3.out⟩, ?_⟩
      · rw [HT.out, flatOf_append, flatOf_one]
        exact O3.out
      · simp [intOf]; omega
    · obtain rfl : k = x.length := by omega
      rw [List.take_length] at Hown
      obtain ⟨A5, c5, rfl⟩ := owns_formN Hown.out
      go_wp2
      go_ret
      refine ⟨A5, c5, by rw [rowsN_len]; rfl, ?_, hbr⟩
      rw [rowsN_len]
      exact Hown.out

theorem shortN_rows {x : List NodV} (h : ShortN x) : Short (rowsN x) := fun r hr => by
  obtain ⟨y, hy, rfl⟩ := List.mem_map.1 hr
  exact h y hy

end Go.Proofs.Ytphinkcfmdnpfaa
namespace Go.Proofs.Ytphinkcfmdnpfaa
open Go.Shelf Go.RowKit Go.Lib

set_option maxRecDepth 100000 in
set_option maxHeartbeats 4000000 in
theorem l8Ok_any (A : Option Addr) (ca : Nat) (x : List NodV) (w : World) (hx : NodsA w A x) (hl : x.length ≤ 1048577) (hs : ShortN x) :
    Calls Try.prog 94 #[.slice A x.length ca] w fun e w' => e = .returned (.bool (idxB x)) ∧ Below w.heap.size w w' := by
  have HX := Lib.hid hx
  have HS := Lib.hid (shortN_rows hs)
  clear hx hs
  have HRO := Lib.hid (relOf_isOk (rowsN x))
  have hrl := relOf_len (rowsN x)
  have HIB := Lib.hid (idxB_iff (x := x))
  obtain ⟨ob, hob⟩ : ∃ ob, idxB x = ob := ⟨_, rfl⟩
  rw [hob] at HIB ⊢
  clear hob
  obtain ⟨t, ht⟩ : ∃ t, relOfL (rowsN x) = t := ⟨_, rfl⟩
  have HT := Lib.hid ht
  rw [ht] at HRO hrl HIB
  clear ht
  have HRN := Lib.hid (rowsN_len x)
  go_enter Try.func94, Try.ntmps94
  go_wp2_with fail
  refine (l8Rows_any A ca x _ HX.out hl).mono ?_
  obtain ⟨rs, hrs⟩ : ∃ rs, rowsN x = rs := ⟨_, rfl⟩
  rw [hrs] at HS HT HRN ⊢
  have hrs1 : rs.length ≤ 1048577 := by rw [HRN.out]; exact hl
  rintro e w2 ⟨A2, c2, rfl, ho, hb⟩
  have R2 := Lib.hid (show RowsA w2 A2 rs from el_of_owns rowC_len ho)
  have B2 := Lib.hid hb
  clear ho hb hrs
  go_wp2_with fail
  refine (sRelOf_any A2 c2 rs _ R2.out hrs1 HS.out).mono ?_
  rw [HT.out]
  rintro e w3 ⟨A3, c3, rfl, ho, hb⟩
  have R3 := Lib.hid (show RowsA w3 A3 t from el_of_owns rowC_len ho)
  have B3 := Lib.hid (B2.out.trans (hb.mono B2.out.size))
  clear ho hb R2 hrs1
  rw [HRN.out]
  by_cases hn : t.length = x.length
  · have hz : ((t.length : Int) == (x.length : Int)) = true := by rw [hn]; simp
    have HN := Lib.hid hn
    have HIL := Lib.hid (show indexL t = buildL 24 (sortF t) from if_pos HRO.out)
    have HIX := Lib.hid (show (indexL t).length = x.length from by rw [← rowsN_len, (index_perm HRO.out).length_eq, HN.out])
    have HSL := Lib.hid (sortF_len t)
    clear hn
    go_wp2_with fail
    refine (l8Sort_any A3 c3 t _ R3.out (by omega)).mono ?_
    obtain ⟨st, hst⟩ : ∃ st, sortF t = st := ⟨_, rfl⟩
    rw [hst] at HIL HSL ⊢
    rintro e w4 ⟨A4, c4, rfl, ho, hb⟩
    have R4 := Lib.hid (show RowsA w4 A4 st from el_of_owns rowC_len ho)
    have hc4 := owns_cap ho
    have B4 := Lib.hid (B3.out.trans (hb.mono B3.out.size))
    have HBD := Lib.hid (l8Build_any 24 A4 c4 st w4 R4.out (by rw [HSL.out]; omega) hc4 (by omega))
    rw [← HIL.out] at HBD
    clear ho hb R3 hst HSL hc4
    go_wp2_with fail
    obtain ⟨ys, hys⟩ : ∃ ys, indexL t = ys := ⟨_, rfl⟩
    rw [hys] at HIB HIX HBD
    refine HBD.out.mono ?_
    rintro e w5 ⟨A5, c5, rfl, ho, hb⟩
    have Y5 := Lib.hid (show NodsA w5 A5 ys from el_of_owns nodC_len ho)
    have B5 := Lib.hid (B4.out.trans (hb.mono B4.out.size))
    clear ho hb R4 hys HIL HBD
    rw [HIX.out]
    go_wp2
    go_loopw [6] (fun i wr => ∃ k : Nat, k ≤ x.length ∧ i = .int .i64 k ∧ eqNs x ys = eqNs (x.drop k) (ys.drop k) ∧ Below w5.heap.size w5 wr) (fun i _ => x.length - (intOf i).toNat)
    case atStart => exact ⟨0, Nat.zero_le _, rfl, rfl, Below.refl _ _⟩
    case round =>
      obtain ⟨k, hk, rfl, heq, hbr⟩ := hrel
      have HE := Lib.hid heq
      clear heq
      by_cases hlt : k < x.length
      · obtain ⟨b, off, p, rfl, hb, hxk, c0, c1, c2, c3, c4, c5⟩ := (HX.out.below (B5.out.trans (hbr.mono B5.out.size))).at_ hlt
        obtain ⟨b', off', q, rfl, hb', hyk, d0, d1, d2, d3, d4, d5⟩ := (Y5.out.below hbr).at_ (show k < ys.length by rw [HIX.out]; exact hlt)
        have HD := Lib.hid (show eqNs x ys = (sameNod p q && eqNs (x.drop (k + 1)) (ys.drop (k + 1))) from by
          rw [HE.out, drop_atN hxk, drop_atN hyk]; rfl)
        have hkz : (k : Int) < (x.length : Int) := by omega
        have hkz0 : (0 : Int) ≤ (k : Int) := by omega
        have BR := Lib.hid hbr
        obtain ⟨v, hv⟩ : ∃ v, sameNod p q = v := ⟨_, rfl⟩
        have hE : ∀ W, (Op.equalIn 10000 72 (.agg #[.string p.r.k, .string p.r.t, .int .i64 p.r.f, .int .i64 p.r.e, .int .i64 p.i, .int .i64 p.o]) (.agg #[.string q.r.k, .string q.r.t, .int .i64 q.r.f, .int .i64 q.r.e, .int .i64 q.i, .int .i64 q.o])).run Try.prog W = .ok v W := fun W => by rw [← hv]; exact eqNod_at p q W
        rw [hv] at HD
        clear hxk hyk hbr hv HE
        go_wp2_with fail
        go_quiet (fail)
        have BN := Lib.hid (show Below w5.heap.size w5 (wr.drewN nq) from below_drewN BR.out _)
        cases v
        · go_wp2
          go_ret
          refine ⟨ret_bool ?_, B5.out.trans (BN.out.mono B5.out.size)⟩
          rw [eq_comm, ← Bool.not_eq_true]
          intro hc
          have := eqNs_iff.2 (HIB.out.1 hc).2.symm
          rw [HD.out] at this
          cases this
        · go_wp2
          go_roundw
          case rel => exact ⟨k + 1, by omega, by go_num, by rw [HD.out]; rfl, BN.out⟩
          case measure => simp [intOf]; omega
      · have e : k = x.length := by omega
        subst e
        have BR := Lib.hid hbr
        clear hbr
        go_wp2
        go_ret
        refine ⟨ret_bool ?_, B5.out.trans (BR.out.mono B5.out.size)⟩
        rw [eq_comm]
        refine HIB.out.2 ⟨HN.out, (eqNs_iff.1 ?_).symm⟩
        rw [HE.out, List.drop_of_length_le (by omega), List.drop_of_length_le (by rw [HIX.out]; omega)]
        rfl
  · have hz : ((t.length : Int) == (x.length : Int)) = false := by rw [beq_eq_false_iff_ne]; omega
    have HN := Lib.hid hn
    clear hn
    go_wp2
    go_ret
    refine ⟨ret_bool ?_, B3.out⟩
    rw [eq_comm, ← Bool.not_eq_true]
    intro hc
    exact HN.out (HIB.out.1 hc).1
end Go.Proofs.Ytphinkcfmdnpfaa
