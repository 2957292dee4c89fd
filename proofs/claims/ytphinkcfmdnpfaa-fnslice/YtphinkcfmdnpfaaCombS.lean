/-
  Walks: what a closure makes of each period.
-/
import Derived.Test.YtphinkcfmdnpfaaConcP
import Derived.Test.YtphinkcfmdnpfaaRelG
import Derived.Test.YtphinkcfmdnpfaaCombJ
import Derived.Shelf.Abstract
import Derived.Test.YtphinkcfmdnpfaaRelOf
namespace Go.Proofs.Ytphinkcfmdnpfaa
open Go.Shelf Go.RowKit Go.Lib Go.Sort

/-- What a function value says of a pair; what it has captured lies as in w0. -/
def Test (g : Nat) (cb : Array Value) (P : PairV → Bool) (w0 : World) : Prop :=
  ∀ (W : World) (p : PairV), Below w0.heap.size w0 W → Calls Try.prog g (#[.agg #[.string p.k, .string p.t]] ++ cb) W fun e w' => e = .returned (.bool (P p)) ∧ Below W.heap.size W w'
/-- Texts as they stand in a table. -/
def Small (ps : List PairV) : Prop := ∀ p ∈ ps, p.k.size ≤ 9 ∧ p.t.size ≤ 9
/-- What a function value makes of two snapshots. -/
def One (g : Nat) (cb : Array Value) (F : List PairV → List PairV → List PairV) (w0 : World) : Prop :=
  ∀ (W : World) (A B : Option Addr) (ca cc : Nat) (ps qs : List PairV), Below w0.heap.size w0 W → PairsA W A ps → PairsA W B qs → (A = none → ca = 0) → (B = none → cc = 0) → ps.length ≤ 24 → qs.length ≤ 24 → Small ps → Small qs →
    Calls Try.prog g (#[.slice A ps.length ca, .slice B qs.length cc] ++ cb) W (GetsE pairC 2 44 W (F ps qs))

theorem filter_take {ps : List PairV} {P : PairV → Bool} {k : Nat} {x : PairV} (hx : ps[k]? = some x) : (ps.take (k + 1)).filter P = (ps.take k).filter P ++ (if P x = true then [x] else []) := by
  obtain ⟨hk, rfl⟩ := List.getElem?_eq_some_iff.1 hx
  rw [List.take_succ_eq_append_getElem hk, List.filter_append]
  by_cases h : P ps[k] = true
  · rw [if_pos h]; simp [h]
  · rw [if_neg h]; simp [h]
theorem filter_len (ps : List PairV) (P : PairV → Bool) (k : Nat) : ((ps.take k).filter P).length ≤ k := by
  have := List.length_filter_le P (ps.take k)
  rw [List.length_take] at this
  omega

set_option maxRecDepth 100000 in
set_option maxHeartbeats 4000000 in
theorem where_any (A : Option Addr) (cap : Nat) (ps : List PairV) (g : Nat) (cb : Array Value) (P : PairV → Bool) (w : World) (eg : ∀ args w, (callFunc g args).run Try.prog w = .ok (.enter g args) w)
    (hz : PairsA w A ps) (hl : ps.length ≤ 1048577) (hC : Test g cb P w) :
    Calls Try.prog 73 #[.slice A ps.length cap, .func (.func g) #[] cb] w (GetsE pairC 2 44 w (ps.filter P)) := by
  obtain ⟨i0, hi, hz0, hz1, hz2⟩ := info_parts Try.infoP44
  have Hi := Lib.hid hi
  have Hz0 := Lib.hid hz0
  have Hz1 := Lib.hid hz1
  have Hz2 := Lib.hid hz2
  have HZ := Lib.hid hz
  have HC := Lib.hid hC
  clear hi hz0 hz1 hz2 hz hC
  go_enter Try.func73, Try.ntmps73
  go_wp2
  go_loopw [5, 10] (fun v i wr => ∃ k : Nat, k ≤ ps.length ∧ i = .int .i64 k ∧ wr.ownsRow w.heap.size 44 2 v ((ps.take k).filter P).length (flatOf pairC ((ps.take k).filter P)) ∧ Below w.heap.size w wr) (fun _ i _ => ps.length - (intOf i).toNat)
  case atStart => exact ⟨0, Nat.zero_le _, rfl, World.ownsRow_nil _ _ _ _, Below.refl _ _⟩
  case round =>
    obtain ⟨k, hk, rfl, hown, hbr⟩ := hrel
    have Hown := Lib.hid hown
    clear hown
    by_cases hlt : k < ps.length
    · obtain ⟨b, off, x, rfl, hb, hx, c0, c1⟩ := (HZ.out.below hbr).at_ hlt
      have HT := Lib.hid (filter_take (P := P) hx)
      have hlo := filter_len ps P k
      obtain ⟨oo, hoo⟩ : ∃ oo, (ps.take k).filter P = oo := ⟨_, rfl⟩
      rw [hoo] at Hown HT hlo
      clear hx hoo
      have hs5 := hbr.size
      have BA := Lib.hid (hbr.alloc hs5 (.cells #[.string x.k, .string x.t] 44))
      have OA := Lib.hid (Hown.out.alloc (.cells #[.string x.k, .string x.t] 44))
      have e0 : (wr.alloc (.cells #[.string x.k, .string x.t] 44)).cell? ⟨wr.heap.size, 0, none⟩ = some (.string x.k) := by simp
      have e1 : (wr.alloc (.cells #[.string x.k, .string x.t] 44)).cell? ⟨wr.heap.size, 1, none⟩ = some (.string x.t) := by simp
      have E0 := Lib.hid e0
      have E1 := Lib.hid e1
      have hc := HC.out (wr.alloc (.cells #[.string x.k, .string x.t] 44)) x BA.out
      clear e0 e1
      obtain ⟨pv, hpv⟩ : ∃ pv, P x = pv := ⟨_, rfl⟩
      rw [hpv] at hc HT
      clear hpv
      cases pv
      · rw [if_neg (by simp), List.append_nil] at HT
        go_wp2_with (go_at_fn g; refine hc.mono ?_; rintro e w2 ⟨rfl, hb2⟩; have O2 := Lib.hid (ownsKeep OA.out hb2); have B2 := Lib.hid (BA.out.trans (hb2.mono BA.out.size)); clear hb2)
        refine ⟨⟨k + 1, by omega, by simp, by rw [HT.out]; exact O2.out, B2.out⟩, ?_⟩
        simp [intOf]; omega
      · rw [if_pos rfl] at HT
        go_wp2_with (first
          | (go_at_fn g; refine hc.mono ?_; rintro e w2 ⟨rfl, hb2⟩; have O2 := Lib.hid (ownsKeep OA.out hb2); have B2 := Lib.hid (BA.out.trans (hb2.mono BA.out.size)); have hs2 := B2.out.size; have q0 := cellBelow hb2 (by simp) E0.out; have q1 := cellBelow hb2 (by simp) E1.out; clear hb2)
          | (at_builtin; refine wpList_append_own _ rfl _ _ 34 rfl w.heap.size 44 i0 _ 2 32 Try.underlying34 Hi.out Hz0.out Hz1.out Hz2.out rfl (by decide) _ oo.length (flatOf pairC oo) rfl (O2.out.alloc _) ⟨w2.heap.size, 0, none⟩ 1 1 [.string x.k, .string x.t] rfl rfl (newsTwo (by simp) (by simp)) (by simp [Value.oneCell']) (by unfold maxLen; omega) (by omega) (by simp; omega) ?_; intro v' w3 hown' hgrow hnil))
        have O3 := Lib.hid (ownPairs (x := x) hown' rfl)
        have B3 := Lib.hid ((B2.out.alloc hs2 _).grown hgrow (by simp; omega) (fun i e => by have := (O2.out.lt i e).1; omega))
        clear hown' hgrow hnil
        refine ⟨⟨k + 1, by omega, by simp, by rw [HT.out]; exact O3.out, B3.out⟩, ?_⟩
        simp [intOf]; omega
    · obtain rfl : k = ps.length := by omega
      rw [List.take_length] at Hown
      obtain ⟨A', c', hv⟩ := owns_sliceE Hown.out
      subst hv
      go_wp2
      go_ret
      exact ⟨A', c', rfl, Hown.out, hbr⟩

/-! ### what each asks -/
set_option maxHeartbeats 1000000 in
theorem both_test (bb : Nat) (B : Option Addr) (cc : Nat) (qs : List PairV) (w : World) (c0 : w.cell? ⟨bb, 0, none⟩ = some (.slice B qs.length cc)) (hz : PairsA w B qs) (hl : qs.length ≤ 1048577) :
    Test 80 #[.pointer (some ⟨bb, 0, none⟩)] (fun p => !noText (getP p.k qs)) w := by
  intro W p hW
  have d0 := cellBelow hW (World.block_lt_of_cell? _ _ c0) c0
  have HZ := Lib.hid (hz.below hW)
  have lb : bb < W.heap.size := World.block_lt_of_cell? _ _ d0
  obtain ⟨u, hu⟩ : ∃ u, getP p.k qs = u := ⟨_, rfl⟩
  have HU := Lib.hid hu
  clear hu hW c0 hz
  have BA := Lib.hid ((Below.refl W.heap.size W).alloc (Nat.le_refl _) (.cells #[.string p.k, .string p.t] 44))
  go_enter Try.func80, Try.ntmps80
  go_wp2_with (go_at_call 75; refine (textIn_any B cc qs p.k _ (HZ.out.below BA.out) hl).mono ?_; rw [HU.out]; rintro e w2 ⟨rfl, hb⟩; have B2 := Lib.hid (BA.out.trans (hb.mono BA.out.size)); clear hb)
  go_ret
  exact ⟨by rw [HU.out]; rfl, B2.out⟩

set_option maxHeartbeats 1000000 in
theorem both_one (w : World) : One 79 #[] bothF w := by
  intro W A B ca cc ps qs hW hp hq hA hB hlp hlq _ _
  have HP := Lib.hid hp
  have HQ := Lib.hid hq
  have BA := Lib.hid ((Below.refl W.heap.size W).alloc (Nat.le_refl _) (.cells #[.slice B qs.length cc] 34))
  have hT := both_test W.heap.size B cc qs (W.alloc (.cells #[.slice B qs.length cc] 34)) (by simp) (hq.below BA.out) (by omega)
  have HT := Lib.hid hT
  clear hW hp hq hA hB hT
  go_enter Try.func79, Try.ntmps79
  go_wp2_with (go_at_call 73; refine (where_any A ca ps 80 _ _ _ (enters_of Try.func80 (by kernel_rfl) rfl) (HP.out.below BA.out) (by omega) HT.out).mono ?_; rintro e w2 h2; obtain ⟨A2, c2, rfl, h3⟩ := getsE_after h2 BA.out; have H3 := Lib.hid h3; clear h2 h3)
  go_ret
  exact ⟨A2, c2, rfl, H3.out⟩

set_option maxHeartbeats 1000000 in
theorem bad_test (bb : Nat) (B : Option Addr) (cc : Nat) (qs : List PairV) (w : World) (c0 : w.cell? ⟨bb, 0, none⟩ = some (.slice B qs.length cc)) (hz : PairsA w B qs) (hl : qs.length ≤ 1048577) :
    Test 74 #[.pointer (some ⟨bb, 0, none⟩)] (fun p => noText (getP p.t qs)) w := by
  intro W p hW
  have d0 := cellBelow hW (World.block_lt_of_cell? _ _ c0) c0
  have HZ := Lib.hid (hz.below hW)
  have lb : bb < W.heap.size := World.block_lt_of_cell? _ _ d0
  obtain ⟨u, hu⟩ : ∃ u, getP p.t qs = u := ⟨_, rfl⟩
  have HU := Lib.hid hu
  clear hu hW c0 hz
  have BA := Lib.hid ((Below.refl W.heap.size W).alloc (Nat.le_refl _) (.cells #[.string p.k, .string p.t] 44))
  go_enter Try.func74, Try.ntmps74
  go_wp2_with (go_at_call 75; refine (textIn_any B cc qs p.t _ (HZ.out.below BA.out) hl).mono ?_; rw [HU.out]; rintro e w2 ⟨rfl, hb⟩; have B2 := Lib.hid (BA.out.trans (hb.mono BA.out.size)); clear hb)
  go_ret
  exact ⟨by rw [HU.out]; rfl, B2.out⟩

set_option maxHeartbeats 1000000 in
theorem bad_one (w : World) : One 72 #[] badF w := by
  intro W A B ca cc ps qs hW hp hq hA hB hlp hlq _ _
  have HP := Lib.hid hp
  have HQ := Lib.hid hq
  have BA := Lib.hid ((Below.refl W.heap.size W).alloc (Nat.le_refl _) (.cells #[.slice B qs.length cc] 34))
  have hT := bad_test W.heap.size B cc qs (W.alloc (.cells #[.slice B qs.length cc] 34)) (by simp) (hq.below BA.out) (by omega)
  have HT := Lib.hid hT
  clear hW hp hq hA hB hT
  go_enter Try.func72, Try.ntmps72
  go_wp2_with (go_at_call 73; refine (where_any A ca ps 74 _ _ _ (enters_of Try.func74 (by kernel_rfl) rfl) (HP.out.below BA.out) (by omega) HT.out).mono ?_; rintro e w2 h2; obtain ⟨A2, c2, rfl, h3⟩ := getsE_after h2 BA.out; have H3 := Lib.hid h3; clear h2 h3)
  go_ret
  exact ⟨A2, c2, rfl, H3.out⟩

end Go.Proofs.Ytphinkcfmdnpfaa
namespace Go.Proofs.Ytphinkcfmdnpfaa
open Go.Shelf Go.RowKit Go.Lib Go.Sort

theorem str_add2 (a b : ByteArray) (ha : a.size ≤ 4096) (hb : b.size ≤ 4096) (w : World) : (Op.stringOp .add a b).run Try.prog w = .ok (.string (a ++ b)) w := run_string_add_sum w a b (by omega)
theorem joinF_take {ps qs : List PairV} {k : Nat} {x : PairV} (hx : ps[k]? = some x) : joinF (ps.take (k + 1)) qs = joinF (ps.take k) qs ++ (if noText (getP x.k qs) = true then [] else [⟨x.k, joinT x.t (getP x.k qs)⟩]) := by
  obtain ⟨hk, rfl⟩ := List.getElem?_eq_some_iff.1 hx
  unfold joinF
  rw [List.take_succ_eq_append_getElem hk, List.filterMap_append]
  by_cases h : noText (getP ps[k].k qs) = true
  · rw [if_pos h]; simp [h]
  · rw [if_neg h]; simp [h]
theorem joinF_len (ps qs : List PairV) (k : Nat) : (joinF (ps.take k) qs).length ≤ k := by
  have h := List.length_filterMap_le (fun p : PairV => if noText (getP p.k qs) = true then none else some (⟨p.k, joinT p.t (getP p.k qs)⟩ : PairV)) (ps.take k)
  rw [List.length_take] at h
  unfold joinF
  omega
theorem getP_small {key : ByteArray} : ∀ {qs : List PairV}, Small qs → (getP key qs).size ≤ 9
  | [], _ => Nat.zero_le _
  | q :: l, h => by
    rw [getP]
    by_cases hk : (q.k.toList == key.toList) = true
    · rw [if_pos hk]; exact (h q (List.mem_cons_self ..)).2
    · rw [if_neg hk]; exact getP_small fun p hp => h p (List.mem_cons_of_mem _ hp)

end Go.Proofs.Ytphinkcfmdnpfaa
namespace Go.Proofs.Ytphinkcfmdnpfaa
open Go.Shelf Go.RowKit Go.Lib Go.Sort

/-- What a function value makes of a period and two snapshots. -/
def OneS (g : Nat) (cb : Array Value) (F : Int × Int → List PairV → List PairV → List RowV) (w0 : World) : Prop :=
  ∀ (W : World) (p q : Int) (A B : Option Addr) (ca cc : Nat) (ps qs : List PairV), Below w0.heap.size w0 W → PairsA W A ps → PairsA W B qs → (A = none → ca = 0) → (B = none → cc = 0) → ps.length ≤ 24 → qs.length ≤ 24 → Small ps → Small qs →
    Calls Try.prog g (#[.agg #[.int .i64 p, .int .i64 q], .slice A ps.length ca, .slice B qs.length cc] ++ cb) W (GetsE rowC 4 70 W (F (p, q) ps qs))
theorem OneS.later {g : Nat} {cb : Array Value} {F : Int × Int → List PairV → List PairV → List RowV} {w0 w1 : World} (h : OneS g cb F w0) (hb : Below w0.heap.size w0 w1) : OneS g cb F w1 := fun W p q A B ca cc ps qs hW => h W p q A B ca cc ps qs (hb.trans (hW.mono hb.size))
theorem One.later {g : Nat} {cb : Array Value} {F : List PairV → List PairV → List PairV} {w0 w1 : World} (h : One g cb F w0) (hb : Below w0.heap.size w0 w1) : One g cb F w1 := fun W A B ca cc ps qs hW => h W A B ca cc ps qs (hb.trans (hW.mono hb.size))
theorem rowsIn_take {ps : List PairV} {s : Int × Int} {k : Nat} {x : PairV} (hx : ps[k]? = some x) : rowsIn (ps.take (k + 1)) s = rowsIn (ps.take k) s ++ [⟨x.k, x.t, s.1, s.2⟩] := by
  obtain ⟨hk, rfl⟩ := List.getElem?_eq_some_iff.1 hx
  unfold rowsIn
  rw [List.take_succ_eq_append_getElem hk, List.map_append]
  rfl

set_option maxRecDepth 100000 in
set_option maxHeartbeats 4000000 in
theorem comb1_one (ob g : Nat) (cb : Array Value) (F : List PairV → List PairV → List PairV) (w : World) (eg : ∀ args w, (callFunc g args).run Try.prog w = .ok (.enter g args) w)
    (c0 : w.cell? ⟨ob, 0, none⟩ = some (.func (.func g) #[] cb)) (hC : One g cb F w) (hFl : ∀ ps qs, ps.length ≤ 24 → qs.length ≤ 24 → (F ps qs).length ≤ 48) :
    OneS 123 #[.pointer (some ⟨ob, 0, none⟩)] (fun s ps qs => rowsIn (F ps qs) s) w := by
  intro W p q A B ca cc ps qs hW hp hq hA hB hlp hlq hsp hsq
  obtain ⟨i0, hi, hz0, hz1, hz2⟩ := info_parts Try.infoR70
  have Hi := Lib.hid hi
  have Hz0 := Lib.hid hz0
  have Hz1 := Lib.hid hz1
  have Hz2 := Lib.hid hz2
  have lo := World.block_lt_of_cell? _ _ c0
  have d0 : (W.alloc (.cells #[.int .i64 p, .int .i64 q] 29)).cell? ⟨ob, 0, none⟩ = some (.func (.func g) #[] cb) := (World.cell?_alloc_lt _ _ _ (Nat.lt_of_lt_of_le lo hW.size)).trans (cellBelow hW lo c0)
  have BA := Lib.hid ((Below.refl W.heap.size W).alloc (Nat.le_refl _) (.cells #[.int .i64 p, .int .i64 q] 29))
  have hfl := hFl ps qs hlp hlq
  have hc := hC (W.alloc (.cells #[.int .i64 p, .int .i64 q] 29)) A B ca cc ps qs (hW.alloc hW.size _) (hp.below BA.out) (hq.below BA.out) hA hB hlp hlq hsp hsq
  have E0 := Lib.hid (show (W.alloc (.cells #[.int .i64 p, .int .i64 q] 29)).cell? ⟨W.heap.size, 0, none⟩ = some (.int .i64 p) by simp)
  have E1 := Lib.hid (show (W.alloc (.cells #[.int .i64 p, .int .i64 q] 29)).cell? ⟨W.heap.size, 1, none⟩ = some (.int .i64 q) by simp)
  clear hW hp hq hA hB hsp hsq c0 hC hi hz0 hz1 hz2
  obtain ⟨fs, hfs⟩ : ∃ fs, F ps qs = fs := ⟨_, rfl⟩
  rw [hfs] at hfl hc
  show Calls _ _ _ _ (GetsE rowC 4 70 W (rowsIn (F ps qs) (p, q)))
  rw [hfs]
  clear hfs hFl
  go_enter Try.func123, Try.ntmps123
  go_wp2_with (go_at_fn g; refine hc.mono ?_; rintro e w1 ⟨A1, c1, rfl, ho, hb⟩; have P1 := Lib.hid (show PairsA w1 A1 fs from el_of_owns pairC_len ho); have B1 := Lib.hid (BA.out.trans (hb.mono BA.out.size)); have S0 := Lib.hid (cellBelow hb (by simp) E0.out); have S1 := Lib.hid (cellBelow hb (by simp) E1.out); have ls : W.heap.size < w1.heap.size := (by have := hb.size; simp at this; omega); clear ho hb)
  clear hc d0
  go_loopw [8, 16] (fun v i wr => ∃ k : Nat, k ≤ fs.length ∧ i = .int .i64 k ∧ wr.ownsRow w1.heap.size 70 4 v (rowsIn (fs.take k) (p, q)).length (flatOf rowC (rowsIn (fs.take k) (p, q))) ∧ Below w1.heap.size w1 wr) (fun _ i _ => fs.length - (intOf i).toNat)
  case atStart => exact ⟨0, Nat.zero_le _, rfl, World.ownsRow_nil _ _ _ _, Below.refl _ _⟩
  case round =>
    obtain ⟨k, hk, rfl, hown, hbr⟩ := hrel
    have Hown := Lib.hid hown
    clear hown
    by_cases hlt : k < fs.length
    · obtain ⟨b, off, x, rfl, hb, hx, q0, q1⟩ := (P1.out.below hbr).at_ hlt
      have HT := Lib.hid (rowsIn_take (s := (p, q)) hx)
      have hlo : (rowsIn (fs.take k) (p, q)).length ≤ 48 := by unfold rowsIn; rw [List.length_map, List.length_take]; omega
      obtain ⟨oo, hoo⟩ : ∃ oo, rowsIn (fs.take k) (p, q) = oo := ⟨_, rfl⟩
      rw [hoo] at Hown HT hlo
      clear hx hoo
      have hs5 := hbr.size
      have s0 := cellBelow hbr ls S0.out
      have s1 := cellBelow hbr ls S1.out
      have ls2 : W.heap.size < wr.heap.size := by omega
      go_wp2_with (at_builtin; refine wpList_append_own _ rfl _ _ 23 rfl w1.heap.size 70 i0 _ 4 48 Try.underlying23 Hi.out Hz0.out Hz1.out Hz2.out rfl (by decide) _ oo.length (flatOf rowC oo) rfl ((Hown.out.alloc _).alloc _) ⟨wr.heap.size + 1, 0, none⟩ 1 1 [.string x.k, .string x.t, .int .i64 p, .int .i64 q] rfl rfl (newsFour (by simp) (by simp) (by simp) (by simp)) (by simp [Value.oneCell']) (by unfold maxLen; omega) (by omega) (by simp; omega) ?_; intro v' w3 hown' hgrow hnil; have O3 := Lib.hid hown'; have B3 := Lib.hid (((hbr.alloc hs5 _).alloc (by simp; omega) _).grown hgrow (by simp; omega) (fun i e => by have := (Hown.out.lt i e).1; omega)); clear hown' hgrow hnil)
      refine ⟨⟨k + 1, by omega, by simp, ?_, B3.out⟩, ?_⟩
      · rw [HT.out, flatOf_append, flatOf_one, show (oo ++ [(⟨x.k, x.t, (p, q).1, (p, q).2⟩ : RowV)]).length = oo.length + 1 by simp]
        exact O3.out
      · simp [intOf]; omega
    · obtain rfl : k = fs.length := by omega
      rw [List.take_length] at Hown
      obtain ⟨A', c', hv⟩ := owns_sliceE Hown.out
      subst hv
      have BZ := Lib.hid (B1.out.trans (hbr.mono B1.out.size))
      have OZ := Lib.hid (ownsBase (base' := W.heap.size) Hown.out B1.out.size)
      clear hbr
      go_wp2
      go_ret
      exact ⟨A', c', rfl, OZ.out, BZ.out⟩
end Go.Proofs.Ytphinkcfmdnpfaa
