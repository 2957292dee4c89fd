/-
  Walks: the model's l2Holds, l2Join.
-/
import Derived.Test.YtkdhdppngfadiaaPutS
namespace Go.Proofs.Ytkdhdppngfadiaa
open Go.Shelf Go.RowKit Go.Lib Go.Sort

def holdsS (zs : List RowV) (key : ByteArray) (a b : Int) : Bool := zs.any fun x => (x.k.toList == key.toList) && mB x.f x.e a b
def AtMeet (wr : World) (f e a b : Int) (s9 : Value) (wx : World) : Prop := s9 = .bool (mB f e a b) ∧ Below wr.heap.size wr wx
theorem holds_take {zs : List RowV} {k : Nat} {x : RowV} {key : ByteArray} {a b : Int} (hx : zs[k]? = some x) : holdsS (zs.take (k + 1)) key a b = (holdsS (zs.take k) key a b || ((x.k.toList == key.toList) && mB x.f x.e a b)) := by
  obtain ⟨hk, hx⟩ := List.getElem?_eq_some_iff.1 hx
  subst hx
  unfold holdsS
  rw [List.take_succ_eq_append_getElem hk, List.any_append]
  simp
theorem holds_more {zs : List RowV} {k : Nat} {key : ByteArray} {a b : Int} (h : holdsS (zs.take k) key a b = true) : holdsS zs key a b = true := by
  unfold holdsS at *
  rw [List.any_eq_true] at *
  obtain ⟨x, hx, h⟩ := h
  exact ⟨x, List.mem_of_mem_take hx, h⟩
theorem holdsS_R (zs : List RowV) (r : RowV) : holdsS zs r.k r.f r.e = holdsR zs r := rfl

set_option maxRecDepth 100000 in
set_option maxHeartbeats 4000000 in
theorem l2Holds_any (A : Option Addr) (cap : Nat) (zs : List RowV) (key : ByteArray) (a b : Int) (w : World) (hz : RowsA w A zs) (hl : zs.length ≤ 1048577) :
    Calls Try.prog 80 #[.slice A zs.length cap, .string key, .agg #[.int .i64 a, .int .i64 b]] w fun e w' => e = .returned (.bool (holdsS zs key a b)) ∧ Below w.heap.size w w' := by
  go_enter Try.func80, Try.ntmps80
  go_wp2
  generalize hW : w.alloc _ = W0
  obtain ⟨sb, hsb⟩ : ∃ sb, w.heap.size = sb := ⟨_, rfl⟩
  have s0 : W0.cell? ⟨sb, 0, none⟩ = some (.int .i64 a) := by rw [← hW, ← hsb]; simp [go_sem]
  have s1 : W0.cell? ⟨sb, 1, none⟩ = some (.int .i64 b) := by rw [← hW, ← hsb]; simp [go_sem]
  have lsb : sb < W0.heap.size := by rw [← hW, ← hsb]; simp
  have B0 := Lib.hid (show Below sb w W0 from by rw [← hW]; exact (Below.refl _ _).alloc (by omega) _)
  have HZ := Lib.hid (show RowsA W0 A zs from hz.below (by have := B0.out; rw [← hsb] at this; exact this))
  rw [hsb]
  have HSB := Lib.hid hsb
  clear hW hz hsb
  go_loopw [7] (fun i wr => ∃ k : Nat, k ≤ zs.length ∧ i = .int .i64 k ∧ holdsS (zs.take k) key a b = false ∧ Below W0.heap.size W0 wr) (fun i _ => zs.length - (intOf i).toNat)
  case atStart => exact ⟨0, Nat.zero_le _, rfl, rfl, Below.refl _ _⟩
  case round =>
    obtain ⟨k, hk, rfl, hall, hbr⟩ := hrel
    have Hall := Lib.hid hall
    clear hall
    have q0 := cellBelow hbr lsb s0
    have q1 := cellBelow hbr lsb s1
    have lsb' := Nat.lt_of_lt_of_le lsb hbr.size
    by_cases hlt : k < zs.length
    · obtain ⟨b0, off, x, rfl, hb0, hx, c0, c1, c2, c3⟩ := (HZ.out.below hbr).at_ hlt
      have HX := Lib.hid hx
      clear hx
      have hq0 : Below wr.heap.size wr wr := Below.refl _ _
      have hkz : (k : Int) < (zs.length : Int) := by omega
      have hkz0 : (0 : Int) ≤ (k : Int) := by omega
      go_upto_region 4 with fail
      go_cut [9] (fun s9 wx => AtMeet wr x.f x.e a b s9 wx)
      case first =>
        go_region_held3 (fun w' => w'.cell? ⟨b0, off + k * 4 + 2, none⟩ = some (.int .i64 x.f) ∧ w'.cell? ⟨b0, off + k * 4 + 3, none⟩ = some (.int .i64 x.e) ∧ w'.cell? ⟨sb, 0, none⟩ = some (.int .i64 a) ∧ w'.cell? ⟨sb, 1, none⟩ = some (.int .i64 b) ∧ wr.heap.size ≤ w'.heap.size ∧ Below wr.heap.size wr w')
          (((try go_split_ands); refine ⟨?c0, ?c1, ?c2, ?c3, ?s, ?b⟩; (case c0 => (repeat (first | with_reducible assumption | with_reducible refine cell_below hb (by first | omega | (simp; done) | (simp; omega)) ?_ | with_reducible refine cell_set_far (by first | omega | (simp; done) | (simp; omega)) ?_ | with_reducible exact cell_alloc_swap (by with_reducible assumption) (by first | omega | (simp; done) | (simp; omega)) | with_reducible refine cell_alloc_far ?_ | with_reducible refine cell_drew ?_))); (case c1 => (repeat (first | with_reducible assumption | with_reducible refine cell_below hb (by first | omega | (simp; done) | (simp; omega)) ?_ | with_reducible refine cell_set_far (by first | omega | (simp; done) | (simp; omega)) ?_ | with_reducible exact cell_alloc_swap (by with_reducible assumption) (by first | omega | (simp; done) | (simp; omega)) | with_reducible refine cell_alloc_far ?_ | with_reducible refine cell_drew ?_))); (case c2 => (repeat (first | with_reducible assumption | with_reducible refine cell_below hb (by first | omega | (simp; done) | (simp; omega)) ?_ | with_reducible refine cell_set_far (by first | omega | (simp; done) | (simp; omega)) ?_ | with_reducible exact cell_alloc_swap (by with_reducible assumption) (by first | omega | (simp; done) | (simp; omega)) | with_reducible refine cell_alloc_far ?_ | with_reducible refine cell_drew ?_))); (case c3 => (repeat (first | with_reducible assumption | with_reducible refine cell_below hb (by first | omega | (simp; done) | (simp; omega)) ?_ | with_reducible refine cell_set_far (by first | omega | (simp; done) | (simp; omega)) ?_ | with_reducible exact cell_alloc_swap (by with_reducible assumption) (by first | omega | (simp; done) | (simp; omega)) | with_reducible refine cell_alloc_far ?_ | with_reducible refine cell_drew ?_))); (case s => (first | with_reducible assumption | (have := hb.size; omega) | omega | (simp; done) | (simp; omega) | (have := hb.size; simp at this ⊢; omega))); (case b => (repeat (first | with_reducible assumption | with_reducible exact hq0 | with_reducible refine Below.drew ?_ | with_reducible refine Below.trans ?_ (hb.mono (by first | omega | (simp; done) | (simp; omega))) | with_reducible refine Below.setCell ?_ (by first | omega | (simp; done) | (simp; omega)) _ | with_reducible exact below_alloc_swap (by with_reducible assumption) (by first | omega | (simp; done) | (simp; omega)) | with_reducible refine Below.alloc ?_ (by first | omega | (simp; done) | (simp; omega)) _)))))
          ((go_at_call 116; refine (l1Meet_any _ _ _ _ _).mono ?_; rintro e w1 ⟨rfl, hb⟩; have hsz : wr.heap.size ≤ w1.heap.size := (by have := hb.size; first | omega | (simp at this; omega)); obtain ⟨hc, hf, hl⟩ := bcell3 hb; (try (have hz2 : wr.heap.size < w1.heap.size := (by have := hb.size; first | omega | (simp at this; omega))))))
        all_goals (go_wp2_with fail; go_meet; unfold AtMeet; rename_i hH; obtain ⟨z0, z1, z2, z3, z4, z5⟩ := hH; exact ⟨rfl, z5⟩)
      case rest =>
        obtain ⟨rfl, hbW⟩ := hcut
        replace c0 := cellBelow hbW hb0 c0
        have BW := Lib.hid (hbr.trans (hbW.mono hbr.size))
        have HT := Lib.hid (holds_take (key := key) (a := a) (b := b) HX.out)
        rw [Hall.out, Bool.false_or] at HT
        clear hbW hbr hq0 c1 c2 c3
        cases hkk : (x.k.toList == key.toList)
        · rw [hkk, Bool.false_and] at HT
          go_wp2
          go_roundw
          case rel => exact ⟨k + 1, by omega, by go_num, HT.out, BW.out⟩
          case measure => simp [intOf]; omega
        · cases hmm : mB x.f x.e a b
          · rw [hkk, hmm, Bool.and_false] at HT
            go_wp2
            go_roundw
            case rel => exact ⟨k + 1, by omega, by go_num, HT.out, BW.out⟩
            case measure => simp [intOf]; omega
          · rw [hkk, hmm, Bool.and_true] at HT
            have HF := Lib.hid (holds_more HT.out)
            go_wp2
            go_ret
            exact ⟨ret_bool HF.out.symm, by rw [HSB.out]; exact B0.out.trans (BW.out.mono (by omega))⟩
    · obtain rfl : k = zs.length := by omega
      rw [List.take_length] at Hall
      go_wp2
      go_ret
      exact ⟨ret_bool Hall.out.symm, by rw [HSB.out]; exact B0.out.trans (hbr.mono (by omega))⟩

theorem touch_no1 {y x : RowV} (h : (y.k.toList == x.k.toList) = false) : touchB y x = false := by simp [touchB, h]
theorem touch_no2 {y x : RowV} (h : (y.t.toList == x.t.toList) = false) : touchB y x = false := by simp [touchB, h]
theorem touch_no3 {y x : RowV} (h : (y.e == x.f) = false) : touchB y x = false := by
  have : decide (y.e = x.f) = false := by simpa using h
  rw [touchB, this, Bool.and_false]
theorem touch_yes {y x : RowV} (h1 : (y.k.toList == x.k.toList) = true) (h2 : (y.t.toList == x.t.toList) = true) (h3 : (y.e == x.f) = true) : touchB y x = true := by
  have : decide (y.e = x.f) = true := by simpa using h3
  rw [touchB, h1, h2, this]; rfl
theorem flat_to (o : List RowV) (y : RowV) (e : Int) : (flatOf rowC (o ++ [y])).set (o.length * 4 + 3) (.int .i64 e) = flatOf rowC (o ++ [⟨y.k, y.t, y.f, e⟩]) := by
  have hl : (flatOf rowC o).length = o.length * 4 := flatOf_length rowC_len o
  rw [flatOf_append, flatOf_append, flatOf_one, flatOf_one, ← hl, List.set_append_right _ _ (by omega)]
  simp [rowC]

set_option maxRecDepth 100000 in
set_option maxHeartbeats 4000000 in
theorem l2Join_any (A : Option Addr) (cap : Nat) (zs : List RowV) (w : World) (hz : RowsA w A zs) (hl : zs.length ≤ 1048577) :
    Calls Try.prog 82 #[.slice A zs.length cap] w (GetsE rowC 4 66 w (joinRows zs)) := by
  obtain ⟨i0, hi, hz0, hz1, hz2⟩ := info_parts Try.infoR66
  have Hi := Lib.hid hi
  have Hz0 := Lib.hid hz0
  have Hz1 := Lib.hid hz1
  have Hz2 := Lib.hid hz2
  have HZ := Lib.hid hz
  clear hi hz0 hz1 hz2 hz
  go_enter Try.func82, Try.ntmps82
  go_wp2
  go_loopw [3, 4] (fun v i wr => ∃ k : Nat, k ≤ zs.length ∧ i = .int .i64 k ∧ wr.ownsRow w.heap.size 66 4 v (joinRows (zs.take k)).length (flatOf rowC (joinRows (zs.take k))) ∧ Below w.heap.size w wr) (fun _ i _ => zs.length - (intOf i).toNat)
  case atStart =>
    refine ⟨0, Nat.zero_le _, rfl, ?_, (Below.refl _ _).alloc (Nat.le_refl _) _⟩
    have := World.ownsRow_lit (base := w.heap.size) (e := 66) (size := 4) w #[] 0 (by simp) (by simp [maxLen]) (by simp)
    simpa [flatOf, joinRows] using this
  case round =>
    obtain ⟨k, hk, rfl, hown, hbr⟩ := hrel
    have Hown := Lib.hid hown
    clear hown
    by_cases hlt : k < zs.length
    · obtain ⟨b, off, x, rfl, hb, hx, q0, q1, q2, q3⟩ := (HZ.out.below hbr).at_ hlt
      have HT := Lib.hid (join_take hx)
      have hlo := joinRows_len (zs.take k)
      rw [List.length_take, Nat.min_eq_left hk] at hlo
      obtain ⟨oo, hoo⟩ : ∃ oo, joinRows (zs.take k) = oo := ⟨_, rfl⟩
      rw [hoo] at Hown HT hlo
      clear hx hoo
      have hs5 := hbr.size
      rcases List.eq_nil_or_concat oo with h0 | ⟨o, y, h0⟩
      · subst h0
        obtain ⟨A5, c5, rfl⟩ := owns_formN Hown.out
        go_wp2_with fail
        go_quiet (fail)
        have BW := Lib.hid (show Below w.heap.size w (wr.drewN nq) from below_drewN hbr _)
        have OW := Lib.hid (show (wr.drewN nq).ownsRow w.heap.size 66 4 (.slice A5 0 c5) 0 (flatOf rowC []) from Hown.out)
        replace q0 : (wr.drewN nq).cell? ⟨b, off + k * 4, none⟩ = some (.string x.k) := q0
        replace q1 : (wr.drewN nq).cell? ⟨b, off + k * 4 + 1, none⟩ = some (.string x.t) := q1
        replace q2 : (wr.drewN nq).cell? ⟨b, off + k * 4 + 2, none⟩ = some (.int .i64 x.f) := q2
        replace q3 : (wr.drewN nq).cell? ⟨b, off + k * 4 + 3, none⟩ = some (.int .i64 x.e) := q3
        replace hs5 : w.heap.size ≤ (wr.drewN nq).heap.size := hs5
        clear hbr Hown
        generalize wr.drewN nq = W1 at *
        go_wp2_with (at_builtin; refine wpList_append_own _ rfl _ _ 26 rfl w.heap.size 66 i0 _ 4 48 Try.underlying26 Hi.out Hz0.out Hz1.out Hz2.out rfl (by decide) _ 0 (flatOf rowC []) rfl (OW.out.alloc _) ⟨W1.heap.size, 0, none⟩ 1 1 [.string x.k, .string x.t, .int .i64 x.f, .int .i64 x.e] rfl rfl (newsFour (by simp) (by simp) (by simp) (by simp)) (by simp [Value.oneCell']) (by unfold maxLen; omega) (by omega) (by simp; omega) ?_; intro v' w3 hown' hgrow hnil; have O3 := Lib.hid hown'; have B3 := Lib.hid ((BW.out.alloc hs5 _).grown hgrow (by simp; omega) (fun i e => by have := (OW.out.lt i e).1; omega)); clear hown' hgrow hnil)
        refine ⟨⟨k + 1, by omega, by simp, ?_, B3.out⟩, ?_⟩
        · rw [HT.out]; exact O3.out
        · simp [intOf]; omega
      · rw [List.concat_eq_append] at h0
        subst h0
        have hlen : (o ++ [y]).length = o.length + 1 := by simp
        rw [hlen] at Hown hlo
        obtain ⟨g, c5, rfl, hgb, hgl, p0, p1, p2, p3, pf⟩ := last_own Hown.out rfl
        clear hlen
        have hob1 : ((o.length : Nat) : Int) < (o.length : Int) + 1 := by omega
        have hob0 : (0 : Int) ≤ (o.length : Int) := by omega
        have hobn : ((o.length : Int) + 1 - 1).toNat = o.length := by omega
        have hobk : (k : Int) < (zs.length : Int) := by omega
        cases hkk : (y.k.toList == x.k.toList)
        · have hxx := touch_no1 (y := y) (x := x) hkk
          have HT2 := Lib.hid (show joinRows (zs.take (k + 1)) = o ++ [y] ++ [x] from by rw [HT.out, joinStep_at, hxx]; rfl)
          go_wp2_with fail
          go_quiet (fail)
          have BW := Lib.hid (show Below w.heap.size w (wr.drewN nq) from below_drewN hbr _)
          have OW := Lib.hid (show (wr.drewN nq).ownsRow w.heap.size 66 4 (.slice (some ⟨g, 0, none⟩) (o.length + 1) c5) (o.length + 1) (flatOf rowC (o ++ [y])) from Hown.out)
          replace q0 : (wr.drewN nq).cell? ⟨b, off + k * 4, none⟩ = some (.string x.k) := q0
          replace q1 : (wr.drewN nq).cell? ⟨b, off + k * 4 + 1, none⟩ = some (.string x.t) := q1
          replace q2 : (wr.drewN nq).cell? ⟨b, off + k * 4 + 2, none⟩ = some (.int .i64 x.f) := q2
          replace q3 : (wr.drewN nq).cell? ⟨b, off + k * 4 + 3, none⟩ = some (.int .i64 x.e) := q3
          replace hs5 : w.heap.size ≤ (wr.drewN nq).heap.size := hs5
          clear hbr Hown
          clear p0 p1 p2 p3 pf
          generalize wr.drewN nq = W1 at *
          go_wp2_with (at_builtin; refine wpList_append_own _ rfl _ _ 26 rfl w.heap.size 66 i0 _ 4 48 Try.underlying26 Hi.out Hz0.out Hz1.out Hz2.out rfl (by decide) _ (o.length + 1) (flatOf rowC (o ++ [y])) rfl (OW.out.alloc _) ⟨W1.heap.size, 0, none⟩ 1 1 [.string x.k, .string x.t, .int .i64 x.f, .int .i64 x.e] rfl rfl (newsFour (by simp) (by simp) (by simp) (by simp)) (by simp [Value.oneCell']) (by unfold maxLen; omega) (by omega) (by simp; omega) ?_; intro v' w3 hown' hgrow hnil; have O3 := Lib.hid hown'; have B3 := Lib.hid ((BW.out.alloc hs5 _).grown hgrow (by simp; omega) (fun i e => by have := (OW.out.lt i e).1; omega)); clear hown' hgrow hnil)
          refine ⟨⟨k + 1, by omega, by simp, ?_, B3.out⟩, ?_⟩
          · rw [HT2.out, flatOf_append, flatOf_one, show (o ++ [y] ++ [x]).length = o.length + 1 + 1 by simp]
            exact O3.out
          · simp [intOf]; omega
        · cases htt : (y.t.toList == x.t.toList)
          · have hxx := touch_no2 (y := y) (x := x) htt
            have HT2 := Lib.hid (show joinRows (zs.take (k + 1)) = o ++ [y] ++ [x] from by rw [HT.out, joinStep_at, hxx]; rfl)
            go_wp2_with fail
            go_quiet (fail)
            have BW := Lib.hid (show Below w.heap.size w (wr.drewN nq) from below_drewN hbr _)
            have OW := Lib.hid (show (wr.drewN nq).ownsRow w.heap.size 66 4 (.slice (some ⟨g, 0, none⟩) (o.length + 1) c5) (o.length + 1) (flatOf rowC (o ++ [y])) from Hown.out)
            replace q0 : (wr.drewN nq).cell? ⟨b, off + k * 4, none⟩ = some (.string x.k) := q0
            replace q1 : (wr.drewN nq).cell? ⟨b, off + k * 4 + 1, none⟩ = some (.string x.t) := q1
            replace q2 : (wr.drewN nq).cell? ⟨b, off + k * 4 + 2, none⟩ = some (.int .i64 x.f) := q2
            replace q3 : (wr.drewN nq).cell? ⟨b, off + k * 4 + 3, none⟩ = some (.int .i64 x.e) := q3
            replace hs5 : w.heap.size ≤ (wr.drewN nq).heap.size := hs5
            clear hbr Hown
            clear p0 p1 p2 p3 pf
            generalize wr.drewN nq = W1 at *
            go_wp2_with (at_builtin; refine wpList_append_own _ rfl _ _ 26 rfl w.heap.size 66 i0 _ 4 48 Try.underlying26 Hi.out Hz0.out Hz1.out Hz2.out rfl (by decide) _ (o.length + 1) (flatOf rowC (o ++ [y])) rfl (OW.out.alloc _) ⟨W1.heap.size, 0, none⟩ 1 1 [.string x.k, .string x.t, .int .i64 x.f, .int .i64 x.e] rfl rfl (newsFour (by simp) (by simp) (by simp) (by simp)) (by simp [Value.oneCell']) (by unfold maxLen; omega) (by omega) (by simp; omega) ?_; intro v' w3 hown' hgrow hnil; have O3 := Lib.hid hown'; have B3 := Lib.hid ((BW.out.alloc hs5 _).grown hgrow (by simp; omega) (fun i e => by have := (OW.out.lt i e).1; omega)); clear hown' hgrow hnil)
            refine ⟨⟨k + 1, by omega, by simp, ?_, B3.out⟩, ?_⟩
            · rw [HT2.out, flatOf_append, flatOf_one, show (o ++ [y] ++ [x]).length = o.length + 1 + 1 by simp]
              exact O3.out
            · simp [intOf]; omega
          · cases hee : (y.e == x.f)
            · have hxx := touch_no3 (y := y) (x := x) hee
              have HT2 := Lib.hid (show joinRows (zs.take (k + 1)) = o ++ [y] ++ [x] from by rw [HT.out, joinStep_at, hxx]; rfl)
              go_wp2_with fail
              go_quiet (fail)
              have BW := Lib.hid (show Below w.heap.size w (wr.drewN nq) from below_drewN hbr _)
              have OW := Lib.hid (show (wr.drewN nq).ownsRow w.heap.size 66 4 (.slice (some ⟨g, 0, none⟩) (o.length + 1) c5) (o.length + 1) (flatOf rowC (o ++ [y])) from Hown.out)
              replace q0 : (wr.drewN nq).cell? ⟨b, off + k * 4, none⟩ = some (.string x.k) := q0
              replace q1 : (wr.drewN nq).cell? ⟨b, off + k * 4 + 1, none⟩ = some (.string x.t) := q1
              replace q2 : (wr.drewN nq).cell? ⟨b, off + k * 4 + 2, none⟩ = some (.int .i64 x.f) := q2
              replace q3 : (wr.drewN nq).cell? ⟨b, off + k * 4 + 3, none⟩ = some (.int .i64 x.e) := q3
              replace hs5 : w.heap.size ≤ (wr.drewN nq).heap.size := hs5
              clear hbr Hown
              clear p0 p1 p2 p3 pf
              generalize wr.drewN nq = W1 at *
              go_wp2_with (at_builtin; refine wpList_append_own _ rfl _ _ 26 rfl w.heap.size 66 i0 _ 4 48 Try.underlying26 Hi.out Hz0.out Hz1.out Hz2.out rfl (by decide) _ (o.length + 1) (flatOf rowC (o ++ [y])) rfl (OW.out.alloc _) ⟨W1.heap.size, 0, none⟩ 1 1 [.string x.k, .string x.t, .int .i64 x.f, .int .i64 x.e] rfl rfl (newsFour (by simp) (by simp) (by simp) (by simp)) (by simp [Value.oneCell']) (by unfold maxLen; omega) (by omega) (by simp; omega) ?_; intro v' w3 hown' hgrow hnil; have O3 := Lib.hid hown'; have B3 := Lib.hid ((BW.out.alloc hs5 _).grown hgrow (by simp; omega) (fun i e => by have := (OW.out.lt i e).1; omega)); clear hown' hgrow hnil)
              refine ⟨⟨k + 1, by omega, by simp, ?_, B3.out⟩, ?_⟩
              · rw [HT2.out, flatOf_append, flatOf_one, show (o ++ [y] ++ [x]).length = o.length + 1 + 1 by simp]
                exact O3.out
              · simp [intOf]; omega
            · skip
              have HT2 := Lib.hid (show joinRows (zs.take (k + 1)) = o ++ [joinR y x] from by rw [HT.out, joinStep_at, touch_yes hkk htt hee]; rfl)
              go_wp2_with fail
              go_quiet (fail)
              have BW := Lib.hid (show Below w.heap.size w (wr.drewN nq) from below_drewN hbr _)
              have OW := Lib.hid (show (wr.drewN nq).ownsRow w.heap.size 66 4 (.slice (some ⟨g, 0, none⟩) (o.length + 1) c5) (o.length + 1) (flatOf rowC (o ++ [y])) from Hown.out)
              replace q0 : (wr.drewN nq).cell? ⟨b, off + k * 4, none⟩ = some (.string x.k) := q0
              replace q1 : (wr.drewN nq).cell? ⟨b, off + k * 4 + 1, none⟩ = some (.string x.t) := q1
              replace q2 : (wr.drewN nq).cell? ⟨b, off + k * 4 + 2, none⟩ = some (.int .i64 x.f) := q2
              replace q3 : (wr.drewN nq).cell? ⟨b, off + k * 4 + 3, none⟩ = some (.int .i64 x.e) := q3
              replace p0 : (wr.drewN nq).cell? ⟨g, o.length * 4, none⟩ = some (.string y.k) := p0
              replace p1 : (wr.drewN nq).cell? ⟨g, o.length * 4 + 1, none⟩ = some (.string y.t) := p1
              replace p2 : (wr.drewN nq).cell? ⟨g, o.length * 4 + 2, none⟩ = some (.int .i64 y.f) := p2
              replace p3 : (wr.drewN nq).cell? ⟨g, o.length * 4 + 3, none⟩ = some (.int .i64 y.e) := p3
              replace hs5 : w.heap.size ≤ (wr.drewN nq).heap.size := hs5
              clear hbr Hown
              replace pf : ∀ j, (wr.drewN nq).frozen? ⟨g, j, none⟩ = false := pf
              generalize wr.drewN nq = W1 at *
              go_wp2
              go_roundw
              case measure => simp [intOf]; omega
              case rel =>
                refine ⟨k + 1, by omega, by go_num, ?_, BW.out.setCell (by simpa using hgb) _⟩
                have e : flatOf rowC (o ++ [joinR y x]) = (flatOf rowC (o ++ [y])).set (o.length * 4 + 3) (.int .i64 x.e) := (flat_to o y x.e).symm
                rw [HT2.out, show (o ++ [joinR y x]).length = o.length + 1 by simp, e]
                exact (OW.out.stored (o.length * 4 + 3) (.int .i64 x.e)).1
    · obtain rfl : k = zs.length := by omega
      rw [List.take_length] at Hown
      obtain ⟨A', c', hv⟩ := owns_sliceE Hown.out
      subst hv
      go_wp2
      go_ret
      exact ⟨A', c', rfl, Hown.out, hbr⟩
end Go.Proofs.Ytkdhdppngfadiaa
