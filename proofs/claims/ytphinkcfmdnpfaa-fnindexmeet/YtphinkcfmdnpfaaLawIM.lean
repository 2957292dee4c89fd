/-
  The walk of FnIndexMeet.
-/
import Derived.Test.YtphinkcfmdnpfaaLawIL
namespace Go.Proofs.Ytphinkcfmdnpfaa
open Go.Shelf Go.RowKit Go.Lib

def AtSM (wr : World) (v : Bool) (s : Value) (wx : World) : Prop := s = .bool v ∧ Below wr.heap.size wr wx
theorem gB_in {f e a b : Int} (h1 : okB f e = true) (h2 : okB a b = true) : gB f e a b = (decide (f < b) && decide (a < e)) := by
  unfold gB
  rw [h1, h2]
  unfold okB at h1 h2
  rw [decide_eq_true_eq] at h1 h2
  simp only [Bool.and_true, Bool.true_and]
  unfold mB
  rw [← Bool.decide_and, decide_eq_decide]
  omega
/-- How many of the first k meet the span. -/
def metMany (a b : Int) (x : List NodV) : Nat := (rowsN x).countP (meetsB a b)
theorem metMany_step {a b : Int} {x : List NodV} {k : Nat} {y : NodV} (h : x[k]? = some y) : metMany a b (x.take (k + 1)) = if meetsB a b y.r = true then metMany a b (x.take k) + 1 else metMany a b (x.take k) := by
  obtain ⟨hk, rfl⟩ := List.getElem?_eq_some_iff.1 h
  unfold metMany rowsN
  rw [List.take_succ_eq_append_getElem hk, List.map_append, List.countP_append]
  cases hm : meetsB a b x[k].r <;> simp [hm]
theorem metMany_le (a b : Int) (x : List NodV) : metMany a b x ≤ x.length := by
  have := List.countP_le_length (p := meetsB a b) (l := rowsN x)
  rwa [rowsN_len] at this
/-- What the law says of a tree and a span. -/
theorem meet_facts {x : List NodV} {a b : Int} {ms : List RowV} {mn : Int} (hM : metR x a b = (ms, mn)) (h1 : idxB x = true) (h2 : okB a b = true) : ms.length = metMany a b x ∧ (ms.length : Int) ≤ mn ∧ mn ≤ x.length ∧ (∀ y ∈ x, gB y.r.f y.r.e a b = meetsB a b y.r) ∧ (∀ r ∈ ms, gB r.f r.e a b = true) ∧ ms.Pairwise (fun x y => lessFK x y = true) := by
  have hf := met_facts h1 a b
  rw [metR_in h1 h2, treeN_at h1] at hM
  injection hM with e1 e2
  have e1 : metL x a b = ms := e1
  have e2 : ((looksL x a b : Nat) : Int) = mn := e2
  rw [e1] at hf
  obtain ⟨t, ht, hx, e0⟩ := idx_known h1
  have hv : ∀ r ∈ t, okB r.f r.e = true := fun r hr => by
    obtain ⟨q1, q2, q3⟩ := (tight_rel ht).1 r hr
    unfold okB; rw [decide_eq_true_eq]; omega
  refine ⟨hf.2.1, by omega, by omega, fun y hy => ?_, fun r hr => ?_, hf.2.2.2.2.1⟩
  · have hm : y.r ∈ t := by
      have : y.r ∈ rowsN x := List.mem_map.2 ⟨y, hy, rfl⟩
      rw [hx] at this
      exact (index_perm ht).subset this
    rw [gB_in (hv _ hm) h2]; rfl
  · have hq := hf.2.2.2.2.2 r hr
    rw [e0] at hq
    rw [gB_in (hv _ hq.2) h2]; exact hq.1

set_option maxRecDepth 100000 in
set_option maxHeartbeats 8000000 in
theorem FnIndexMeet_any (A : Option Addr) (n cap : Nat) (bs : List Int) (w : World) (hz : Bytes w w.heap.size A bs ∧ bs.length = n ∧ n ≤ cap ∧ cap ≤ maxLen) :
    Calls Try.prog 11 #[.slice A n cap] w fun e w' => e = .returned (.bool true) ∧ Below w.heap.size w w' := by
  obtain ⟨hz, rfl, hc, hm⟩ := hz
  have hm' := hm
  unfold maxLen at hm'
  by_cases hl0 : (1048576 : Int) < bs.length
  · go_enter Try.func11, Try.ntmps11
    go_wp2
    go_ret
    exact ⟨rfl, Below.refl _ _⟩
  · go_enter Try.func11, Try.ntmps11
    go_wp2_with fail
    refine (DrawIndexMeet_any A cap bs w hz hc hm).mono ?_
    rintro e w0 ⟨xs, A1, c1, a, b, rfl, hla, hsx, hox, hb0⟩
    have X0 := Lib.hid (show NodsA w0 A1 xs from el_of_owns nodC_len hox)
    have HCP := Lib.hid (owns_cap hox)
    have HSX := Lib.hid hsx
    have hla' : xs.length ≤ 1048577 := by omega
    have hML := metR_len xs a b
    have HNG := Lib.hid (metR_neg (x := xs) (a := a) (e := b))
    obtain ⟨M, hM⟩ : ∃ M, metR xs a b = M := ⟨_, rfl⟩
    have HM := Lib.hid hM
    rw [hM] at hML HNG
    obtain ⟨ms, mn⟩ := M
    dsimp only at hML HNG
    have HMF := Lib.hid (fun h1 h2 => meet_facts (x := xs) (a := a) (b := b) (ms := ms) (mn := mn) hM h1 h2)
    have hml : ms.length ≤ 1048577 := by omega
    have hs0 := hb0.size
    clear hox hsx hz hc hm hm' hM
    go_wp2_with fail
    generalize hW : World.alloc _ _ = W0
    obtain ⟨SB, hSB⟩ : ∃ SB, w0.heap.size = SB := ⟨_, rfl⟩
    have s0 : W0.cell? ⟨SB, 0, none⟩ = some (.int .i64 a) := by rw [← hW, ← hSB]; simp [go_sem]
    have s1 : W0.cell? ⟨SB, 1, none⟩ = some (.int .i64 b) := by rw [← hW, ← hSB]; simp [go_sem]
    have ls : SB < W0.heap.size := by rw [← hW, ← hSB]; simp
    have hbW : Below w0.heap.size w0 W0 := by rw [← hW]; exact (Below.refl _ _).alloc (Nat.le_refl _) _
    have B0 := Lib.hid (hb0.trans (hbW.mono hs0))
    have X1 := Lib.hid (X0.out.below hbW)
    rw [hSB]
    clear hW hbW hb0 X0 hs0 hSB
    refine (IndexMeet_any A1 c1 xs a b W0 X1.out hla' HSX.out).mono ?_
    rw [HM.out]
    rintro e w1 ⟨A3, c3, rfl, ho, hb⟩
    have L2 := Lib.hid (show RowsA w1 A3 ms from el_of_owns rowC_len ho)
    have X2 := Lib.hid (X1.out.below hb)
    have B2 := Lib.hid (B0.out.trans (hb.mono B0.out.size))
    replace s0 := cellBelow hb ls s0
    replace s1 := cellBelow hb ls s1
    replace ls : SB < w1.heap.size := Nat.lt_of_lt_of_le ls hb.size
    clear ho hb B0 X1
    go_wp2_with fail
    refine (sIndexMeet_any A1 c1 xs a b w1 X2.out HCP.out hla' HSX.out).mono ?_
    rw [HM.out]
    rintro e w2 ⟨A4, c4, rfl, ho, hb⟩
    have W3 := Lib.hid (show RowsA w2 A4 ms from el_of_owns rowC_len ho)
    have L3 := Lib.hid (L2.out.below hb)
    have X3 := Lib.hid (X2.out.below hb)
    have B3 := Lib.hid (B2.out.trans (hb.mono B2.out.size))
    replace s0 := cellBelow hb ls s0
    replace s1 := cellBelow hb ls s1
    replace ls : SB < w2.heap.size := Nat.lt_of_lt_of_le ls hb.size
    clear ho hb B2 X2 L2
    go_wp2_with fail
    refine (vaRows_any _ _ _ _ ms ms _ L3.out W3.out hml).mono ?_
    rintro e w3 ⟨v3, hv3, rfl, hb⟩
    obtain rfl : v3 = true := hv3.2 rfl
    have W4 := Lib.hid (W3.out.below hb)
    have L4 := Lib.hid (L3.out.below hb)
    have X4 := Lib.hid (X3.out.below hb)
    have B4 := Lib.hid (B3.out.trans (hb.mono B3.out.size))
    replace s0 := cellBelow hb ls s0
    replace s1 := cellBelow hb ls s1
    replace ls : SB < w3.heap.size := Nat.lt_of_lt_of_le ls hb.size
    have HK1 := Lib.hid (fun w' hx => IndexOk_any A1 c1 xs w' hx hla' HSX.out)
    have HK2 := Lib.hid (fun w' hx => sIndexOk_any A1 c1 xs w' hx hla' HSX.out)
    obtain ⟨ob, hob⟩ : ∃ ob, idxB xs = ob := ⟨_, rfl⟩
    have HOB := Lib.hid hob
    rw [hob] at HK1 HK2
    clear hv3 hb B3 X3 L3 W3 hob
    go_wp2_with fail
    refine (HK1.out _ X4.out).mono ?_
    rintro e w4 ⟨rfl, hb⟩
    have W5 := Lib.hid (W4.out.below hb)
    have L5 := Lib.hid (L4.out.below hb)
    have X5 := Lib.hid (X4.out.below hb)
    have B5 := Lib.hid (B4.out.trans (hb.mono B4.out.size))
    replace s0 := cellBelow hb ls s0
    replace s1 := cellBelow hb ls s1
    replace ls : SB < w4.heap.size := Nat.lt_of_lt_of_le ls hb.size
    clear hb B4 X4 L4 W4
    go_wp2_with fail
    refine (HK2.out _ X5.out).mono ?_
    rintro e w5 ⟨rfl, hb⟩
    have W6 := Lib.hid (W5.out.below hb)
    have L6 := Lib.hid (L5.out.below hb)
    have X6 := Lib.hid (X5.out.below hb)
    have B6 := Lib.hid (B5.out.trans (hb.mono B5.out.size))
    replace s0 := cellBelow hb ls s0
    replace s1 := cellBelow hb ls s1
    replace ls : SB < w5.heap.size := Nat.lt_of_lt_of_le ls hb.size
    clear hb B5 X5 L5 W5
    by_cases h1 : mn < 0
    · have n1 : decide (mn < 0) = true := decide_eq_true h1
      go_wp2_with fail
      refine (vaRows_any _ _ _ _ ms ms _ L6.out W6.out hml).mono ?_
      rintro e w6 ⟨v3, hv3, rfl, hb⟩
      obtain rfl : v3 = true := hv3.2 rfl
      have X7 := Lib.hid (X6.out.below hb)
      have B7 := Lib.hid (B6.out.trans (hb.mono B6.out.size))
      clear hb hv3
      go_wp2_with fail
      refine (HK1.out _ X7.out).mono ?_
      rintro e w7 ⟨rfl, hb⟩
      have X8 := Lib.hid (X7.out.below hb)
      have B8 := Lib.hid (B7.out.trans (hb.mono B7.out.size))
      clear hb
      go_wp2_with fail
      refine (HK2.out _ X8.out).mono ?_
      rintro e w8 ⟨rfl, hb⟩
      have BZ := Lib.hid (B8.out.trans (hb.mono B8.out.size))
      clear hb
      go_wp2
      go_ret
      exact ⟨by first | rfl | simp, BZ.out⟩
    · have hIX := HNG.out (by omega)
      have hMF := HMF.out hIX.1 hIX.2
      have HF1 := Lib.hid hMF.1
      have HF2 := Lib.hid hMF.2.1
      have HF3 := Lib.hid hMF.2.2.1
      have HF4 := Lib.hid hMF.2.2.2.1
      have HF5 := Lib.hid hMF.2.2.2.2.1
      have HF6 := Lib.hid hMF.2.2.2.2.2
      clear hIX hMF HMF HNG HK1 HK2 W6 HM
      obtain ⟨wB, rfl⟩ : ∃ W, W = w5 := ⟨_, rfl⟩
      go_wp2
      go_loopw [9, 10] (fun m i wr => ∃ k : Nat, k ≤ xs.length ∧ i = .int .i64 k ∧ m = .int .i64 (metMany a b (xs.take k)) ∧ Below wB.heap.size wB wr) (fun _ i _ => xs.length - (intOf i).toNat)
      case atStart => exact ⟨0, Nat.zero_le _, rfl, rfl, Below.refl _ _⟩
      case round =>
        obtain ⟨k, hk, rfl, rfl, hbr⟩ := hrel
        have t0 := cellBelow hbr ls s0
        have t1 := cellBelow hbr ls s1
        have lt9 : SB < wr.heap.size := Nat.lt_of_lt_of_le ls hbr.size
        by_cases hlt : k < xs.length
        · obtain ⟨bk, off, y, rfl, hbk, hxk, p0, p1, p2, p3, p4, p5⟩ := (X6.out.below hbr).at_ hlt
          have HT := Lib.hid (metMany_step (a := a) (b := b) hxk)
          have HG := Lib.hid (HF4.out y (List.mem_of_getElem? hxk))
          have hmm := metMany_le a b (xs.take k)
          rw [List.length_take] at hmm
          obtain ⟨m, hm⟩ : ∃ m, metMany a b (xs.take k) = m := ⟨_, rfl⟩
          rw [hm] at HT hmm ⊢
          have hkz : (k : Int) < (xs.length : Int) := by omega
          have hkz0 : (0 : Int) ≤ (k : Int) := by omega
          have hwm : IntKind.i64.wrap ((m : Int) + 1) = ((m + 1 : Nat) : Int) := (IntWalk.i64_in _ (by omega)).trans (by omega)
          have hq0 : Below wr.heap.size wr wr := Below.refl _ _
          have BR := Lib.hid hbr
          clear hxk hm p0 p1 p4 p5 hbr
          go_upto_region 12 with fail
          go_cut [12] (fun s12 wx => AtSM wr (gB y.r.f y.r.e a b) s12 wx)
          case first =>
            go_region_held3 (fun w' => w'.cell? ⟨bk, off + k * 6 + 2, none⟩ = some (.int .i64 y.r.f) ∧ w'.cell? ⟨bk, off + k * 6 + 3, none⟩ = some (.int .i64 y.r.e) ∧ w'.cell? ⟨SB, 0, none⟩ = some (.int .i64 a) ∧ w'.cell? ⟨SB, 1, none⟩ = some (.int .i64 b) ∧ wr.heap.size ≤ w'.heap.size ∧ Below wr.heap.size wr w')
              (((try go_split_ands); refine ⟨?cc90, ?cc91, ?cc92, ?cc93, ?sz9, ?bl9⟩; (case cc90 => (repeat (first | with_reducible assumption | with_reducible refine cell_below hb (by first | omega | (simp; done) | (simp; omega)) ?_ | with_reducible refine cell_set_far (by first | omega | (simp; done) | (simp; omega)) ?_ | with_reducible exact cell_alloc_swap (by with_reducible assumption) (by first | omega | (simp; done) | (simp; omega)) | with_reducible refine cell_alloc_far ?_ | with_reducible refine cell_drew ?_))); (case cc91 => (repeat (first | with_reducible assumption | with_reducible refine cell_below hb (by first | omega | (simp; done) | (simp; omega)) ?_ | with_reducible refine cell_set_far (by first | omega | (simp; done) | (simp; omega)) ?_ | with_reducible exact cell_alloc_swap (by with_reducible assumption) (by first | omega | (simp; done) | (simp; omega)) | with_reducible refine cell_alloc_far ?_ | with_reducible refine cell_drew ?_))); (case cc92 => (repeat (first | with_reducible assumption | with_reducible refine cell_below hb (by first | omega | (simp; done) | (simp; omega)) ?_ | with_reducible refine cell_set_far (by first | omega | (simp; done) | (simp; omega)) ?_ | with_reducible exact cell_alloc_swap (by with_reducible assumption) (by first | omega | (simp; done) | (simp; omega)) | with_reducible refine cell_alloc_far ?_ | with_reducible refine cell_drew ?_))); (case cc93 => (repeat (first | with_reducible assumption | with_reducible refine cell_below hb (by first | omega | (simp; done) | (simp; omega)) ?_ | with_reducible refine cell_set_far (by first | omega | (simp; done) | (simp; omega)) ?_ | with_reducible exact cell_alloc_swap (by with_reducible assumption) (by first | omega | (simp; done) | (simp; omega)) | with_reducible refine cell_alloc_far ?_ | with_reducible refine cell_drew ?_))); (case sz9 => (first | with_reducible assumption | (have := hb.size; omega) | omega | (simp; done) | (simp; omega) | (have := hb.size; simp at this ⊢; omega))); (case bl9 => (repeat (first | with_reducible assumption | with_reducible exact hq0 | with_reducible refine Below.drew ?_ | with_reducible refine Below.trans ?_ (hb.mono (by first | omega | (simp; done) | (simp; omega))) | with_reducible refine Below.setCell ?_ (by first | omega | (simp; done) | (simp; omega)) _ | with_reducible exact below_alloc_swap (by with_reducible assumption) (by first | omega | (simp; done) | (simp; omega)) | with_reducible refine Below.alloc ?_ (by first | omega | (simp; done) | (simp; omega)) _)))))
              ((go_at_call 53; refine (SpanMeet_any _ _ _ _ _).mono ?_; rintro e w1 ⟨rfl, hb⟩; have hsz : wr.heap.size ≤ w1.heap.size := (by have := hb.size; first | omega | (simp at this; omega)); obtain ⟨hc, hf, hl⟩ := bcell3 hb; (try (have hz2 : wr.heap.size < w1.heap.size := (by have := hb.size; first | omega | (simp at this; omega))))))
            all_goals (go_wp2_with fail; go_meet; unfold AtSM; rename_i hH; obtain ⟨z0, z1, z2, z3, z4, z5⟩ := hH; exact ⟨rfl, z5⟩)
          case rest =>
            obtain ⟨rfl, hbX⟩ := hcut
            have BX := Lib.hid (BR.out.trans (hbX.mono BR.out.size))
            clear hbX BR hq0 t0 t1 p2 p3
            rw [HG.out]
            obtain ⟨v, hv⟩ : ∃ v, meetsB a b y.r = v := ⟨_, rfl⟩
            rw [hv] at HT ⊢
            clear hv HG
            cases v
            · rw [if_neg (by simp)] at HT
              go_wp2
              go_roundw
              case rel => exact ⟨k + 1, by omega, by go_num, by rw [HT.out], BX.out⟩
              case measure => simp [intOf]; omega
            · rw [if_pos rfl] at HT
              go_wp2
              go_roundw
              case rel => exact ⟨k + 1, by omega, by go_num, by rw [HT.out]; simp, BX.out⟩
              case measure => simp [intOf]; omega
        · obtain rfl : k = xs.length := by omega
          rw [List.take_length, ← HF1.out]
          have L7 := Lib.hid (L6.out.below hbr)
          have B7 := Lib.hid (B6.out.trans (hbr.mono B6.out.size))
          obtain ⟨wC, rfl⟩ : ∃ W, W = wr := ⟨_, rfl⟩
          clear hbr X6 L6 B6 s0 s1 ls HF1 HF4
          go_wp2
          go_loopw [13] (fun i wr => ∃ k : Nat, k ≤ ms.length ∧ i = .int .i64 k ∧ Below wC.heap.size wC wr) (fun i _ => ms.length - (intOf i).toNat)
          case atStart => exact ⟨0, Nat.zero_le _, rfl, Below.refl _ _⟩
          case round =>
            obtain ⟨k, hk, rfl, hbr⟩ := hrel
            by_cases hlt : k < ms.length
            · obtain ⟨bk, off, y, rfl, hbk, hxk, p0, p1, p2, p3⟩ := (L7.out.below hbr).at_ hlt
              have HG := Lib.hid (HF5.out y (List.mem_of_getElem? hxk))
              have HY := Lib.hid hxk
              have u0 := cellBelow hbr lt9 t0
              have u1 := cellBelow hbr lt9 t1
              have lt8 : SB < wr.heap.size := Nat.lt_of_lt_of_le lt9 hbr.size
              have hkz : (k : Int) < (ms.length : Int) := by omega
              have hkz0 : (0 : Int) ≤ (k : Int) := by omega
              have hq0 : Below wr.heap.size wr wr := Below.refl _ _
              have BR := Lib.hid hbr
              clear hxk hbr
              go_upto_region 18 with fail
              go_cut [15] (fun s15 wx => AtSM wr (gB y.f y.e a b) s15 wx)
              case first =>
                go_region_held3 (fun w' => w'.cell? ⟨bk, off + k * 4 + 2, none⟩ = some (.int .i64 y.f) ∧ w'.cell? ⟨bk, off + k * 4 + 3, none⟩ = some (.int .i64 y.e) ∧ w'.cell? ⟨SB, 0, none⟩ = some (.int .i64 a) ∧ w'.cell? ⟨SB, 1, none⟩ = some (.int .i64 b) ∧ wr.heap.size ≤ w'.heap.size ∧ Below wr.heap.size wr w')
                  (((try go_split_ands); refine ⟨?cc90, ?cc91, ?cc92, ?cc93, ?sz9, ?bl9⟩; (case cc90 => (repeat (first | with_reducible assumption | with_reducible refine cell_below hb (by first | omega | (simp; done) | (simp; omega)) ?_ | with_reducible refine cell_set_far (by first | omega | (simp; done) | (simp; omega)) ?_ | with_reducible exact cell_alloc_swap (by with_reducible assumption) (by first | omega | (simp; done) | (simp; omega)) | with_reducible refine cell_alloc_far ?_ | with_reducible refine cell_drew ?_))); (case cc91 => (repeat (first | with_reducible assumption | with_reducible refine cell_below hb (by first | omega | (simp; done) | (simp; omega)) ?_ | with_reducible refine cell_set_far (by first | omega | (simp; done) | (simp; omega)) ?_ | with_reducible exact cell_alloc_swap (by with_reducible assumption) (by first | omega | (simp; done) | (simp; omega)) | with_reducible refine cell_alloc_far ?_ | with_reducible refine cell_drew ?_))); (case cc92 => (repeat (first | with_reducible assumption | with_reducible refine cell_below hb (by first | omega | (simp; done) | (simp; omega)) ?_ | with_reducible refine cell_set_far (by first | omega | (simp; done) | (simp; omega)) ?_ | with_reducible exact cell_alloc_swap (by with_reducible assumption) (by first | omega | (simp; done) | (simp; omega)) | with_reducible refine cell_alloc_far ?_ | with_reducible refine cell_drew ?_))); (case cc93 => (repeat (first | with_reducible assumption | with_reducible refine cell_below hb (by first | omega | (simp; done) | (simp; omega)) ?_ | with_reducible refine cell_set_far (by first | omega | (simp; done) | (simp; omega)) ?_ | with_reducible exact cell_alloc_swap (by with_reducible assumption) (by first | omega | (simp; done) | (simp; omega)) | with_reducible refine cell_alloc_far ?_ | with_reducible refine cell_drew ?_))); (case sz9 => (first | with_reducible assumption | (have := hb.size; omega) | omega | (simp; done) | (simp; omega) | (have := hb.size; simp at this ⊢; omega))); (case bl9 => (repeat (first | with_reducible assumption | with_reducible exact hq0 | with_reducible refine Below.drew ?_ | with_reducible refine Below.trans ?_ (hb.mono (by first | omega | (simp; done) | (simp; omega))) | with_reducible refine Below.setCell ?_ (by first | omega | (simp; done) | (simp; omega)) _ | with_reducible exact below_alloc_swap (by with_reducible assumption) (by first | omega | (simp; done) | (simp; omega)) | with_reducible refine Below.alloc ?_ (by first | omega | (simp; done) | (simp; omega)) _)))))
                  ((go_at_call 53; refine (SpanMeet_any _ _ _ _ _).mono ?_; rintro e w1 ⟨rfl, hb⟩; have hsz : wr.heap.size ≤ w1.heap.size := (by have := hb.size; first | omega | (simp at this; omega)); obtain ⟨hc, hf, hl⟩ := bcell3 hb; (try (have hz2 : wr.heap.size < w1.heap.size := (by have := hb.size; first | omega | (simp at this; omega))))))
                all_goals (go_wp2_with fail; go_meet; unfold AtSM; rename_i hH; obtain ⟨z0, z1, z2, z3, z4, z5⟩ := hH; exact ⟨rfl, z5⟩)
              case rest =>
                obtain ⟨rfl, hbX⟩ := hcut
                have BX := Lib.hid (BR.out.trans (hbX.mono BR.out.size))
                replace p0 := cellBelow hbX hbk p0
                replace p2 := cellBelow hbX hbk p2
                rw [HG.out]
                clear u0 u1 p1 p3 hq0 HG
                by_cases h0 : k = 0
                · have hk2 : decide (0 < k) = false := decide_eq_false (by omega)
                  have hk3 : decide ((0 : Int) < (k : Int)) = false := decide_eq_false (by omega)
                  have hk4 : ¬ (0 : Int) < (k : Int) := by omega
                  clear h0 hbX
                  go_wp2_with fail
                  go_quiet (fail)
                  have BN := Lib.hid (show Below wC.heap.size wC (wc.drewN nq) from below_drewN BX.out _)
                  go_wp2
                  go_roundw
                  case rel => exact ⟨k + 1, by omega, by go_num, BN.out⟩
                  case measure => simp [intOf]; omega
                · have hk1 : (0 : Int) < (k : Int) := by omega
                  have hkn : 0 < k := by omega
                  have hk2 : decide (0 < k) = true := decide_eq_true hkn
                  have hk3 : decide ((0 : Int) < (k : Int)) = true := decide_eq_true hk1
                  obtain ⟨b2, off2, z, hA, -, hz, r0, r1, r2, r3⟩ := (L7.out.below BX.out).at_ (show k - 1 < ms.length by omega)
                  injection hA with hA
                  injection hA with e1 e2 e3
                  subst e1 e2
                  clear e3 r1 r3
                  have hlk : lessFK z y = true := by
                    obtain ⟨q1, w1⟩ := List.getElem?_eq_some_iff.1 hz
                    obtain ⟨q2, w2⟩ := List.getElem?_eq_some_iff.1 HY.out
                    have := List.pairwise_iff_getElem.1 HF6.out (k - 1) k q1 q2 (by omega)
                    rwa [w1, w2] at this
                  obtain ⟨i1, hi1⟩ : ∃ i1 : Int, (k : Int) - 1 = i1 := ⟨_, rfl⟩
                  have k2 : (0 : Int) ≤ i1 := by omega
                  have k3 : i1 < (ms.length : Int) := by omega
                  have k4 : i1.toNat = k - 1 := by omega
                  have k5 : IntKind.i64.wrap ((k : Int) - 1) = i1 := (IntWalk.i64_in _ (by omega)).trans hi1
                  have hlt2 : ¬ y.f < z.f := by
                    rcases lessFK_iff.1 hlk with q | ⟨q, _⟩ <;> omega
                  have n1 : decide (y.f < z.f) = false := decide_eq_false hlt2
                  clear hi1 hz h0 hbX
                  by_cases h2 : y.f = z.f
                  · have n2 : (y.f == z.f) = true := by simpa using h2
                    have n3 : Op.bytesLess z.k.toList y.k.toList = true := by
                      rcases lessFK_iff.1 hlk with q | ⟨_, q⟩
                      · omega
                      · exact q
                    have n4 : Op.bytesLess y.k.toList z.k.toList = false := kl_asymm n3
                    have n5 : (y.k.toList == z.k.toList) = false := by
                      rw [← Bool.not_eq_true]
                      intro hh
                      have := same_key.1 hh
                      have n3' : kl z.k y.k = true := n3
                      rw [this, kl_irrefl] at n3'
                      cases n3'
                    clear hlk hlt2 n3
                    go_wp2_with fail
                    go_quiet (fail)
                    have BN := Lib.hid (show Below wC.heap.size wC (wc.drewN nq) from below_drewN BX.out _)
                    go_wp2
                    go_roundw
                    case rel => exact ⟨k + 1, by omega, by go_num, BN.out⟩
                    case measure => simp [intOf]; omega
                  · have n2 : (y.f == z.f) = false := by simpa using h2
                    clear hlk
                    go_wp2_with fail
                    go_quiet (fail)
                    have BN := Lib.hid (show Below wC.heap.size wC (wc.drewN nq) from below_drewN BX.out _)
                    go_wp2
                    go_roundw
                    case rel => exact ⟨k + 1, by omega, by go_num, BN.out⟩
                    case measure => simp [intOf]; omega
            · obtain rfl : k = ms.length := by omega
              have BZ := Lib.hid (B7.out.trans (hbr.mono B7.out.size))
              have g1 := HF2.out
              have g2 := HF3.out
              have g3 : decide ((ms.length : Int) ≤ mn) = true := decide_eq_true g1
              have g4 : decide (mn ≤ (xs.length : Int)) = true := decide_eq_true g2
              clear hbr
              go_wp2
              go_ret
              exact ⟨rfl, BZ.out⟩
end Go.Proofs.Ytphinkcfmdnpfaa
