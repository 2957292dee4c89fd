/-
  Walks: the model's l1SetMeet and SetMeet.
-/
import Derived.Test.YtlbehkdhngeipaaMeets
namespace Go.Proofs.Ytlbehkdhngeipaa
open Go.RowKit

theorem meetL_take {xs ys : List (Int × Int)} {k : Nat} (hk : k < xs.length) : meetL (xs.take (k + 1)) ys = meetL (xs.take k) ys ++ meetOne (xs.getD k (0, 0)) ys := by
  rw [List.take_succ_eq_append_getElem hk, meetL_snoc, show xs.getD k (0, 0) = xs[k] from by simp [hk]]
theorem meetOne_take {x : Int × Int} {ys : List (Int × Int)} {k : Nat} (hk : k < ys.length) : meetOne x (ys.take (k + 1)) = meetOne x (ys.take k) ++ (if mB x.1 x.2 (ys.getD k (0, 0)).1 (ys.getD k (0, 0)).2 then [(mF x.1 x.2 (ys.getD k (0, 0)).1 (ys.getD k (0, 0)).2, mT x.1 x.2 (ys.getD k (0, 0)).1 (ys.getD k (0, 0)).2)] else []) := by
  rw [List.take_succ_eq_append_getElem hk, meetOne_snoc, show ys.getD k (0, 0) = ys[k] from by simp [hk]]

def AtOne (wr : World) (x1 x2 y1 y2 : Int) (s8 s9 : Value) (wx : World) : Prop :=
  ∃ g' : Nat, s8 = .pointer (some ⟨g', 0, none⟩) ∧ s9 = .bool (mB x1 x2 y1 y2) ∧ wx.cell? ⟨g', 0, none⟩ = some (.int .i64 (max x1 y1)) ∧ wx.cell? ⟨g', 1, none⟩ = some (.int .i64 (min x2 y2)) ∧ Below wr.heap.size wr wx

set_option maxRecDepth 100000 in
set_option maxHeartbeats 4000000 in
theorem l1SetMeet_any (A B : Option Addr) (ca cb : Nat) (xs ys : List (Int × Int)) (w : World) (hx : Spans w A xs) (hy : Spans w B ys) (hlx : xs.length ≤ 100) (hly : ys.length ≤ 100) :
    Calls Try.prog 80 #[.slice A xs.length ca, .slice B ys.length cb] w (Made w (meetL xs ys)) := by
  obtain ⟨i0, hi, hz0, hz1, hz2⟩ := info_parts Try.info24
  have Hi := Lib.hid hi
  have Hz0 := Lib.hid hz0
  have Hz1 := Lib.hid hz1
  have Hz2 := Lib.hid hz2
  have HX := Lib.hid hx
  have HY := Lib.hid hy
  clear hi hz0 hz1 hz2 hx hy
  go_enter Try.func80, Try.ntmps80
  go_wp2
  go_loopw [5, 6] (fun v i wr => ∃ k : Nat, k ≤ xs.length ∧ i = .int .i64 k ∧ wr.ownsRow w.heap.size 24 2 v (meetL (xs.take k) ys).length (flat (meetL (xs.take k) ys)) ∧ v ≠ .slice none 0 0 ∧ Below w.heap.size w wr) (fun _ i _ => xs.length - (intOf i).toNat)
  case atStart =>
    refine ⟨0, Nat.zero_le _, rfl, ?_, by simp, (Below.refl _ _).alloc (Nat.le_refl _) _⟩
    have := World.ownsRow_lit (base := w.heap.size) (e := 24) (size := 2) w #[] 0 (by simp) (by simp [maxLen]) (by simp)
    simpa [flat, meetL] using this
  case round =>
    obtain ⟨k, hk, rfl, hown, hnn, hbr⟩ := hrel
    have Hown := Lib.hid hown
    have Hnn := Lib.hid hnn
    clear hown hnn
    by_cases hlt : k < xs.length
    · go_wp2
      go_loopw [5, 7] (fun v i wr => ∃ j : Nat, j ≤ ys.length ∧ i = .int .i64 j ∧ wr.ownsRow w.heap.size 24 2 v (meetL (xs.take k) ys ++ meetOne (xs.getD k (0, 0)) (ys.take j)).length (flat (meetL (xs.take k) ys ++ meetOne (xs.getD k (0, 0)) (ys.take j))) ∧ v ≠ .slice none 0 0 ∧ Below w.heap.size w wr) (fun _ i _ => ys.length - (intOf i).toNat)
      case atStart =>
        exact ⟨0, Nat.zero_le _, rfl, by simpa [meetOne] using Hown.out, Hnn.out, hbr⟩
      case round =>
        obtain ⟨j, hj, rfl, hown2, hnn2, hbr2⟩ := hrel
        have hlen : (meetL (xs.take k) ys ++ meetOne (xs.getD k (0, 0)) (ys.take j)).length ≤ 20000 := by
          have h1 := meetL_len ys (xs.take k)
          have h2 := meetOne_len (xs.getD k (0, 0)) (ys.take j)
          have h3 : (xs.take k).length * ys.length ≤ 100 * 100 := Nat.mul_le_mul (by rw [List.length_take]; omega) hly
          rw [List.length_append]
          rw [List.length_take] at h2
          omega
        obtain ⟨o, ho⟩ : ∃ o, meetL (xs.take k) ys ++ meetOne (xs.getD k (0, 0)) (ys.take j) = o := ⟨_, rfl⟩
        rw [ho] at hown2 hlen
        have Ho := Lib.hid ho
        obtain ⟨g, c, rfl, hg1, hg2⟩ := owns_form hown2 hnn2
        have Hown2 := Lib.hid hown2
        clear ho
        have hbr' := hbr
        clear hown2 hnn2 Hown Hnn hbr
        by_cases hlt2 : j < ys.length
        · obtain ⟨b0, off, rfl, hcells⟩ := HX.out (by omega)
          obtain ⟨b1, off1, rfl, hcells1⟩ := HY.out (by omega)
          obtain ⟨c0, c1⟩ := hcells k hlt
          obtain ⟨d0, d1⟩ := hcells1 j hlt2
          have ht := Lib.hid (meetOne_take (x := xs.getD k (0, 0)) hlt2)
          obtain ⟨x, ex⟩ : ∃ x, xs.getD k (0, 0) = x := ⟨_, rfl⟩
          obtain ⟨y, ey⟩ : ∃ x, ys.getD j (0, 0) = x := ⟨_, rfl⟩
          rw [ex] at c0 c1 ht Ho
          rw [ey] at d0 d1 ht
          have Ex := Lib.hid ex
          obtain ⟨x1, x2⟩ := x
          obtain ⟨y1, y2⟩ := y
          have c0r : wr.cell? ⟨b0, off + k * 2, none⟩ = some (.int .i64 x1) := cell_below hbr2 (World.block_lt_of_cell? _ _ c0) c0
          have c1r : wr.cell? ⟨b0, off + k * 2 + 1, none⟩ = some (.int .i64 x2) := cell_below hbr2 (World.block_lt_of_cell? _ _ c1) c1
          have d0r : wr.cell? ⟨b1, off1 + j * 2, none⟩ = some (.int .i64 y1) := cell_below hbr2 (World.block_lt_of_cell? _ _ d0) d0
          have d1r : wr.cell? ⟨b1, off1 + j * 2 + 1, none⟩ = some (.int .i64 y2) := cell_below hbr2 (World.block_lt_of_cell? _ _ d1) d1
          clear hcells hcells1 c0 c1 d0 d1 ex ey
          have hb0 : b0 < wr.heap.size := World.block_lt_of_cell? _ _ c0r
          have hb1 : b1 < wr.heap.size := World.block_lt_of_cell? _ _ d0r
          have hq0 : Below wr.heap.size wr wr := Below.refl _ _
          go_upto_region 8 with fail
          go_cut [8, 9] (fun s8 s9 wx => AtOne wr x1 x2 y1 y2 s8 s9 wx)
          case first =>
            go_region_held3 (fun w' => w'.cell? ⟨b0, off + k * 2, none⟩ = some (.int .i64 x1) ∧ w'.cell? ⟨b0, off + k * 2 + 1, none⟩ = some (.int .i64 x2) ∧ w'.cell? ⟨b1, off1 + j * 2, none⟩ = some (.int .i64 y1) ∧ w'.cell? ⟨b1, off1 + j * 2 + 1, none⟩ = some (.int .i64 y2) ∧ wr.heap.size ≤ w'.heap.size ∧ Below wr.heap.size wr w')
              (((try go_split_ands); refine ⟨?c0, ?c1, ?c2, ?c3, ?s, ?b⟩; (case c0 => (repeat (first | with_reducible assumption | with_reducible refine cell_below hb (by first | omega | (simp; done) | (simp; omega)) ?_ | with_reducible refine cell_set_far (by first | omega | (simp; done) | (simp; omega)) ?_ | with_reducible exact cell_alloc_swap (by with_reducible assumption) (by first | omega | (simp; done) | (simp; omega)) | with_reducible refine cell_alloc_far ?_ | with_reducible refine cell_drew ?_))); (case c1 => (repeat (first | with_reducible assumption | with_reducible refine cell_below hb (by first | omega | (simp; done) | (simp; omega)) ?_ | with_reducible refine cell_set_far (by first | omega | (simp; done) | (simp; omega)) ?_ | with_reducible exact cell_alloc_swap (by with_reducible assumption) (by first | omega | (simp; done) | (simp; omega)) | with_reducible refine cell_alloc_far ?_ | with_reducible refine cell_drew ?_))); (case c2 => (repeat (first | with_reducible assumption | with_reducible refine cell_below hb (by first | omega | (simp; done) | (simp; omega)) ?_ | with_reducible refine cell_set_far (by first | omega | (simp; done) | (simp; omega)) ?_ | with_reducible exact cell_alloc_swap (by with_reducible assumption) (by first | omega | (simp; done) | (simp; omega)) | with_reducible refine cell_alloc_far ?_ | with_reducible refine cell_drew ?_))); (case c3 => (repeat (first | with_reducible assumption | with_reducible refine cell_below hb (by first | omega | (simp; done) | (simp; omega)) ?_ | with_reducible refine cell_set_far (by first | omega | (simp; done) | (simp; omega)) ?_ | with_reducible exact cell_alloc_swap (by with_reducible assumption) (by first | omega | (simp; done) | (simp; omega)) | with_reducible refine cell_alloc_far ?_ | with_reducible refine cell_drew ?_))); (case s => (first | with_reducible assumption | (have := hb.size; omega) | omega | (simp; done) | (simp; omega) | (have := hb.size; simp at this ⊢; omega))); (case b => (repeat (first | with_reducible assumption | with_reducible exact hq0 | with_reducible refine Below.drew ?_ | with_reducible refine Below.trans ?_ (hb.mono (by first | omega | (simp; done) | (simp; omega))) | with_reducible refine Below.setCell ?_ (by first | omega | (simp; done) | (simp; omega)) _ | with_reducible exact below_alloc_swap (by with_reducible assumption) (by first | omega | (simp; done) | (simp; omega)) | with_reducible refine Below.alloc ?_ (by first | omega | (simp; done) | (simp; omega)) _)))))
              ((go_at_call 63; refine (l1Meet_any _ _ _ _ _).mono ?_; rintro e w1 ⟨rfl, hb⟩; have hsz : wr.heap.size ≤ w1.heap.size := (by have := hb.size; first | omega | (simp at this; omega)); obtain ⟨hc, hf, hl⟩ := bcell3 hb; (try (have hz2 : wr.heap.size < w1.heap.size := (by have := hb.size; first | omega | (simp at this; omega))))))
            all_goals (go_wp2_with fail; go_meet; unfold AtOne; rename_i hH; obtain ⟨q0, q1, q2, q3, q4, q5⟩ := hH; refine ⟨_, rfl, rfl, ?_, ?_, q5⟩)
            any_goals (first | omega | (simp; omega) | (go_simp; done) | (simp (maxDischargeDepth := 6) [*, go_sem]; done))
            all_goals go_show
          case rest =>
            obtain ⟨g', rfl, rfl, k0, k1, hb3⟩ := hcut
            have hbw : Below w.heap.size w wc := hbr2.trans (hb3.mono hbr2.size)
            have Hown3 := Lib.hid (owns_below Hown2.out hb3 hg2)
            have hg3 : g < wc.heap.size := Nat.lt_of_lt_of_le hg2 hb3.size
            clear Hown2 hb3 c0r c1r d0r d1r hq0 hb0 hb1 hbr2 hg2
            cases hm : mB x1 x2 y1 y2
            · rw [hm] at ht
              go_wp2
              go_roundw
              case rel =>
                refine ⟨j + 1, by omega, by go_num, ?_, by simp, hbw⟩
                rw [Ex.out, ht.out, if_neg (by simp), List.append_nil, Ho.out]
                exact Hown3.out
              case measure => simp [intOf]; omega
            · have hmm : max x1 y1 = mF x1 x2 y1 y2 ∧ min x2 y2 = mT x1 x2 y1 y2 := by
                simp only [mB, decide_eq_true_eq] at hm
                simp [mF, mT, hm]
              rw [hm] at ht
              obtain ⟨f, ef⟩ : ∃ f, mF x1 x2 y1 y2 = f := ⟨_, rfl⟩
              obtain ⟨t, et⟩ : ∃ t, mT x1 x2 y1 y2 = t := ⟨_, rfl⟩
              rw [hmm.1, ef] at k0
              rw [hmm.2, et] at k1
              rw [show mF (x1, x2).1 (x1, x2).2 (y1, y2).1 (y1, y2).2 = f from ef, show mT (x1, x2).1 (x1, x2).2 (y1, y2).1 (y1, y2).2 = t from et] at ht
              clear hmm ef et hm
              have hs3 := hbw.size
              go_wp2_with (at_builtin; refine wpList_append_own _ rfl _ _ 31 rfl w.heap.size 24 i0 _ 2 16 Try.underlying31 Hi.out Hz0.out Hz1.out Hz2.out rfl (by decide) _ o.length (flat o) rfl (Hown3.out.alloc _) ⟨wc.heap.size, 0, none⟩ 1 1 [.int .i64 f, .int .i64 t] rfl rfl (news_two (by simp) (by simp)) (by simp [Value.oneCell']) (by unfold maxLen; omega) (by omega) (by simp; omega) ?_; intro v' w1 hown' hgrow hnil)
              refine ⟨⟨j + 1, by omega, by simp, ?_, fun h => by have := (hnil.1 h).2; omega, ?_⟩, ?_⟩
              · rw [Ex.out, ht.out, if_pos rfl, ← List.append_assoc, Ho.out]
                exact owns_snoc hown' rfl
              · exact (hbw.alloc hs3 _).grown hgrow (by simp; omega) (fun i e => by
                  have e' : g = i := by simpa [Value.ownBlock, go_sem] using e
                  omega)
              · simp [intOf]; omega
        · obtain rfl : j = ys.length := by omega
          rw [List.take_length] at Ho
          have ht := Lib.hid (meetL_take (ys := ys) hlt)
          go_wp2
          go_roundw
          case rel =>
            refine ⟨k + 1, by omega, by go_num, ?_, by simp, hbr2⟩
            rw [ht.out, Ho.out]
            exact Hown2.out
          case measure => simp [intOf]; omega
    · obtain rfl : k = xs.length := by omega
      obtain ⟨o, ho⟩ : ∃ o, meetL xs ys = o := ⟨_, rfl⟩
      rw [List.take_length] at Hown
      rw [ho] at Hown
      have HO := Lib.hid ho
      obtain ⟨g, c, rfl, hg1, hg2⟩ := owns_form Hown.out Hnn.out
      clear ho Hnn
      go_wp2
      go_ret
      rw [HO.out]
      exact ⟨g, c, rfl, Hown.out, hbr⟩
end Go.Proofs.Ytlbehkdhngeipaa
