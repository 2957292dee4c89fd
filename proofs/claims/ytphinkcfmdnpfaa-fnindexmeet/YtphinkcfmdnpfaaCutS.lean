/-
  Walks: the model's l3Cut: a table without what a key has within a span.
-/
import Derived.Test.YtphinkcfmdnpfaaRelOfS
import Derived.Test.YtphinkcfmdnpfaaSpanK
import Derived.Deep.AppendLies
namespace Go.Proofs.Ytphinkcfmdnpfaa
open Go.Shelf Go.RowKit Go.Lib Go.Sort

theorem less_left (f e a b : Int) : lessOne (f, e) (a, b) = leftS f e a b := by
  unfold lessOne leftS mB
  by_cases h : max f a < min e b <;> simp [h]
def AtLeft (wr : World) (f e a b : Int) (s : Value) (wx : World) : Prop :=
  ∃ g cap, s = .slice (some ⟨g, 0, none⟩) (lessOne (f, e) (a, b)).length cap ∧ wx.ownsRow wr.heap.size 29 2 (.slice (some ⟨g, 0, none⟩) (lessOne (f, e) (a, b)).length cap) (lessOne (f, e) (a, b)).length (flat (lessOne (f, e) (a, b))) ∧ Below wr.heap.size wr wx
theorem cut_take {zs : List RowV} {k : Nat} {x : RowV} {key : ByteArray} {a b : Int} (hx : zs[k]? = some x) : cutL (zs.take (k + 1)) key a b = cutL (zs.take k) key a b ++ cutRow key a b x := by
  obtain ⟨hk, hx⟩ := List.getElem?_eq_some_iff.1 hx
  subst hx
  unfold cutL
  rw [List.take_succ_eq_append_getElem hk, List.flatMap_append]
  simp
def leftRow (key t : ByteArray) (p : Int × Int) : RowV := ⟨key, t, p.1, p.2⟩
theorem cut_yes {key : ByteArray} {a b : Int} {x : RowV} (h : (x.k.toList == key.toList) = true) : cutRow key a b x = (leftS x.f x.e a b).map (leftRow key x.t) := by
  unfold cutRow
  rw [if_pos h, same_key.1 h]
  rfl
theorem cut_no {key : ByteArray} {a b : Int} {x : RowV} (h : (x.k.toList == key.toList) = false) : cutRow key a b x = [x] := by
  unfold cutRow
  rw [if_neg (by rw [h]; simp)]
theorem left_take {ls : List (Int × Int)} {j : Nat} {key t : ByteArray} (h : j < ls.length) : (ls.take (j + 1)).map (leftRow key t) = (ls.take j).map (leftRow key t) ++ [leftRow key t (ls.getD j (0, 0))] := by
  rw [List.take_succ_eq_append_getElem h, List.map_append, show ls.getD j (0, 0) = ls[j] from by simp [h]]
  rfl
theorem cutTake_len (zs : List RowV) (key : ByteArray) (a b : Int) (k : Nat) (hk : k ≤ zs.length) : (cutL (zs.take k) key a b).length ≤ k * 2 := by
  have := cutL_len key a b (zs.take k)
  rwa [List.length_take, Nat.min_eq_left hk] at this

set_option maxRecDepth 100000 in
set_option maxHeartbeats 4000000 in
theorem l3Cut_any (A : Option Addr) (cap : Nat) (zs : List RowV) (key : ByteArray) (a b : Int) (w : World) (hz : RowsA w A zs) (hl : zs.length ≤ 1048577) :
    Calls Try.prog 126 #[.slice A zs.length cap, .string key, .agg #[.int .i64 a, .int .i64 b]] w (GetsE rowC 4 70 w (cutL zs key a b)) := by
  obtain ⟨i0, hi, hz0, hz1, hz2⟩ := info_parts Try.infoR70
  have Hi := Lib.hid hi
  have Hz0 := Lib.hid hz0
  have Hz1 := Lib.hid hz1
  have Hz2 := Lib.hid hz2
  clear hi hz0 hz1 hz2
  go_enter Try.func126, Try.ntmps126
  go_wp2
  generalize hW : w.alloc _ = W0
  obtain ⟨sb, hsb⟩ : ∃ sb, w.heap.size = sb := ⟨_, rfl⟩
  have s0 : W0.cell? ⟨sb, 0, none⟩ = some (.int .i64 a) := by rw [← hW, ← hsb]; simp [go_sem]
  have s1 : W0.cell? ⟨sb, 1, none⟩ = some (.int .i64 b) := by rw [← hW, ← hsb]; simp [go_sem]
  have lsb : sb < W0.heap.size := by rw [← hW, ← hsb]; simp
  have HWS := Lib.hid (show W0.heap.size = sb + 1 from by rw [← hW, ← hsb]; simp)
  have B0 := Lib.hid (show Below sb w W0 from by rw [← hW]; exact (Below.refl _ _).alloc (by omega) _)
  have HZ := Lib.hid (show RowsA W0 A zs from hz.below (by have := B0.out; rw [← hsb] at this; exact this))
  rw [hsb]
  have HSB := Lib.hid hsb
  clear hW hz hsb
  go_loopw [7, 8] (fun v i wr => ∃ k : Nat, k ≤ zs.length ∧ i = .int .i64 k ∧ wr.ownsRow W0.heap.size 70 4 v (cutL (zs.take k) key a b).length (flatOf rowC (cutL (zs.take k) key a b)) ∧ Below W0.heap.size W0 wr) (fun _ i _ => zs.length - (intOf i).toNat)
  case atStart =>
    refine ⟨0, Nat.zero_le _, rfl, ?_, (Below.refl _ _).alloc (Nat.le_refl _) _⟩
    have := World.ownsRow_lit (base := W0.heap.size) (e := 70) (size := 4) W0 #[] 0 (by simp) (by simp [maxLen]) (by simp)
    rw [← HWS.out]
    simpa [flatOf, cutL] using this
  case round =>
    obtain ⟨k, hk, rfl, hown, hbr⟩ := hrel
    have Hown := Lib.hid hown
    clear hown
    by_cases hlt : k < zs.length
    · obtain ⟨b0, off, x, rfl, hbW, hx, d0, d1, d2, d3⟩ := HZ.out.at_ hlt
      have HT := Lib.hid (cut_take (key := key) (a := a) (b := b) hx)
      have hlo := cutTake_len zs key a b k hk
      obtain ⟨oo, hoo⟩ : ∃ oo, cutL (zs.take k) key a b = oo := ⟨_, rfl⟩
      rw [hoo] at Hown HT hlo
      clear hx hoo
      have hs5 := hbr.size
      have c0 := cellBelow hbr hbW d0
      have c1 := cellBelow hbr hbW d1
      have c2 := cellBelow hbr hbW d2
      have c3 := cellBelow hbr hbW d3
      have q0 := cellBelow hbr lsb s0
      have q1 := cellBelow hbr lsb s1
      have hb0 : b0 < wr.heap.size := by omega
      have lsb2 : sb < wr.heap.size := by omega
      have hkz : (k : Int) < (zs.length : Int) := by omega
      have hkz0 : (0 : Int) ≤ (k : Int) := by omega
      have D1 := Lib.hid d1
      clear d0 d1 d2 d3
      cases hkk : (x.k.toList == key.toList)
      · rw [cut_no hkk] at HT
        clear q0 q1
        go_wp2_with (at_builtin; refine wpList_append_own _ rfl _ _ 23 rfl W0.heap.size 70 i0 _ 4 48 Try.underlying23 Hi.out Hz0.out Hz1.out Hz2.out rfl (by decide) _ oo.length (flatOf rowC oo) rfl (Hown.out.alloc _) ⟨wr.heap.size, 0, none⟩ 1 1 [.string x.k, .string x.t, .int .i64 x.f, .int .i64 x.e] rfl rfl (newsFour (by simp) (by simp) (by simp) (by simp)) (by simp [Value.oneCell']) (by unfold maxLen; omega) (by omega) (by simp; omega) ?_; intro v' w3 hown' hgrow hnil; have O3 := Lib.hid hown'; have B3 := Lib.hid ((hbr.alloc hs5 _).grown hgrow (by simp; omega) (fun i e => by have := (Hown.out.lt i e).1; omega)); clear hown' hgrow hnil)
        refine ⟨⟨k + 1, by omega, by simp, ?_, B3.out⟩, ?_⟩
        · rw [HT.out, flatOf_append, flatOf_one, show (oo ++ [x]).length = oo.length + 1 by simp]
          exact O3.out
        · simp [intOf]; omega
      · have HKK := Lib.hid hkk
        have hq0 : Below wr.heap.size wr wr := Below.refl _ _
        go_upto_region 7 with fail
        go_cut [9] (fun s9 wx => AtLeft wr x.f x.e a b s9 wx)
        case first =>
          go_region_held3 (fun w' => w'.cell? ⟨b0, off + k * 4 + 2, none⟩ = some (.int .i64 x.f) ∧ w'.cell? ⟨b0, off + k * 4 + 3, none⟩ = some (.int .i64 x.e) ∧ w'.cell? ⟨sb, 0, none⟩ = some (.int .i64 a) ∧ w'.cell? ⟨sb, 1, none⟩ = some (.int .i64 b) ∧ wr.heap.size ≤ w'.heap.size ∧ Below wr.heap.size wr w')
            (((try go_split_ands); refine ⟨?c0, ?c1, ?c2, ?c3, ?s, ?b⟩; (case c0 => (repeat (first | with_reducible assumption | with_reducible refine cell_below hb (by first | omega | (simp; done) | (simp; omega)) ?_ | with_reducible refine cell_set_far (by first | omega | (simp; done) | (simp; omega)) ?_ | with_reducible exact cell_alloc_swap (by with_reducible assumption) (by first | omega | (simp; done) | (simp; omega)) | with_reducible refine cell_alloc_far ?_ | with_reducible refine cell_drew ?_))); (case c1 => (repeat (first | with_reducible assumption | with_reducible refine cell_below hb (by first | omega | (simp; done) | (simp; omega)) ?_ | with_reducible refine cell_set_far (by first | omega | (simp; done) | (simp; omega)) ?_ | with_reducible exact cell_alloc_swap (by with_reducible assumption) (by first | omega | (simp; done) | (simp; omega)) | with_reducible refine cell_alloc_far ?_ | with_reducible refine cell_drew ?_))); (case c2 => (repeat (first | with_reducible assumption | with_reducible refine cell_below hb (by first | omega | (simp; done) | (simp; omega)) ?_ | with_reducible refine cell_set_far (by first | omega | (simp; done) | (simp; omega)) ?_ | with_reducible exact cell_alloc_swap (by with_reducible assumption) (by first | omega | (simp; done) | (simp; omega)) | with_reducible refine cell_alloc_far ?_ | with_reducible refine cell_drew ?_))); (case c3 => (repeat (first | with_reducible assumption | with_reducible refine cell_below hb (by first | omega | (simp; done) | (simp; omega)) ?_ | with_reducible refine cell_set_far (by first | omega | (simp; done) | (simp; omega)) ?_ | with_reducible exact cell_alloc_swap (by with_reducible assumption) (by first | omega | (simp; done) | (simp; omega)) | with_reducible refine cell_alloc_far ?_ | with_reducible refine cell_drew ?_))); (case s => (first | with_reducible assumption | (have := hb.size; omega) | omega | (simp; done) | (simp; omega) | (have := hb.size; simp at this ⊢; omega))); (case b => (repeat (first | with_reducible assumption | with_reducible exact hq0 | with_reducible refine Below.drew ?_ | with_reducible refine Below.trans ?_ (hb.mono (by first | omega | (simp; done) | (simp; omega))) | with_reducible refine Below.setCell ?_ (by first | omega | (simp; done) | (simp; omega)) _ | with_reducible exact below_alloc_swap (by with_reducible assumption) (by first | omega | (simp; done) | (simp; omega)) | with_reducible refine Below.alloc ?_ (by first | omega | (simp; done) | (simp; omega)) _)))))
            ((go_at_call 124; refine (l1Less_any _ _ _ _ _).mono ?_; rintro e w1 ⟨g3, c3, rfl, ho3, hb⟩; have O3 := Lib.hid (owns_baseK (base' := wr.heap.size) ho3 (by first | omega | (simp; omega))); clear ho3; have hsz : wr.heap.size ≤ w1.heap.size := (by have := hb.size; first | omega | (simp at this; omega)); obtain ⟨hc, hf, hl⟩ := bcell3 hb; (try (have hz2 : wr.heap.size < w1.heap.size := (by have := hb.size; first | omega | (simp at this; omega))))))
          all_goals (go_wp2_with fail; go_meet; unfold AtLeft; rename_i hH; obtain ⟨z0, z1, z2, z3, z4, z5⟩ := hH; exact ⟨g3, c3, rfl, O3.out, z5⟩)
        case rest =>
          obtain ⟨g, c, rfl, hol, hbl⟩ := hcut
          rw [less_left] at hol ⊢
          have hll := left_len x.f x.e a b
          obtain ⟨ls, hls⟩ : ∃ ls, leftS x.f x.e a b = ls := ⟨_, rfl⟩
          rw [hls] at hol hll ⊢
          rw [cut_yes HKK.out, hls] at HT
          have hgl := hol.lt g rfl
          have SL := Lib.hid (spans_of_owns hol rfl)
          have O4 := Lib.hid (ownsKeep Hown.out hbl)
          have B4 := Lib.hid (hbr.trans (hbl.mono hbr.size))
          have HNE := Lib.hid (show u7.ownBlock ≠ some g from fun e => by have := (Hown.out.lt g e).2; omega)
          clear hls hol hbl hbr Hown c0 c1 c2 c3 q0 q1 hq0 hkk
          go_wp2
          go_loopw [7, 10] (fun v i wi => ∃ j : Nat, j ≤ ls.length ∧ i = .int .i64 j ∧ wi.ownsRow W0.heap.size 70 4 v (oo ++ (ls.take j).map (leftRow key x.t)).length (flatOf rowC (oo ++ (ls.take j).map (leftRow key x.t))) ∧ v.ownBlock ≠ some g ∧ Spans wi (some ⟨g, 0, none⟩) ls ∧ g < wi.heap.size ∧ Below W0.heap.size W0 wi) (fun _ i _ => ls.length - (intOf i).toNat)
          case atStart => exact ⟨0, Nat.zero_le _, rfl, by simpa using O4.out, HNE.out, SL.out, hgl.2, B4.out⟩
          case round =>
            obtain ⟨j, hj, rfl, hown2, hne2, hsp, hg2, hbi⟩ := hrel
            have HSP := Lib.hid hsp
            clear hsp
            by_cases hlt2 : j < ls.length
            · obtain ⟨b', off', e', hcells⟩ := HSP.out (by omega)
              injection e' with e'
              injection e' with e1' e2' e3'
              subst e1' e2'
              obtain ⟨f0, f1⟩ := hcells j hlt2
              rw [Nat.zero_add] at f0 f1
              have HT2 := Lib.hid (left_take (key := key) (t := x.t) hlt2)
              obtain ⟨p, hp⟩ : ∃ p, ls.getD j (0, 0) = p := ⟨_, rfl⟩
              rw [hp] at f0 f1 HT2
              obtain ⟨p1, p2⟩ := p
              have d1 := cellBelow hbi hbW D1.out
              obtain ⟨o2, ho2⟩ : ∃ o2, oo ++ (ls.take j).map (leftRow key x.t) = o2 := ⟨_, rfl⟩
              have hl2 : o2.length ≤ 2097156 := by rw [← ho2, List.length_append, List.length_map, List.length_take]; omega
              rw [ho2] at hown2
              have HO2 := Lib.hid ho2
              have O5 := Lib.hid hown2
              have hsi := hbi.size
              have ab : u7.ownBlock ≠ some b0 := fun e => by have := (O5.out.lt b0 e).1; omega
              have hb2 : b0 < wr.heap.size := by omega
              have j0 : (0 : Int) ≤ (j : Int) := Int.natCast_nonneg _
              have j1 : (j : Int) < (ls.length : Int) := by omega
              have BI := Lib.hid hbi
              clear hcells hp ho2 hown2 hbi
              go_wp2_with fail
              go_region_held3 (fun w' => w'.cell? ⟨b0, off + k * 4 + 1, none⟩ = some (.string x.t) ∧ w'.cell? ⟨g, j * 2, none⟩ = some (.int .i64 p1) ∧ w'.cell? ⟨g, j * 2 + 1, none⟩ = some (.int .i64 p2))
                (first
                  | go_keep
                  | (go_split_ands
                     refine ⟨?_, ?_, ?_⟩
                     · (rw [hgrow.cell_far _ (by simp; omega) (Ne.symm ab)]; assumption)
                     · (rw [hgrow.cell_far _ (by simp; omega) (Ne.symm hne2)]; assumption)
                     · (rw [hgrow.cell_far _ (by simp; omega) (Ne.symm hne2)]; assumption)))
                ((refine step_append_lies _ (by rfl) _ _ _ (by rfl) W0.heap.size 70 i0 _ 4 48 Try.underlying23 Hi.out Hz0.out Hz1.out Hz2.out rfl (by omega) u7 o2.length (flatOf rowC o2) (by rfl) ((O5.out.alloc _).drew)
                    ⟨wr.heap.size, 0, none⟩ 1 1 [.string key, .string x.t, .int .i64 p1, .int .i64 p2] (by rfl) (by rfl) (World.news_of_block (cs := #[.string key, .string x.t, .int .i64 p1, .int .i64 p2]) (t := 70) (fr := (0, 0)) (heap_alloc_new wr _)) (by simp [Value.oneCell'])
                    (by omega) (by unfold maxLen; omega) (by omega) (by simp; omega) (wr.heap.size + 1) (by simp) ?_; intro gg cap1 w3 hown' hgrow hat hlt3))
              have O6 := Lib.hid (show w3.ownsRow W0.heap.size 70 4 (.slice (some ⟨gg, 0, none⟩) (o2.length + 1) cap1) (o2 ++ [leftRow key x.t (p1, p2)]).length (flatOf rowC (o2 ++ [leftRow key x.t (p1, p2)])) from by rw [flatOf_append, flatOf_one, List.length_append, List.length_singleton]; exact hown')
              have B6 := Lib.hid (((BI.out.alloc hsi _).drew).grown hgrow (by simp; omega) (fun i e => by have := (O5.out.lt i e).1; omega))
              have hgg : gg ≠ g := by
                rintro rfl
                rcases hat with h | h
                · exact hne2 h
                · omega
              have SP6 := Lib.hid (show Spans w3 (some ⟨g, 0, none⟩) ls from fun hn => by
                obtain ⟨b', off', e', hcells⟩ := HSP.out hn
                injection e' with e'
                injection e' with e1' e2' e3'
                subst e1' e2'
                refine ⟨g, 0, rfl, fun i hi => ?_⟩
                obtain ⟨h0, h1⟩ := hcells i hi
                have hsz : g < ((wr.alloc (.cells #[.string key, .string x.t, .int .i64 p1, .int .i64 p2] 70)).drew).heap.size := by simp; omega
                exact ⟨(hgrow.cell_far ⟨g, 0 + i * 2, none⟩ hsz (Ne.symm hne2)).trans ((World.cell?_alloc_lt _ _ _ hg2).trans h0), (hgrow.cell_far ⟨g, 0 + i * 2 + 1, none⟩ hsz (Ne.symm hne2)).trans ((World.cell?_alloc_lt _ _ _ hg2).trans h1)⟩)
              have hg6 : g < w3.heap.size := by have := hgrow.size; simp at this; omega
              clear hown' hgrow hat
              go_wp2
              go_roundw
              case rel => exact ⟨j + 1, by omega, by go_num, (by rw [HT2.out, ← List.append_assoc, HO2.out]; exact O6.out), by simpa [Value.ownBlock] using hgg, SP6.out, hg6, B6.out⟩
              case measure => simp [intOf]; omega
            · obtain rfl : j = ls.length := by omega
              rw [List.take_length, ← HT.out] at hown2
              have O5 := Lib.hid hown2
              clear hown2
              go_wp2
              go_roundw
              case rel => exact ⟨k + 1, by omega, by go_num, O5.out, hbi⟩
              case measure => simp [intOf]; omega
    · obtain rfl : k = zs.length := by omega
      rw [List.take_length] at Hown
      obtain ⟨A', c', hv⟩ := owns_sliceE Hown.out
      subst hv
      go_wp2
      go_ret
      exact ⟨A', c', rfl, owns_baseE Hown.out (by rw [HSB.out]; omega), by rw [HSB.out]; exact B0.out.trans (hbr.mono (by omega))⟩
end Go.Proofs.Ytphinkcfmdnpfaa
