/-
  Walks: numbers in order, each once; the periods in which no row begins or ends.
-/
import Derived.Test.YtphinkcfmdnpfaaCombJ
import Derived.Test.YtphinkcfmdnpfaaGets
import Derived.Test.YtphinkcfmdnpfaaRelAtS
import Derived.Test.YtphinkcfmdnpfaaShelfI
import Derived.Lib.OwnBridge
import Derived.Lib.SortBridge
import Derived.Lib.RowBridge
import Derived.Lib.AppendIntMem
import Derived.OwnWalk
import Derived.IntWalk
namespace Go.Proofs.Ytphinkcfmdnpfaa
open Go.Shelf Go.RowKit Go.Lib Go.Sort

theorem Try.infoN3 : (Try.prog.info? 3).map (fun i => (i.zero, i.size, i.bytes)) = some (some (.int .i64 0), 1, 8) := by kernel_rfl

theorem grow_below (w : World) (os : Array Obj) : Below w.heap.size w (grow w os) := ⟨rfl, rfl, rfl, by simp [grow], fun k hk => by simp [grow, Array.getElem?_append, hk]⟩
theorem sort_len (zs : List Int) : (zs.mergeSort fun x y => decide (x ≤ y)).length = zs.length := List.length_mergeSort zs

set_option maxHeartbeats 1000000 in
theorem sortI_any (base : Nat) (A : Option Addr) (cap : Nat) (zs : List Int) (w : World) (h : w.ownsRow base 3 1 (.slice A zs.length cap) zs.length (zs.map (Value.int .i64))) (hl : zs.length ≤ 4194304) (hb : base ≤ w.heap.size) :
    Calls Try.prog 146 #[.slice A zs.length cap] w fun e w' => e = .returned (.tuple #[]) ∧ w'.ownsRow base 3 1 (.slice A zs.length cap) zs.length ((zs.mergeSort fun x y => decide (x ≤ y)).map (Value.int .i64)) ∧ Below base w w' := by
  by_cases hv : Value.slice A zs.length cap = .slice none 0 0
  · injection hv with e1 e2 e3
    have hz : zs = [] := List.length_eq_zero_iff.1 e2
    subst hz e1
    refine (Any.slices_Sort_int_none Try.sortI none cap w).mono ?_
    rintro e w' ⟨rfl, rfl⟩
    exact ⟨rfl, by simpa using h, Below.refl _ _⟩
  · obtain ⟨g, c, e, hbg, hgl, hnc, hcm, hlen, hH⟩ := Lib.holds_of_ownsRow h hv
    injection e with e1 e2 e3
    subst e1 e3
    refine (Any.slices_Sort_int Try.sortI g 0 cap zs w hH hgl (by omega)).mono ?_
    rintro e w' ⟨rfl, n, os, rfl⟩
    have h1 := Lib.ownsRow_putRow (q := n) (ys := zs.mergeSort fun x y => decide (x ≤ y)) h (sort_len zs) (Nat.le_refl _)
    rw [List.take_of_length_le (by rw [sort_len]; exact Nat.le_refl _)] at h1
    have b1 := Lib.below_putRow (enc := Value.int .i64) (q := n) (d := (zs.mergeSort fun x y => decide (x ≤ y)).toArray) (Below.refl base w) hbg
    have g1 := grow_below (putRow (Value.int .i64) (Sort.ahead w n) g 0 (zs.mergeSort fun x y => decide (x ≤ y)).toArray) os
    exact ⟨rfl, ownsKeep h1 g1, b1.trans (g1.mono (Nat.le_trans hb b1.size))⟩

set_option maxHeartbeats 1000000 in
theorem compactI_any (base : Nat) (A : Option Addr) (cap : Nat) (zs : List Int) (w : World) (h : w.ownsRow base 3 1 (.slice A zs.length cap) zs.length (zs.map (Value.int .i64))) (hl : zs.length ≤ 4194304) :
    Calls Try.prog 147 #[.slice A zs.length cap] w fun e w' => e = .returned (.slice A (Lib.compact zs).length cap) ∧ w'.ownsRow base 3 1 (.slice A (Lib.compact zs).length cap) (Lib.compact zs).length ((Lib.compact zs).map (Value.int .i64)) ∧ Below base w w' := by
  by_cases hv : Value.slice A zs.length cap = .slice none 0 0
  · injection hv with e1 e2 e3
    have hz : zs = [] := List.length_eq_zero_iff.1 e2
    subst hz e1
    refine (Any.slices_Compact_int_empty Try.compactI none cap w).mono ?_
    rintro e w' ⟨rfl, rfl⟩
    have e0 : Lib.compact ([] : List Int) = [] := rfl
    rw [e0]
    exact ⟨rfl, by simpa using h, Below.refl _ _⟩
  · obtain ⟨g, c, e, hbg, hgl, hnc, hcm, hlen, hH⟩ := Lib.holds_of_ownsRow h hv
    injection e with e1 e2 e3
    subst e1 e3
    refine (Any.slices_Compact_int Try.compactI g 0 cap zs w hH (by omega) hnc).mono ?_
    rintro e w' ⟨rfl, q, rfl⟩
    have hle := Lib.compact_length_le zs
    have h1 := Lib.ownsRow_putRow (q := q) (k := (Lib.compact zs).length) (ys := Lib.compact zs ++ List.replicate (zs.length - (Lib.compact zs).length) 0) h (by simp; omega) hle
    rw [List.take_left] at h1
    exact ⟨rfl, h1, Lib.below_putRow (Below.refl base w) hbg⟩

theorem steps_take {es : List Int} {k : Nat} (hk : 1 ≤ k) (h : k < es.length) : (stepsGo es).take k = (stepsGo es).take (k - 1) ++ [(es.getD (k - 1) 0, es.getD k 0)] := by
  have h1 := steps_get es (k - 1) (by omega)
  obtain ⟨hl, e⟩ := List.getElem?_eq_some_iff.1 h1
  have h2 := List.take_succ_eq_append_getElem hl
  rw [show k - 1 + 1 = k by omega, e] at h2
  rw [h2]
  simp [List.getD, show k - 1 < es.length by omega, h, show k - 1 + 1 = k by omega]
theorem news_ints {w : World} {g : Nat} {a b : Int} (h0 : w.cell? ⟨g, 0, none⟩ = some (.int .i64 a)) (h1 : w.cell? ⟨g, 1, none⟩ = some (.int .i64 b)) : ∀ j u, [Value.int .i64 a, Value.int .i64 b][j]? = some u → w.cell? ((⟨g, 0, none⟩ : Addr).add j) = some u := by
  intro j u hu
  match j with
  | 0 => simp at hu; subst hu; simpa [Addr.add] using h0
  | 1 => simp at hu; subst hu; simpa [Addr.add] using h1
  | j + 2 => simp at hu

set_option maxRecDepth 100000 in
set_option maxHeartbeats 4000000 in
theorem steady_any (A : Option Addr) (cap : Nat) (zs : List RowV) (w : World) (hz : RowsA w A zs) (hl : zs.length ≤ 1048577) :
    Calls Try.prog 114 #[.slice A zs.length cap] w (Gets w (stepsOf zs)) := by
  obtain ⟨i0, hi, hz0, hz1, hz2⟩ := info_parts Try.infoN3
  have Hi := Lib.hid hi
  have Hz0 := Lib.hid hz0
  have Hz1 := Lib.hid hz1
  have Hz2 := Lib.hid hz2
  obtain ⟨j0, hi, hz0, hz1, hz2⟩ := info_parts Try.info29
  have Ji := Lib.hid hi
  have Jz0 := Lib.hid hz0
  have Jz1 := Lib.hid hz1
  have Jz2 := Lib.hid hz2
  have HZ := Lib.hid hz
  clear hi hz0 hz1 hz2 hz
  go_enter Try.func114, Try.ntmps114
  go_wp2
  go_loopw [3, 10] (fun v i wr => ∃ k : Nat, k ≤ zs.length ∧ i = .int .i64 k ∧ wr.ownsRow w.heap.size 3 1 v (boundsOf (zs.take k)).length ((boundsOf (zs.take k)).map (Value.int .i64)) ∧ Below w.heap.size w wr) (fun _ i _ => zs.length - (intOf i).toNat)
  case atStart => exact ⟨0, Nat.zero_le _, rfl, World.ownsRow_nil _ _ _ _, Below.refl _ _⟩
  case round =>
    obtain ⟨k, hk, rfl, hown, hbr⟩ := hrel
    have Hown := Lib.hid hown
    have hlo : (boundsOf (zs.take k)).length ≤ 2097154 := by rw [bounds_len, List.length_take]; omega
    clear hown
    by_cases hlt : k < zs.length
    · obtain ⟨b, off, x, rfl, hb, hx, c0, c1, c2, c3⟩ := (HZ.out.below hbr).at_ hlt
      have HT := Lib.hid (bounds_take hx)
      obtain ⟨oo, hoo⟩ : ∃ oo, boundsOf (zs.take k) = oo := ⟨_, rfl⟩
      rw [hoo] at Hown HT hlo
      have hs2 := hbr.size
      clear hx hoo
      go_wp2_with (at_builtin; refine wpList_append_own _ rfl _ _ 93 rfl w.heap.size 3 i0 _ 1 8 Try.underlying93 Hi.out Hz0.out Hz1.out Hz2.out rfl (by decide) _ oo.length (oo.map (Value.int .i64)) rfl ((Hown.out.alloc _).alloc _) ⟨wr.heap.size + 1, 0, none⟩ 2 2 [.int .i64 x.f, .int .i64 x.e] rfl rfl (news_ints (by simp) (by simp)) (by simp [Value.oneCell']) (by unfold maxLen; omega) (by omega) (by simp; omega) ?_; intro v' w3 hown' hgrow hnil; have O3 := Lib.hid hown'; have B3 := Lib.hid (((hbr.alloc hs2 _).alloc (by simp; omega) _).grown hgrow (by simp; omega) (fun i e => by have := (Hown.out.lt i e).1; omega)); clear hown' hgrow hnil)
      refine ⟨⟨k + 1, by omega, by simp, ?_, B3.out⟩, ?_⟩
      · rw [HT.out, List.length_append, List.map_append]; exact O3.out
      · simp [intOf]; omega
    · obtain rfl : k = zs.length := by omega
      rw [List.take_length] at Hown hlo
      obtain ⟨A1, c1, hv⟩ : ∃ A1 c1, u3 = .slice A1 (boundsOf zs).length c1 := by
        rcases Hown.out.2 with ⟨h0, h1⟩ | ⟨g, c, cur, e1, _⟩
        · exact ⟨none, 0, by rw [h0, h1]⟩
        · exact ⟨_, _, e1⟩
      subst hv
      have HE := Lib.hid (show edgesOf zs = Lib.compact ((boundsOf zs).mergeSort fun x y => decide (x ≤ y)) from rfl)
      have hel := edges_len zs
      have hsl := sort_len (boundsOf zs)
      obtain ⟨bs, hbs⟩ : ∃ bs, boundsOf zs = bs := ⟨_, rfl⟩
      rw [hbs] at Hown HE hsl hlo
      rw [hbs]
      obtain ⟨ss, hss⟩ : ∃ ss, (bs.mergeSort fun x y => decide (x ≤ y)) = ss := ⟨_, rfl⟩
      have HSS := Lib.hid hss
      rw [hss] at HE hsl
      obtain ⟨es, hes⟩ : ∃ es, edgesOf zs = es := ⟨_, rfl⟩
      have HES := Lib.hid (show stepsOf zs = stepsGo es from by rw [← hes]; rfl)
      rw [hes] at HE hel
      have HSL := Lib.hid hsl
      clear hbs hss hes hsl
      have BR := Lib.hid hbr
      clear hbr
      go_wp2_with fail
      refine (sortI_any w.heap.size A1 c1 bs _ Hown.out (by omega) BR.out.size).mono ?_
      rw [HSS.out]
      rintro e w1 ⟨rfl, ho, hb⟩
      rw [← HSL.out] at ho ⊢
      have O1 := Lib.hid ho
      have B1 := Lib.hid (BR.out.trans hb)
      clear ho hb Hown BR
      go_wp2_with fail
      refine (compactI_any w.heap.size A1 c1 ss _ O1.out (by rw [HSL.out]; omega)).mono ?_
      rw [← HE.out]
      rintro e w2 ⟨rfl, ho, hb⟩
      have O2 := Lib.hid ho
      have B2 := Lib.hid (B1.out.trans hb)
      clear ho hb O1 B1
      go_wp2
      go_loopw [6, 7] (fun v i wr => ∃ k : Nat, 1 ≤ k ∧ (k = 1 ∨ k ≤ es.length) ∧ i = .int .i64 k ∧ wr.ownsRow w2.heap.size 29 2 v ((stepsGo es).take (k - 1)).length (flat ((stepsGo es).take (k - 1))) ∧ Below w2.heap.size w2 wr) (fun _ i _ => es.length - (intOf i).toNat)
      case atStart => exact ⟨1, Nat.le_refl _, .inl rfl, rfl, World.ownsRow_nil _ _ _ _, Below.refl _ _⟩
      case round =>
        obtain ⟨k, hk1, hk2, rfl, hown, hbr⟩ := hrel
        have Hown := Lib.hid hown
        have hlo : ((stepsGo es).take (k - 1)).length ≤ 2097154 := by rw [List.length_take, steps_len]; omega
        clear hown
        by_cases hlt : k < es.length
        · have HT := Lib.hid (steps_take hk1 hlt)
          obtain ⟨oo, hoo⟩ : ∃ oo, (stepsGo es).take (k - 1) = oo := ⟨_, rfl⟩
          rw [hoo] at Hown HT hlo
          clear hoo
          rcases O2.out.2 with ⟨h0, h1⟩ | ⟨g, cp, cur, e1, hgb, hgg, _⟩
          · omega
          · injection e1 with e1 e2 e3
            subst e1 e3
            have hgl : g < w2.heap.size := (Array.getElem?_eq_some_iff.1 hgg).1
            obtain ⟨p, hp⟩ : ∃ p, es.getD (k - 1) 0 = p := ⟨_, rfl⟩
            obtain ⟨q, hq⟩ : ∃ q, es.getD k 0 = q := ⟨_, rfl⟩
            rw [hp, hq] at HT
            have d0 : w2.cell? ⟨g, k - 1, none⟩ = some (.int .i64 p) := by
              rw [O2.out.cellAt (k - 1) (by omega), ← hp, List.getElem?_map, List.getElem?_eq_getElem (by omega)]; simp [List.getD, show k - 1 < es.length by omega]
            have d1 : w2.cell? ⟨g, k, none⟩ = some (.int .i64 q) := by
              rw [O2.out.cellAt k (by omega), ← hq, List.getElem?_map, List.getElem?_eq_getElem hlt]; simp [List.getD, hlt]
            replace d0 := cellBelow hbr hgl d0
            replace d1 := cellBelow hbr hgl d1
            have hs5 := hbr.size
            have ag : u6.ownBlock ≠ some g := fun e => by have := (Hown.out.lt g e).1; omega
            have hg2 : g < wr.heap.size := by omega
            have k0 : (0 : Int) ≤ (k : Int) := Int.natCast_nonneg _
            have k1 : (k : Int) < (es.length : Int) := by omega
            obtain ⟨i1, hi1⟩ : ∃ i1 : Int, (k : Int) - 1 = i1 := ⟨_, rfl⟩
            have k2 : (0 : Int) ≤ i1 := by omega
            have k3 : i1 < (es.length : Int) := by omega
            have k4 : i1.toNat = k - 1 := by omega
            have k5 : IntKind.i64.wrap ((k : Int) - 1) = i1 := (IntWalk.i64_in _ (by omega)).trans hi1
            clear hi1
            clear hp hq hgg e2
            go_wp2_with fail
            go_region_held3 (fun w' => w'.cell? ⟨g, k - 1, none⟩ = some (.int .i64 p) ∧ w'.cell? ⟨g, k, none⟩ = some (.int .i64 q))
              (first
                | go_keep
                | (go_split_ands
                   refine ⟨?_, ?_⟩
                   · (rw [hgrow.cell_far _ (by simp; omega) (Ne.symm ag)]; assumption)
                   · (rw [hgrow.cell_far _ (by simp; omega) (Ne.symm ag)]; assumption)))
              ((refine step_append_lies _ (by rfl) _ _ _ (by rfl) w2.heap.size 29 j0 _ 2 16 Try.underlying33 Ji.out Jz0.out Jz1.out Jz2.out rfl (by omega) u6 oo.length (flat oo) (by rfl) ((Hown.out.alloc _).drew)
                  ⟨wr.heap.size, 0, none⟩ 1 1 [.int .i64 p, .int .i64 q] (by rfl) (by rfl) (World.news_of_block (cs := #[.int .i64 p, .int .i64 q]) (t := 29) (fr := (0, 0)) (heap_alloc_new wr _)) (by simp [Value.oneCell'])
                  (by omega) (by unfold maxLen; omega) (by omega) (by simp; omega) (wr.heap.size + 1) (by simp) ?_; intro gg cap1 w3 hown' hgrow hat hlt3))
            have O3 := Lib.hid (owns_snoc (f := p) (t := q) hown' rfl)
            have B3 := Lib.hid (((hbr.alloc hs5 _).drew).grown hgrow (by simp; omega) (fun i e => by have := (Hown.out.lt i e).1; omega))
            clear hown' hgrow hat
            go_wp2
            go_roundw
            case rel => exact ⟨k + 1, by omega, .inr (by omega), by go_num, (by rw [show k + 1 - 1 = k by omega, HT.out]; exact O3.out), B3.out⟩
            case measure => simp [intOf]; omega
        · have HT := Lib.hid (show (stepsGo es).take (k - 1) = stepsOf zs from by
            rw [HES.out, List.take_of_length_le (by rw [steps_len]; omega)])
          rw [HT.out] at Hown
          obtain ⟨A', c', hv⟩ := owns_slice Hown.out
          subst hv
          have BZ := Lib.hid (B2.out.trans (hbr.mono B2.out.size))
          have OZ := Lib.hid (ownsBase (base' := w.heap.size) Hown.out B2.out.size)
          clear hbr
          go_wp2
          go_ret
          exact ⟨A', c', rfl, OZ.out, BZ.out⟩
end Go.Proofs.Ytphinkcfmdnpfaa
