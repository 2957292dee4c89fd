/-
  The walk of the model's l1SetLess.
-/
import Derived.Test.YtgclmldhdjmabaaSubL
import Derived.Test.YtgclmldhdjmabaaGets
import Derived.Deep.RegionHeld3
import Derived.Maps.AppendAt
namespace Go.Proofs.Ytgclmldhdjmabaa
open Go.RowKit

/-- append of a slice that has an address, in a region that draws its order. -/
theorem step_append_slice {P : Program} (w : World) {ops : Array Oper} {o : Oper} {a : Act} {K : Act → World → Prop} {Q : Exit → Act → World → Prop} {E : Prop} (hgd : o.guard = none) (s x : Operand) (t : TypeId)
    (ho : o.op = .call { callee := .builtin .append, args := #[s, x], argTypes := #[t, t] }) (base : Nat) (e : TypeId) (i : TypeInfo) (z : Value) (size bytes : Nat)
    (ht : P.underlying t = some (.slice e)) (hi : P.info? e = some i) (hz : i.zero = some z) (hsize : i.size = size) (hby : i.bytes = bytes) (hzs : z.cells.size = size) (hsz : 0 < size)
    (v : Value) (n : Nat) (xs : List Value) (hs : a.eval s = v) (hown : w.ownsRow base e size v n xs) (ad : Addr) (m c : Nat) (news : List Value) (hx : a.eval x = .slice (some ad) m c) (hl : news.length = m * size)
    (hnews : ∀ j u, news[j]? = some u → w.cell? (ad.add j) = some u) (h1 : ∀ u ∈ news, u.oneCell' = true) (h63 : n + m ≤ maxLen) (hbytes : (n + m) * bytes ≤ 140737488355328) (hbase : base ≤ w.heap.size)
    (h : ∀ v' w', w'.ownsRow base e size v' (n + m) (xs ++ news) → w.grownBy w' v.ownBlock → (v' = .slice none 0 0 ↔ v = .slice none 0 0 ∧ m = 0) → K (a.put o.dst v') w') :
    if Region.wanted o (yielded ops a.tmps) = true then Oper.wp P o a w K Q else E := by
  obtain ⟨v', w', hrun, h2, h3, h4, _⟩ := run_append_own_at (P := P) w base t o.type e i z size bytes ht hi hz hsize hby hzs hsz v n xs hown ad m c news hl hnews h1 h63 hbytes hbase
  rw [if_pos (by simp [Region.wanted, hgd])]
  unfold Oper.wp execOp
  simp only [ho, resolve, invoke, builtin, Sem.run_bind, Sem.run_pure, Result.andThen_ok, List.map_toArray, List.map_cons, List.map_nil, hs, hx, hrun]
  exact h v' w' h2 h3 h4

theorem subOne_take {y : Int × Int} {xs : List (Int × Int)} {k : Nat} (hk : k < xs.length) : subOne y (xs.take (k + 1)) = subOne y (xs.take k) ++ lessOne (xs.getD k (0, 0)) y := by
  rw [List.take_succ_eq_append_getElem hk, show xs.getD k (0, 0) = xs[k] from by simp [hk]]
  simp only [subOne, List.flatMap_append, List.flatMap_cons, List.flatMap_nil, List.append_nil]
theorem subL_take {xs ys : List (Int × Int)} {k : Nat} (hk : k < ys.length) : subL xs (ys.take (k + 1)) = subOne (ys.getD k (0, 0)) (subL xs (ys.take k)) := by
  rw [List.take_succ_eq_append_getElem hk, show ys.getD k (0, 0) = ys[k] from by simp [hk]]
  simp only [subL, List.foldl_append, List.foldl_cons, List.foldl_nil]
theorem lessOne_len (x y : Int × Int) : (lessOne x y).length ≤ 2 := by
  unfold lessOne
  split
  · split <;> split <;> simp
  · simp
theorem subOne_len (y : Int × Int) : ∀ xs : List (Int × Int), (subOne y xs).length ≤ 2 * xs.length
  | [] => by simp [subOne]
  | x :: xs => by
    have h1 := subOne_len y xs
    have h2 := lessOne_len x y
    rw [subOne_cons, List.length_append, List.length_cons]
    omega
theorem owns_more {w : World} {base n : Nat} {v : Value} {o l : List (Int × Int)} {t : TypeId} (h : w.ownsRow base t 2 v n (flat o ++ flat l)) (hn : n = o.length + l.length) : w.ownsRow base t 2 v (o ++ l).length (flat (o ++ l)) := by
  rw [flat_append, List.length_append]
  subst hn
  exact h

theorem spans_cells {w : World} {g o : Nat} {l : List (Int × Int)} (h : Spans w (some ⟨g, o, none⟩) l) : ∀ j u, (flat l)[j]? = some u → w.cell? ((⟨g, o, none⟩ : Addr).add j) = some u := by
  intro j u hu
  have hj : j < l.length * 2 := by rw [← flat_length]; exact (List.getElem?_eq_some_iff.1 hu).1
  have hi : j / 2 < l.length := by omega
  obtain ⟨b, off, e, hc⟩ := h (by omega)
  injection e with e
  injection e with e1 e2 e3
  subst e1 e2
  obtain ⟨c0, c1⟩ := hc (j / 2) hi
  have ea : (⟨g, o, none⟩ : Addr).add j = ⟨g, o + j, none⟩ := by unfold Addr.add; split <;> simp_all
  rw [ea]
  rcases Nat.mod_two_eq_zero_or_one j with h2 | h2
  · have ht : j = (j / 2) * 2 := by omega
    rw [show (flat l)[j]? = (flat l)[(j / 2) * 2]? from by rw [← ht], flat_get0 l _ hi] at hu
    rw [← hu, ← c0, ← ht]
  · have ht : j = (j / 2) * 2 + 1 := by omega
    rw [show (flat l)[j]? = (flat l)[(j / 2) * 2 + 1]? from by rw [← ht], flat_get1 l _ hi] at hu
    rw [← hu, ← c1, Nat.add_assoc, ← ht]

set_option maxRecDepth 100000 in
set_option maxHeartbeats 4000000 in
theorem l1SetLess_any (ga oa : Nat) (B : Option Addr) (ca cb : Nat) (xs ys : List (Int × Int)) (w : World) (hx : Spans w (some ⟨ga, oa, none⟩) xs) (hy : Spans w B ys) (hA : ga < w.heap.size) (cx : setOk xs = true) (cy : setOk ys = true) :
    Calls Try.prog 122 #[.slice (some ⟨ga, oa, none⟩) xs.length ca, .slice B ys.length cb] w (Gets w (subL xs ys)) := by
  obtain ⟨i0, hi, hz0, hz1, hz2⟩ := info_parts Try.info32
  have Hi := Lib.hid hi
  have Hz0 := Lib.hid hz0
  have Hz1 := Lib.hid hz1
  have Hz2 := Lib.hid hz2
  have hly := setOk_len cy
  have HX := Lib.hid hx
  have HY := Lib.hid hy
  have Hok := Lib.hid (show ∀ k, (subL xs (ys.take k)).length ≤ 100 from fun k => by
    refine setOk_len ((setOk_iff _).2 (has_subL 0 (ys.take k) xs (-1) (-1) ((setOk_iff _).1 cx) ?_).2)
    have h := (setOk_iff ys).1 cy
    rw [canon_iff] at h ⊢
    intro j hj
    have hj' : j < ys.length := by rw [List.length_take] at hj; omega
    have h1 : (ys.take k).getD j (0, 0) = ys.getD j (0, 0) := by simp [List.getD, show j < k by rw [List.length_take] at hj; omega]
    have h2 : (ys.take k).getD (j - 1) (0, 0) = ys.getD (j - 1) (0, 0) := by simp [List.getD, show j - 1 < k by rw [List.length_take] at hj; omega]
    rw [h1, h2]
    exact h j hj')
  clear hi hz0 hz1 hz2 hx hy cx cy
  go_enter Try.func122, Try.ntmps122
  go_wp2
  go_loopw [0, 5] (fun av i wr => ∃ (k g' o' c' : Nat), k ≤ ys.length ∧ i = .int .i64 k ∧ av = .slice (some ⟨g', o', none⟩) (subL xs (ys.take k)).length c' ∧ Spans wr (some ⟨g', o', none⟩) (subL xs (ys.take k)) ∧ g' < wr.heap.size ∧ Below w.heap.size w wr) (fun _ i _ => ys.length - (intOf i).toNat)
  case atStart => exact ⟨0, ga, oa, ca, Nat.zero_le _, rfl, by simp [subL], by simpa [subL] using HX.out, hA, Below.refl _ _⟩
  case round =>
    obtain ⟨k, g', o', c', hk, rfl, rfl, hs, hbA, hbr⟩ := hrel
    have Hs := Lib.hid hs
    have hla := Hok.out k
    clear hs
    by_cases hlt : k < ys.length
    · have hst := Lib.hid (subL_take (xs := xs) hlt)
      obtain ⟨ss, has'⟩ : ∃ ss, subL xs (ys.take k) = ss := ⟨_, rfl⟩
      rw [has'] at hla Hs hst ⊢
      clear has'
      obtain ⟨wo, rfl⟩ : ∃ wo, wo = wr := ⟨_, rfl⟩
      go_wp2
      go_loopw [6, 7] (fun v i wi => ∃ j : Nat, j ≤ ss.length ∧ i = .int .i64 j ∧ wi.ownsRow wo.heap.size 32 2 v (subOne (ys.getD k (0, 0)) (ss.take j)).length (flat (subOne (ys.getD k (0, 0)) (ss.take j))) ∧ v ≠ .slice none 0 0 ∧ Below wo.heap.size wo wi) (fun _ i _ => ss.length - (intOf i).toNat)
      case atStart =>
        refine ⟨0, Nat.zero_le _, rfl, ?_, by simp, (Below.refl _ _).alloc (Nat.le_refl _) _⟩
        have := World.ownsRow_lit (base := wo.heap.size) (e := 32) (size := 2) wo #[] 0 (by simp) (by simp [maxLen]) (by simp)
        simpa [flat, subOne] using this
      case round =>
        obtain ⟨wi, rfl⟩ : ∃ wi, wi = wr := ⟨_, rfl⟩
        obtain ⟨j, hj, rfl, hown2, hnn2, hbr2⟩ := hrel
        have hlen := subOne_len (ys.getD k (0, 0)) (ss.take j)
        rw [List.length_take] at hlen
        by_cases hlt2 : j < ss.length
        · have ht := Lib.hid (subOne_take (y := ys.getD k (0, 0)) hlt2)
          obtain ⟨o, ho⟩ : ∃ o, subOne (ys.getD k (0, 0)) (ss.take j) = o := ⟨_, rfl⟩
          rw [ho] at hown2 hlen ht
          obtain ⟨g, c, rfl, hg1, hg2⟩ := owns_form hown2 hnn2
          have Hown2 := Lib.hid hown2
          clear hown2 hnn2 ho
          obtain ⟨b0, off, eb, hcells⟩ := Hs.out (by omega)
          injection eb with eb
          injection eb with eb1 eb2 eb3
          subst eb1 eb2
          obtain ⟨b1, off1, rfl, hcells1⟩ := HY.out (by omega)
          obtain ⟨c0, c1⟩ := hcells j hlt2
          obtain ⟨d0, d1⟩ := hcells1 k hlt
          obtain ⟨x, ex⟩ : ∃ x, ss.getD j (0, 0) = x := ⟨_, rfl⟩
          obtain ⟨y, ey⟩ : ∃ x, ys.getD k (0, 0) = x := ⟨_, rfl⟩
          rw [ex] at c0 c1 ht
          rw [ey] at d0 d1 ht hst
          obtain ⟨x1, x2⟩ := x
          obtain ⟨y1, y2⟩ := y
          have Ey := Lib.hid ey
          have hBi : Below w.heap.size w wi := hbr.trans (hbr2.mono hbr.size)
          have hb1' : b1 < wo.heap.size := Nat.lt_of_lt_of_le (World.block_lt_of_cell? _ _ d0) hbr.size
          replace c0 := cell_below hbr2 hbA c0
          replace c1 := cell_below hbr2 hbA c1
          replace d0 := cell_below hBi (World.block_lt_of_cell? _ _ d0) d0
          replace d1 := cell_below hBi (World.block_lt_of_cell? _ _ d1) d1
          have hsi := hbr2.size
          have hl2 := lessOne_len (x1, x2) (y1, y2)
          have j0 : (0 : Int) ≤ (j : Int) := Int.natCast_nonneg _
          have j1 : (j : Int) < (ss.length : Int) := by omega
          have k0 : (0 : Int) ≤ (k : Int) := Int.natCast_nonneg _
          have k1 : (k : Int) < (ys.length : Int) := by omega
          have BI := Lib.hid hbr2
          clear hcells hcells1 ex ey hBi hbr2
          go_upto_region 8 with fail
          go_region_held3 (fun w' => w'.cell? ⟨g', o' + j * 2, none⟩ = some (.int .i64 x1) ∧ w'.cell? ⟨g', o' + j * 2 + 1, none⟩ = some (.int .i64 x2) ∧ w'.cell? ⟨b1, off1 + k * 2, none⟩ = some (.int .i64 y1) ∧ w'.cell? ⟨b1, off1 + k * 2 + 1, none⟩ = some (.int .i64 y2))
            (first
              | go_keep
              | (go_split_ands; exact ⟨cell_below hb (by simp; omega) c0, cell_below hb (by simp; omega) c1, cell_below hb (by simp; omega) d0, cell_below hb (by simp; omega) d1⟩)
              | (go_split_ands
                 refine ⟨?_, ?_, ?_, ?_⟩
                 · (rw [hgrow.cell_far _ (by have := hb.size; simp at this ⊢; omega) (by simp [Value.ownBlock]; omega)]; exact cell_below hb (by simp; omega) c0)
                 · (rw [hgrow.cell_far _ (by have := hb.size; simp at this ⊢; omega) (by simp [Value.ownBlock]; omega)]; exact cell_below hb (by simp; omega) c1)
                 · (rw [hgrow.cell_far _ (by have := hb.size; simp at this ⊢; omega) (by simp [Value.ownBlock]; omega)]; exact cell_below hb (by simp; omega) d0)
                 · (rw [hgrow.cell_far _ (by have := hb.size; simp at this ⊢; omega) (by simp [Value.ownBlock]; omega)]; exact cell_below hb (by simp; omega) d1)))
            (first
              | (go_at_call 139; refine (l1Less_any _ _ _ _ _).mono ?_; rintro e w1 ⟨g3, c3, rfl, ho3, hb⟩; have O3 := Lib.hid ho3; have P2 := Lib.hid (owns_keep (World.ownsRow.drew Hown2.out) hb); clear ho3)
              | (refine step_append_slice _ (by rfl) _ _ _ (by rfl) wo.heap.size 32 i0 _ 2 16 Try.underlying35 Hi.out Hz0.out Hz1.out Hz2.out rfl (by omega) _ o.length (flat o) (by rfl) P2.out ⟨g3, 0, none⟩ (lessOne (x1, x2) (y1, y2)).length c3 (flat (lessOne (x1, x2) (y1, y2))) (by rfl) (flat_length _) (O3.out.cells (g := g3) rfl) (flat_one _) (by unfold maxLen; omega) (by omega) (by have := hb.size; simp at this; omega) ?_; intro v' w4 hown' hgrow hnil))
          have O4 := Lib.hid (owns_more hown' rfl)
          have N4 := Lib.hid (show v' ≠ .slice none 0 0 from fun e => by cases (hnil.1 e).1)
          have B4 := Lib.hid (((BI.out.drew).trans (hb.mono (show wo.heap.size ≤ wi.drew.heap.size from hsi))).grown hgrow (by have := hb.size; have h2 : wi.drew.heap.size = wi.heap.size := rfl; omega) (fun i e => by have e' : g = i := (by simpa [Value.ownBlock] using e); omega))
          rename_i hHeld
          clear hown' hgrow hnil hHeld hb O3 P2
          go_wp2
          go_roundw
          case rel => exact ⟨j + 1, by omega, by go_num, (by rw [Ey.out, ht.out]; exact O4.out), N4.out, B4.out⟩
          case measure => simp [intOf]; omega
        · obtain rfl : j = ss.length := by omega
          rw [List.take_length, ← hst.out] at hown2
          obtain ⟨g, c, rfl, hg1, hg2⟩ := owns_form hown2 hnn2
          have Hown2 := Lib.hid hown2
          have BI := Lib.hid (hbr.trans (hbr2.mono hbr.size))
          clear hown2 hnn2 hbr2
          go_wp2
          go_roundw
          case rel => exact ⟨k + 1, g, 0, c, by omega, by go_num, rfl, spans_of_owns Hown2.out rfl, hg2, BI.out⟩
          case measure => simp [intOf]; omega
    · obtain rfl : k = ys.length := by omega
      rw [List.take_length] at Hs hla ⊢
      obtain ⟨ss, has'⟩ : ∃ ss, subL xs ys = ss := ⟨_, rfl⟩
      rw [has'] at Hs hla ⊢
      have HSS := Lib.hid has'
      clear has'
      have hs2 := hbr.size
      have OL := Lib.hid (owns_base (World.ownsRow_lit (base := wr.heap.size) (e := 32) (size := 2) wr #[] 0 (by simp) (by simp [maxLen]) (by simp)) hs2)
      have SC := Lib.hid (spans_cells (Hs.out.below ((Below.refl wr.heap.size wr).alloc (Nat.le_refl _) (.cells #[] 32))))
      go_wp2_with (at_builtin; refine wpList_append_own _ rfl _ _ 35 rfl w.heap.size 32 i0 _ 2 16 Try.underlying35 Hi.out Hz0.out Hz1.out Hz2.out rfl (by decide) _ 0 [] rfl OL.out ⟨g', o', none⟩ ss.length c' (flat ss) rfl (flat_length _) SC.out (flat_one _) (by unfold maxLen; omega) (by omega) (by simp; omega) ?_; intro v' w4 hown' hgrow hnil)
      have O4 := Lib.hid (show w4.ownsRow w.heap.size 32 2 v' ss.length (flat ss) from by simpa using hown')
      have B4 := Lib.hid ((hbr.alloc hs2 (.cells #[] 32)).grown hgrow (by simp; omega) (fun i e => by have := (OL.out.lt i e).1; omega))
      clear hown' hgrow hnil
      obtain ⟨A', c4, hv⟩ := owns_slice O4.out
      subst hv
      go_wp2
      go_ret
      rw [HSS.out]
      exact ⟨A', c4, rfl, O4.out, B4.out⟩
end Go.Proofs.Ytgclmldhdjmabaa
