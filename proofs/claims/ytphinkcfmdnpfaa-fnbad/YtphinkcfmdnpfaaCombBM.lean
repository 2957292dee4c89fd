/-
  Walk: children whose text is no key of a parent, as the model makes them.
-/
import Derived.Test.YtphinkcfmdnpfaaCombI
import Derived.Test.YtphinkcfmdnpfaaCombB
import Derived.Test.YtphinkcfmdnpfaaSubL
import Derived.Test.YtphinkcfmdnpfaaGets
import Derived.Deep.RegionHeld3
import Derived.Maps.AppendAt
import Derived.Test.YtphinkcfmdnpfaaCombN
namespace Go.Proofs.Ytphinkcfmdnpfaa
open Go.Shelf Go.RowKit Go.Lib Go.Sort

def relBadS (a b : List RowV) : List RowV × Bool := combS a b (badAll a b)
theorem relBadS_len (a b : List RowV) : (relBadS a b).1.length ≤ 24 := combS_len ..

set_option maxHeartbeats 1000000 in
theorem RelBad_any (A B : Option Addr) (ca cc : Nat) (a b : List RowV) (w : World) (hx : RowsA w A a) (hy : RowsA w B b) (hA : A = none → ca = 0) (hB : B = none → cc = 0) (hla : a.length ≤ 1048577) (hlb : b.length ≤ 1048577) (hsa : Short a) (hsb : Short b) :
    Calls Try.prog 21 #[.slice A a.length ca, .slice B b.length cc] w (GetsRB w (relBadS a b)) := by
  have HC := Lib.hid (show Calls Try.prog 71 #[.slice A a.length ca, .slice B b.length cc, .func (.func 72) #[] #[]] w (GetsRB w (relBadS a b)) from combined_any A B ca cc a b _ 72 #[] badF w (enters_of Try.func72 (by kernel_rfl) rfl) hx hy hA hB hla hlb hsa hsb (bad_one w) (fun ps qs h1 h2 => Nat.le_trans (filter_le ..) (by omega)) (fun ps qs h1 h2 => fun p hp => small_max h1 p (List.mem_filter.1 hp).1) (fun ha hb s => bad_comb ha hb))
  clear hx hy hA hB hsa hsb
  go_enter Try.func21, Try.ntmps21
  go_wp2_with fail
  refine HC.out.mono ?_
  rintro e w1 ⟨A1, c1, rfl, ho, hb⟩
  have O1 := Lib.hid ho
  have B1 := Lib.hid hb
  clear ho hb HC
  go_wp2
  refine bodyPost_ret (v := .tuple #[.slice A1 (relBadS a b).1.length c1, .bool (relBadS a b).2]) (by simp [results, Try.results21, go_sem]) rfl ?_
  exact ⟨A1, c1, rfl, O1.out, B1.out⟩
end Go.Proofs.Ytphinkcfmdnpfaa
namespace Go.Proofs.Ytphinkcfmdnpfaa
open Go.RowKit

/-- append of a slice that has an address, in a region that draws its order. -/
theorem step_append_slice {P : Program} (w : World) {ops : Array Oper} {o : Oper} {a : Act} {K : Act → World → Prop} {Q : Exit → Act → World → Prop} {E : Prop} (hgd : o.guard = none) (s x : Operand) (t : TypeId)
    (ho : o.op = .call { callee := .builtin .append, args := #[s, x], argTypes := #[t, t] }) (base : Nat) (e : TypeId) (i : TypeInfo) (z : Value) (size bytes : Nat)
    (ht : P.underlying t = some (.slice e)) (hi : P.info? e = some i) (hz : i.zero = some z) (hsize : i.size = size) (hby : i.bytes = bytes) (hzs : z.cells.size = size) (hsz : 0 < size)
    (v : Value) (n : Nat) (xs : List Value) (hs : a.eval s = v) (hown : w.ownsRow base e size v n xs) (ad : Addr) (m c : Nat) (news : List Value) (hx : a.eval x = .slice (some ad) m c) (hl : news.length = m * size)
    (hnews : ∀ j u, news[j]? = some u → w.cell? (ad.add j) = some u) (h1 : ∀ u ∈ news, u.oneCell' = true) (h63 : n + m ≤ maxLen) (hbytes : (n + m) * bytes ≤ 140737488355328) (hbase : base ≤ w.heap.size)
    (h : ∀ v' w', w'.ownsRow base e size v' (n + m) (xs ++ news) → w.grownBy w' v.ownBlock → (v' = .slice none 0 0 ↔ v = .slice none 0 0 ∧ m = 0) → K (a.put o.dst v') w') :
    if Region.wanted o (yielded ops a.tmps) = true then Oper.wp P o a w K Q else E := by
  obtain ⟨v', w', hrun, h2, h3, h4, _⟩ := run_append_own_at (P := P) w base t o.type e i z size bytes ht hi hz hsize hby hzs hsz v n xs hown ad m c news hl hnews h1 h63 hbytes hbase
  rw [if_pos (by simp [Region.wanted, hgd])]
  unfold Oper.wp execOp
  simp only [ho, resolve, invoke, builtin, Sem.run_bind, Sem.run_pure, Result.andThen_ok, List.map_toArray, List.map_cons, List.map_nil, hs, hx, hrun]
  exact h v' w' h2 h3 h4

theorem subOne_take {y : Int × Int} {xs : List (Int × Int)} {k : Nat} (hk : k < xs.length) : subOne y (xs.take (k + 1)) = subOne y (xs.take k) ++ lessOne (xs.getD k (0, 0)) y := by
  rw [List.take_succ_eq_append_getElem hk, show xs.getD k (0, 0) = xs[k] from by simp [hk]]
  simp only [subOne, List.flatMap_append, List.flatMap_cons, List.flatMap_nil, List.append_nil]
theorem subL_take {xs ys : List (Int × Int)} {k : Nat} (hk : k < ys.length) : subL xs (ys.take (k + 1)) = subOne (ys.getD k (0, 0)) (subL xs (ys.take k)) := by
  rw [List.take_succ_eq_append_getElem hk, show ys.getD k (0, 0) = ys[k] from by simp [hk]]
  simp only [subL, List.foldl_append, List.foldl_cons, List.foldl_nil]
theorem lessOne_len (x y : Int × Int) : (lessOne x y).length ≤ 2 := by
  unfold lessOne
  split
  · split <;> split <;> simp
  · simp
theorem subOne_len (y : Int × Int) : ∀ xs : List (Int × Int), (subOne y xs).length ≤ 2 * xs.length
  | [] => by simp [subOne]
  | x :: xs => by
    have h1 := subOne_len y xs
    have h2 := lessOne_len x y
    rw [subOne_cons, List.length_append, List.length_cons]
    omega
theorem owns_more {w : World} {base n : Nat} {v : Value} {o l : List (Int × Int)} {t : TypeId} (h : w.ownsRow base t 2 v n (flat o ++ flat l)) (hn : n = o.length + l.length) : w.ownsRow base t 2 v (o ++ l).length (flat (o ++ l)) := by
  rw [flat_append, List.length_append]
  subst hn
  exact h

theorem spans_cells {w : World} {g o : Nat} {l : List (Int × Int)} (h : Spans w (some ⟨g, o, none⟩) l) : ∀ j u, (flat l)[j]? = some u → w.cell? ((⟨g, o, none⟩ : Addr).add j) = some u := by
  intro j u hu
  have hj : j < l.length * 2 := by rw [← flat_length]; exact (List.getElem?_eq_some_iff.1 hu).1
  have hi : j / 2 < l.length := by omega
  obtain ⟨b, off, e, hc⟩ := h (by omega)
  injection e with e
  injection e with e1 e2 e3
  subst e1 e2
  obtain ⟨c0, c1⟩ := hc (j / 2) hi
  have ea : (⟨g, o, none⟩ : Addr).add j = ⟨g, o + j, none⟩ := by unfold Addr.add; split <;> simp_all
  rw [ea]
  rcases Nat.mod_two_eq_zero_or_one j with h2 | h2
  · have ht : j = (j / 2) * 2 := by omega
    rw [show (flat l)[j]? = (flat l)[(j / 2) * 2]? from by rw [← ht], flat_get0 l _ hi] at hu
    rw [← hu, ← c0, ← ht]
  · have ht : j = (j / 2) * 2 + 1 := by omega
    rw [show (flat l)[j]? = (flat l)[(j / 2) * 2 + 1]? from by rw [← ht], flat_get1 l _ hi] at hu
    rw [← hu, ← c1, Nat.add_assoc, ← ht]

set_option maxRecDepth 100000 in
set_option maxHeartbeats 4000000 in
theorem l1SetLess_any (ga oa : Nat) (B : Option Addr) (ca cb : Nat) (xs ys : List (Int × Int)) (w : World) (hx : Spans w (some ⟨ga, oa, none⟩) xs) (hy : Spans w B ys) (hA : ga < w.heap.size) (cx : setOk xs = true) (cy : setOk ys = true) :
    Calls Try.prog 76 #[.slice (some ⟨ga, oa, none⟩) xs.length ca, .slice B ys.length cb] w (Gets w (subL xs ys)) := by
  obtain ⟨i0, hi, hz0, hz1, hz2⟩ := info_parts Try.info29
  have Hi := Lib.hid hi
  have Hz0 := Lib.hid hz0
  have Hz1 := Lib.hid hz1
  have Hz2 := Lib.hid hz2
  have hly := setOk_len cy
  have HX := Lib.hid hx
  have HY := Lib.hid hy
  have Hok := Lib.hid (show ∀ k, (subL xs (ys.take k)).length ≤ 100 from fun k => by
    refine setOk_len ((setOk_iff _).2 (has_subL 0 (ys.take k) xs (-1) (-1) ((setOk_iff _).1 cx) ?_).2)
    have h := (setOk_iff ys).1 cy
    rw [canon_iff] at h ⊢
    intro j hj
    have hj' : j < ys.length := by rw [List.length_take] at hj; omega
    have h1 : (ys.take k).getD j (0, 0) = ys.getD j (0, 0) := by simp [List.getD, show j < k by rw [List.length_take] at hj; omega]
    have h2 : (ys.take k).getD (j - 1) (0, 0) = ys.getD (j - 1) (0, 0) := by simp [List.getD, show j - 1 < k by rw [List.length_take] at hj; omega]
    rw [h1, h2]
    exact h j hj')
  clear hi hz0 hz1 hz2 hx hy cx cy
  go_enter Try.func76, Try.ntmps76
  go_wp2
  go_loopw [0, 5] (fun av i wr => ∃ (k g' o' c' : Nat), k ≤ ys.length ∧ i = .int .i64 k ∧ av = .slice (some ⟨g', o', none⟩) (subL xs (ys.take k)).length c' ∧ Spans wr (some ⟨g', o', none⟩) (subL xs (ys.take k)) ∧ g' < wr.heap.size ∧ Below w.heap.size w wr) (fun _ i _ => ys.length - (intOf i).toNat)
  case atStart => exact ⟨0, ga, oa, ca, Nat.zero_le _, rfl, by simp [subL], by simpa [subL] using HX.out, hA, Below.refl _ _⟩
  case round =>
    obtain ⟨k, g', o', c', hk, rfl, rfl, hs, hbA, hbr⟩ := hrel
    have Hs := Lib.hid hs
    have hla := Hok.out k
    clear hs
    by_cases hlt : k < ys.length
    · have hst := Lib.hid (subL_take (xs := xs) hlt)
      obtain ⟨ss, has'⟩ : ∃ ss, subL xs (ys.take k) = ss := ⟨_, rfl⟩
      rw [has'] at hla Hs hst ⊢
      clear has'
      obtain ⟨wo, rfl⟩ : ∃ wo, wo = wr := ⟨_, rfl⟩
      go_wp2
      go_loopw [6, 7] (fun v i wi => ∃ j : Nat, j ≤ ss.length ∧ i = .int .i64 j ∧ wi.ownsRow wo.heap.size 29 2 v (subOne (ys.getD k (0, 0)) (ss.take j)).length (flat (subOne (ys.getD k (0, 0)) (ss.take j))) ∧ v ≠ .slice none 0 0 ∧ Below wo.heap.size wo wi) (fun _ i _ => ss.length - (intOf i).toNat)
      case atStart =>
        refine ⟨0, Nat.zero_le _, rfl, ?_, by simp, (Below.refl _ _).alloc (Nat.le_refl _) _⟩
        have := World.ownsRow_lit (base := wo.heap.size) (e := 29) (size := 2) wo #[] 0 (by simp) (by simp [maxLen]) (by simp)
        simpa [flat, subOne] using this
      case round =>
        obtain ⟨wi, rfl⟩ : ∃ wi, wi = wr := ⟨_, rfl⟩
        obtain ⟨j, hj, rfl, hown2, hnn2, hbr2⟩ := hrel
        have hlen := subOne_len (ys.getD k (0, 0)) (ss.take j)
        rw [List.length_take] at hlen
        by_cases hlt2 : j < ss.length
        · have ht := Lib.hid (subOne_take (y := ys.getD k (0, 0)) hlt2)
          obtain ⟨o, ho⟩ : ∃ o, subOne (ys.getD k (0, 0)) (ss.take j) = o := ⟨_, rfl⟩
          rw [ho] at hown2 hlen ht
          obtain ⟨g, c, rfl, hg1, hg2⟩ := owns_form hown2 hnn2
          have Hown2 := Lib.hid hown2
          clear hown2 hnn2 ho
          obtain ⟨b0, off, eb, hcells⟩ := Hs.out (by omega)
          injection eb with eb
          injection eb with eb1 eb2 eb3
          subst eb1 eb2
          obtain ⟨b1, off1, rfl, hcells1⟩ := HY.out (by omega)
          obtain ⟨c0, c1⟩ := hcells j hlt2
          obtain ⟨d0, d1⟩ := hcells1 k hlt
          obtain ⟨x, ex⟩ : ∃ x, ss.getD j (0, 0) = x := ⟨_, rfl⟩
          obtain ⟨y, ey⟩ : ∃ x, ys.getD k (0, 0) = x := ⟨_, rfl⟩
          rw [ex] at c0 c1 ht
          rw [ey] at d0 d1 ht hst
          obtain ⟨x1, x2⟩ := x
          obtain ⟨y1, y2⟩ := y
          have Ey := Lib.hid ey
          have hBi : Below w.heap.size w wi := hbr.trans (hbr2.mono hbr.size)
          have hb1' : b1 < wo.heap.size := Nat.lt_of_lt_of_le (World.block_lt_of_cell? _ _ d0) hbr.size
          replace c0 := cell_below hbr2 hbA c0
          replace c1 := cell_below hbr2 hbA c1
          replace d0 := cell_below hBi (World.block_lt_of_cell? _ _ d0) d0
          replace d1 := cell_below hBi (World.block_lt_of_cell? _ _ d1) d1
          have hsi := hbr2.size
          have hl2 := lessOne_len (x1, x2) (y1, y2)
          have j0 : (0 : Int) ≤ (j : Int) := Int.natCast_nonneg _
          have j1 : (j : Int) < (ss.length : Int) := by omega
          have k0 : (0 : Int) ≤ (k : Int) := Int.natCast_nonneg _
          have k1 : (k : Int) < (ys.length : Int) := by omega
          have BI := Lib.hid hbr2
          clear hcells hcells1 ex ey hBi hbr2
          go_upto_region 8 with fail
          go_region_held3 (fun w' => w'.cell? ⟨g', o' + j * 2, none⟩ = some (.int .i64 x1) ∧ w'.cell? ⟨g', o' + j * 2 + 1, none⟩ = some (.int .i64 x2) ∧ w'.cell? ⟨b1, off1 + k * 2, none⟩ = some (.int .i64 y1) ∧ w'.cell? ⟨b1, off1 + k * 2 + 1, none⟩ = some (.int .i64 y2))
            (first
              | go_keep
              | (go_split_ands; exact ⟨cell_below hb (by simp; omega) c0, cell_below hb (by simp; omega) c1, cell_below hb (by simp; omega) d0, cell_below hb (by simp; omega) d1⟩)
              | (go_split_ands
                 refine ⟨?_, ?_, ?_, ?_⟩
                 · (rw [hgrow.cell_far _ (by have := hb.size; simp at this ⊢; omega) (by simp [Value.ownBlock]; omega)]; exact cell_below hb (by simp; omega) c0)
                 · (rw [hgrow.cell_far _ (by have := hb.size; simp at this ⊢; omega) (by simp [Value.ownBlock]; omega)]; exact cell_below hb (by simp; omega) c1)
                 · (rw [hgrow.cell_far _ (by have := hb.size; simp at this ⊢; omega) (by simp [Value.ownBlock]; omega)]; exact cell_below hb (by simp; omega) d0)
                 · (rw [hgrow.cell_far _ (by have := hb.size; simp at this ⊢; omega) (by simp [Value.ownBlock]; omega)]; exact cell_below hb (by simp; omega) d1)))
            (first
              | (go_at_call 124; refine (l1Less_any _ _ _ _ _).mono ?_; rintro e w1 ⟨g3, c3, rfl, ho3, hb⟩; have O3 := Lib.hid ho3; have P2 := Lib.hid (owns_keep (World.ownsRow.drew Hown2.out) hb); clear ho3)
              | (refine step_append_slice _ (by rfl) _ _ _ (by rfl) wo.heap.size 29 i0 _ 2 16 Try.underlying33 Hi.out Hz0.out Hz1.out Hz2.out rfl (by omega) _ o.length (flat o) (by rfl) P2.out ⟨g3, 0, none⟩ (lessOne (x1, x2) (y1, y2)).length c3 (flat (lessOne (x1, x2) (y1, y2))) (by rfl) (flat_length _) (O3.out.cells (g := g3) rfl) (flat_one _) (by unfold maxLen; omega) (by omega) (by have := hb.size; simp at this; omega) ?_; intro v' w4 hown' hgrow hnil))
          have O4 := Lib.hid (owns_more hown' rfl)
          have N4 := Lib.hid (show v' ≠ .slice none 0 0 from fun e => by cases (hnil.1 e).1)
          have B4 := Lib.hid (((BI.out.drew).trans (hb.mono (show wo.heap.size ≤ wi.drew.heap.size from hsi))).grown hgrow (by have := hb.size; have h2 : wi.drew.heap.size = wi.heap.size := rfl; omega) (fun i e => by have e' : g = i := (by simpa [Value.ownBlock] using e); omega))
          rename_i hHeld
          clear hown' hgrow hnil hHeld hb O3 P2
          go_wp2
          go_roundw
          case rel => exact ⟨j + 1, by omega, by go_num, (by rw [Ey.out, ht.out]; exact O4.out), N4.out, B4.out⟩
          case measure => simp [intOf]; omega
        · obtain rfl : j = ss.length := by omega
          rw [List.take_length, ← hst.out] at hown2
          obtain ⟨g, c, rfl, hg1, hg2⟩ := owns_form hown2 hnn2
          have Hown2 := Lib.hid hown2
          have BI := Lib.hid (hbr.trans (hbr2.mono hbr.size))
          clear hown2 hnn2 hbr2
          go_wp2
          go_roundw
          case rel => exact ⟨k + 1, g, 0, c, by omega, by go_num, rfl, spans_of_owns Hown2.out rfl, hg2, BI.out⟩
          case measure => simp [intOf]; omega
    · obtain rfl : k = ys.length := by omega
      rw [List.take_length] at Hs hla ⊢
      obtain ⟨ss, has'⟩ : ∃ ss, subL xs ys = ss := ⟨_, rfl⟩
      rw [has'] at Hs hla ⊢
      have HSS := Lib.hid has'
      clear has'
      have hs2 := hbr.size
      have OL := Lib.hid (owns_base (World.ownsRow_lit (base := wr.heap.size) (e := 29) (size := 2) wr #[] 0 (by simp) (by simp [maxLen]) (by simp)) hs2)
      have SC := Lib.hid (spans_cells (Hs.out.below ((Below.refl wr.heap.size wr).alloc (Nat.le_refl _) (.cells #[] 29))))
      go_wp2_with (at_builtin; refine wpList_append_own _ rfl _ _ 33 rfl w.heap.size 29 i0 _ 2 16 Try.underlying33 Hi.out Hz0.out Hz1.out Hz2.out rfl (by decide) _ 0 [] rfl OL.out ⟨g', o', none⟩ ss.length c' (flat ss) rfl (flat_length _) SC.out (flat_one _) (by unfold maxLen; omega) (by omega) (by simp; omega) ?_; intro v' w4 hown' hgrow hnil)
      have O4 := Lib.hid (show w4.ownsRow w.heap.size 29 2 v' ss.length (flat ss) from by simpa using hown')
      have B4 := Lib.hid ((hbr.alloc hs2 (.cells #[] 29)).grown hgrow (by simp; omega) (fun i e => by have := (OL.out.lt i e).1; omega))
      clear hown' hgrow hnil
      obtain ⟨A', c4, hv⟩ := owns_slice O4.out
      subst hv
      go_wp2
      go_ret
      rw [HSS.out]
      exact ⟨A', c4, rfl, O4.out, B4.out⟩
end Go.Proofs.Ytphinkcfmdnpfaa
namespace Go.Proofs.Ytphinkcfmdnpfaa
open Go.Shelf Go.RowKit Go.Lib Go.Sort

theorem bad_take {a b : List RowV} {i : Nat} {x : RowV} (hx : a[i]? = some x) : badAll (a.take (i + 1)) b = badAll (a.take i) b ++ badRow b x := by
  obtain ⟨hk, rfl⟩ := List.getElem?_eq_some_iff.1 hx
  unfold badAll
  rw [List.take_succ_eq_append_getElem hk, List.flatMap_append]
  simp
theorem bad_len {b : List RowV} : ∀ {a : List RowV}, (∀ x ∈ a, spanOk x) → (badAll a b).length ≤ a.length * 100
  | [], _ => by simp [badAll]
  | x :: l, h => by
    have h1 := badRow_len (parent := b) (h x (List.mem_cons_self ..))
    have h2 := bad_len (b := b) fun y hy => h y (List.mem_cons_of_mem _ hy)
    unfold badAll at h2 ⊢
    rw [List.flatMap_cons, List.length_append, List.length_cons, Nat.add_mul]
    omega
def badOne (k t : ByteArray) (p : Int × Int) : RowV := ⟨k, t, p.1, p.2⟩
theorem badOne_take {ls : List (Int × Int)} {j : Nat} {k t : ByteArray} (h : j < ls.length) : (ls.take (j + 1)).map (badOne k t) = (ls.take j).map (badOne k t) ++ [badOne k t (ls.getD j (0, 0))] := by
  rw [List.take_succ_eq_append_getElem h, List.map_append, show ls.getD j (0, 0) = ls[j] from by simp [h]]
  rfl
theorem spans_one2 {w : World} {g : Nat} {a b : Int} (h0 : w.cell? ⟨g, 0, none⟩ = some (.int .i64 a)) (h1 : w.cell? ⟨g, 1, none⟩ = some (.int .i64 b)) : Spans w (some ⟨g, 0, none⟩) [(a, b)] := fun _ =>
  ⟨g, 0, rfl, fun i hi => by
    obtain rfl : i = 0 := by simp at hi; omega
    exact ⟨by simpa using h0, by simpa using h1⟩⟩
def AtBad (wr : World) (ls : List (Int × Int)) (s8 : Value) (wx : World) : Prop :=
  ∃ (A : Option Addr) (c : Nat), s8 = .slice A ls.length c ∧ wx.ownsRow wr.heap.size 29 2 (.slice A ls.length c) ls.length (flat ls) ∧ Below wr.heap.size wr wx

set_option maxRecDepth 100000 in
set_option maxHeartbeats 4000000 in
theorem sRelBad_any (A B : Option Addr) (ca cc : Nat) (a b : List RowV) (w : World) (hx : RowsA w A a) (hy : RowsA w B b) (hA : A = none → ca = 0) (hB : B = none → cc = 0) (hla : a.length ≤ 1048577) (hlb : b.length ≤ 1048577) (hsa : Short a) (hsb : Short b) :
    Calls Try.prog 22 #[.slice A a.length ca, .slice B b.length cc] w (GetsRB w (relBadS a b)) := by
  obtain ⟨i0, hi, hz0, hz1, hz2⟩ := info_parts Try.infoR70
  have Hi := Lib.hid hi
  have Hz0 := Lib.hid hz0
  have Hz1 := Lib.hid hz1
  have Hz2 := Lib.hid hz2
  clear hi hz0 hz1 hz2
  have HX := Lib.hid hx
  have HY := Lib.hid hy
  have HA := Lib.hid hA
  have HB := Lib.hid hB
  have HSA := Lib.hid hsa
  have HSB := Lib.hid hsb
  obtain ⟨oa, hoa⟩ : ∃ oa, relOk a = oa := ⟨_, rfl⟩
  have HOA := Lib.hid hoa
  obtain ⟨ob, hob⟩ : ∃ ob, relOk b = ob := ⟨_, rfl⟩
  have HOB := Lib.hid hob
  clear hx hy hA hB hsa hsb hoa hob
  go_enter Try.func22, Try.ntmps22
  go_wp2_with fail
  generalize hW : w.alloc _ = W0
  have hW2 : W0 = w.alloc (.cells #[] 70) := hW.symm
  have HOL := Lib.hid (show W0.ownsRow w.heap.size 70 4 (.slice (some ⟨w.heap.size, 0, none⟩) 0 0) 0 (flatOf rowC []) from by rw [hW2]; exact World.ownsRow_lit (base := w.heap.size) (e := 70) (size := 4) w #[] 0 (by simp) (by simp [maxLen]) (by simp))
  have B0 := Lib.hid (show Below w.heap.size w W0 from by rw [← hW]; exact (Below.refl _ _).alloc (Nat.le_refl _) _)
  clear hW hW2
  refine (l2Ok_any A ca a _ (HX.out.below B0.out) hla HSA.out).mono ?_
  rw [HOA.out]
  rintro e w1 ⟨rfl, hb⟩
  have B1 := Lib.hid (B0.out.trans (hb.mono B0.out.size))
  have OL1 := Lib.hid (ownsKeep HOL.out hb)
  clear hb
  cases oa
  · have HR := Lib.hid (show relBadS a b = ([], false) from by unfold relBadS combS; rw [if_neg (by rw [HOA.out]; simp)])
    go_wp2
    refine bodyPost_ret (v := .tuple #[.slice none 0 0, .bool false]) (by simp [results, Try.results22, go_sem]) rfl ?_
    rw [HR.out]
    exact ⟨none, 0, rfl, World.ownsRow_nil _ _ _ _, B1.out⟩
  · go_wp2_with fail
    refine (l2Ok_any B cc b _ (HY.out.below B1.out) hlb HSB.out).mono ?_
    rw [HOB.out]
    rintro e w2 ⟨rfl, hb⟩
    have B2 := Lib.hid (B1.out.trans (hb.mono B1.out.size))
    have OL2 := Lib.hid (ownsKeep OL1.out hb)
    clear hb B1
    cases ob
    · have HR := Lib.hid (show relBadS a b = ([], false) from by unfold relBadS combS; rw [if_pos HOA.out, if_neg (by rw [HOB.out]; simp)])
      go_wp2
      refine bodyPost_ret (v := .tuple #[.slice none 0 0, .bool false]) (by simp [results, Try.results22, go_sem]) rfl ?_
      rw [HR.out]
      exact ⟨none, 0, rfl, World.ownsRow_nil _ _ _ _, B2.out⟩
    · have HR := Lib.hid (show relBadS a b = fullL (badAll a b) from by unfold relBadS combS; rw [if_pos HOA.out, if_pos HOB.out])
      have hl1 := ((relOk_iff a).1 HOA.out).1
      have hl2 := ((relOk_iff b).1 HOB.out).1
      have HRA := Lib.hid ((relOk_iff a).1 HOA.out).2
      have HRB := Lib.hid ((relOk_iff b).1 HOB.out).2
      have hpl := bad_len (b := b) (tight_rel HOA.out).1
      replace hpl : (badAll a b).length ≤ 2400 := by omega
      have SX := Lib.hid (show Short (badAll a b) from fun r hr => by
        obtain ⟨x, hx, hr⟩ := List.mem_flatMap.1 hr
        obtain ⟨e1, e2, _⟩ := badRow_in ((tight_rel HOA.out).1 x hx) hr
        have h1 := ok_small HOA.out x hx
        rw [e1, e2]
        unfold maxLen
        omega)
      go_wp2
      go_loopw [6, 7] (fun v iv wr => ∃ i : Nat, i ≤ a.length ∧ iv = .int .i64 i ∧ wr.ownsRow w.heap.size 70 4 v (badAll (a.take i) b).length (flatOf rowC (badAll (a.take i) b)) ∧ Below w.heap.size w wr) (fun _ iv _ => a.length - (intOf iv).toNat)
      case atStart => exact ⟨0, Nat.zero_le _, rfl, OL2.out, B2.out⟩
      case round =>
        obtain ⟨i, hi, rfl, hown, hbr⟩ := hrel
        have HownO := Lib.hid hown
        clear hown
        by_cases hlt : i < a.length
        · obtain ⟨b0, off, x, eA, hb0, hx', c0, c1, c2, c3⟩ := (HX.out.below hbr).at_ hlt
          have HTO := Lib.hid (bad_take (b := b) hx')
          have HXI := Lib.hid hx'
          have hsx := (tight_rel HOA.out).1 x (List.mem_of_getElem? hx')
          have hpre := bad_len (a := a.take i) (b := b) (fun z hz => (tight_rel HOA.out).1 z (List.mem_of_mem_take hz))
          replace hpre : (badAll (a.take i) b).length ≤ 2400 := by rw [List.length_take] at hpre; omega
          obtain ⟨pre, hprE⟩ : ∃ pre, badAll (a.take i) b = pre := ⟨_, rfl⟩
          rw [hprE] at HownO HTO hpre
          have hll := badRow_len (parent := b) hsx
          have HLS := Lib.hid (show badRow b x = (badS b x).map (badOne x.k x.t) from rfl)
          have HSP := Lib.hid (show relSpansL b x.t = addAll (spansTo b x.t b.length) from by unfold relSpansL; rw [if_pos HOB.out])
          have hso := relSpansL_ok b x.t
          have HBS := Lib.hid (show badS b x = subL [(x.f, x.e)] (relSpansL b x.t) from rfl)
          have hso1 : setOk [(x.f, x.e)] = true := (setOk_iff _).2 (one_canon hsx)
          obtain ⟨sp, hsp⟩ : ∃ sp, relSpansL b x.t = sp := ⟨_, rfl⟩
          rw [hsp] at HSP hso HBS
          obtain ⟨ls, hls⟩ : ∃ ls, badS b x = ls := ⟨_, rfl⟩
          rw [hls] at HLS HBS
          have hlsl : ls.length ≤ 100 := by have h := HLS.out; rw [h, List.length_map] at hll; exact hll
          have HSO := Lib.hid hso
          have HSO1 := Lib.hid hso1
          subst eA
          have hiz : (i : Int) < (a.length : Int) := by omega
          have hiz0 : (0 : Int) ≤ (i : Int) := by omega
          have hs5 := hbr.size
          have hq0 : Below wr.heap.size wr wr := Below.refl _ _
          have BR := Lib.hid hbr
          clear hprE hx' hsx hll hsp hls hso hso1 hbr
          go_upto_region 7 with fail
          go_cut [8] (fun s8 wx => AtBad wr ls s8 wx)
          case first =>
            go_region_held3 (fun w' => w'.cell? ⟨b0, off + i * 4 + 1, none⟩ = some (.string x.t) ∧ w'.cell? ⟨b0, off + i * 4 + 2, none⟩ = some (.int .i64 x.f) ∧ w'.cell? ⟨b0, off + i * 4 + 3, none⟩ = some (.int .i64 x.e) ∧ wr.heap.size ≤ w'.heap.size ∧ Below wr.heap.size wr w')
              (((try go_split_ands); refine ⟨?cc90, ?cc91, ?cc92, ?sz9, ?bl9⟩; (case cc90 => (repeat (first | with_reducible assumption | with_reducible refine cell_below hb (by first | omega | (simp; done) | (simp; omega)) ?_ | with_reducible refine cell_set_far (by first | omega | (simp; done) | (simp; omega)) ?_ | with_reducible exact cell_alloc_swap (by with_reducible assumption) (by first | omega | (simp; done) | (simp; omega)) | with_reducible refine cell_alloc_far ?_ | with_reducible refine cell_drew ?_))); (case cc91 => (repeat (first | with_reducible assumption | with_reducible refine cell_below hb (by first | omega | (simp; done) | (simp; omega)) ?_ | with_reducible refine cell_set_far (by first | omega | (simp; done) | (simp; omega)) ?_ | with_reducible exact cell_alloc_swap (by with_reducible assumption) (by first | omega | (simp; done) | (simp; omega)) | with_reducible refine cell_alloc_far ?_ | with_reducible refine cell_drew ?_))); (case cc92 => (repeat (first | with_reducible assumption | with_reducible refine cell_below hb (by first | omega | (simp; done) | (simp; omega)) ?_ | with_reducible refine cell_set_far (by first | omega | (simp; done) | (simp; omega)) ?_ | with_reducible exact cell_alloc_swap (by with_reducible assumption) (by first | omega | (simp; done) | (simp; omega)) | with_reducible refine cell_alloc_far ?_ | with_reducible refine cell_drew ?_))); (case sz9 => (first | with_reducible assumption | (have := hb.size; omega) | omega | (simp; done) | (simp; omega) | (have := hb.size; simp at this ⊢; omega))); (case bl9 => (repeat (first | with_reducible assumption | with_reducible exact hq0 | with_reducible refine Below.drew ?_ | with_reducible refine Below.trans ?_ (hb.mono (by first | omega | (simp; done) | (simp; omega))) | with_reducible refine Below.setCell ?_ (by first | omega | (simp; done) | (simp; omega)) _ | with_reducible exact below_alloc_swap (by with_reducible assumption) (by first | omega | (simp; done) | (simp; omega)) | with_reducible refine Below.alloc ?_ (by first | omega | (simp; done) | (simp; omega)) _)))))
              (first
                | (go_at_call 77; (try go_split_ands); refine (l2Spans_any B cc b x.t _ (HY.out.below (BR.out.trans (Below.mono (by (repeat (first | with_reducible assumption | with_reducible exact hq0 | with_reducible refine Below.drew ?_ | with_reducible refine Below.trans ?_ (hb.mono (by first | omega | (simp; done) | (simp; omega))) | with_reducible refine Below.setCell ?_ (by first | omega | (simp; done) | (simp; omega)) _ | with_reducible exact below_alloc_swap (by with_reducible assumption) (by first | omega | (simp; done) | (simp; omega)) | with_reducible refine Below.alloc ?_ (by first | omega | (simp; done) | (simp; omega)) _))) hs5))) HOB.out).mono ?_; rw [← HSP.out]; rintro e w1 ⟨AS, cS, rfl, hoS, hb⟩; have OS := Lib.hid hoS; have HB1 := Lib.hid hb; clear hoS; have hsz : wr.heap.size ≤ w1.heap.size := (by have := hb.size; first | omega | (simp at this; omega)); obtain ⟨hc, hf, hlb⟩ := bcell3 hb; (try (have hz2 : wr.heap.size < w1.heap.size := (by have := hb.size; first | omega | (simp at this; omega)))))
                | (go_at_call 76; (try go_split_ands); refine (l1SetLess_any _ 0 AS 1 cS [(x.f, x.e)] sp _ (spans_one2 (by first | (simp; done) | exact cell_below HB1.out (by simp) (by simp)) (by first | (simp; done) | exact cell_below HB1.out (by simp) (by simp))) (by first | exact owns_spans OS.out | exact owns_spans (World.ownsRow.alloc OS.out _)) (by first | (simp; done) | (simp; omega) | (have := HB1.out.size; simp at this; omega)) HSO1.out HSO.out).mono ?_; rw [← HBS.out]; rintro e w2' ⟨AL, cL, rfl, hoL, hb⟩; have OLs := Lib.hid (ownsBase (base' := wr.heap.size) hoL (by first | omega | (simp; omega) | (have := HB1.out.size; simp at this ⊢; omega))); clear hoL; have hsz2 : wr.heap.size ≤ w2'.heap.size := (by have := hb.size; first | omega | (simp at this; omega) | (have h2 := HB1.out.size; simp at this h2; omega))))
            all_goals (go_wp2_with fail; go_meet; unfold AtBad; rename_i hH; exact ⟨AL, cL, rfl, OLs.out, hH.2.2.2.2⟩)
          case rest =>
            obtain ⟨AL, cL, rfl, hol, hbM⟩ := hcut
            have O4 := Lib.hid (ownsKeep HownO.out hbM)
            have B4 := Lib.hid (BR.out.trans (hbM.mono hs5))
            have SL4 := Lib.hid (owns_spans hol)
            have HNE := Lib.hid (show ∀ g o, AL = some ⟨g, o, none⟩ → u6.ownBlock ≠ some g ∧ g < wc.heap.size from fun g o e => by
              have h1 := owns_block hol g o e
              refine ⟨fun e2 => ?_, h1⟩
              have h2 := (HownO.out.lt g e2).2
              subst e
              have h3 := (hol.lt g rfl).1
              omega)
            clear hol hbM BR HownO c0 c1 c2 c3 hb0 hq0
            go_wp2
            go_loopw [6, 9] (fun v jv wi => ∃ j : Nat, j ≤ ls.length ∧ jv = .int .i64 j ∧ wi.ownsRow w.heap.size 70 4 v (pre ++ (ls.take j).map (badOne x.k x.t)).length (flatOf rowC (pre ++ (ls.take j).map (badOne x.k x.t))) ∧ Spans wi AL ls ∧ (∀ g o, AL = some ⟨g, o, none⟩ → v.ownBlock ≠ some g ∧ g < wi.heap.size) ∧ Below w.heap.size w wi) (fun _ jv _ => ls.length - (intOf jv).toNat)
            case atStart => exact ⟨0, Nat.zero_le _, rfl, by simpa using O4.out, SL4.out, HNE.out, B4.out⟩
            case round =>
              obtain ⟨j, hj, rfl, hown2, hsp, hne2, hbi⟩ := hrel
              have HSPi := Lib.hid hsp
              have HNi := Lib.hid hne2
              clear hsp hne2
              by_cases hlt2 : j < ls.length
              · obtain ⟨g, og, eL, hcells⟩ := HSPi.out (by omega)
                subst eL
                obtain ⟨hne, hg2⟩ := HNi.out g og rfl
                obtain ⟨f0, f1⟩ := hcells j hlt2
                obtain ⟨b0', off', x', eA, hb0, hx', c0, c1, c2, c3⟩ := (HX.out.below hbi).at_ hlt
                obtain ⟨b9, off9, eB, hb9, _⟩ := HX.out (by omega)
                injection eA with eA
                injection eA with e1 e2 _
                subst e1 e2
                injection eB with eB
                injection eB with e1 e2 _
                subst e1 e2
                obtain rfl : x = x' := by have := HXI.out; rw [hx'] at this; injection this with h; exact h.symm
                have HT2 := Lib.hid (badOne_take (k := x.k) (t := x.t) hlt2)
                obtain ⟨p, hp⟩ : ∃ p, ls.getD j (0, 0) = p := ⟨_, rfl⟩
                rw [hp] at f0 f1 HT2
                obtain ⟨p1, p2⟩ := p
                obtain ⟨o2, ho2⟩ : ∃ o2, pre ++ (ls.take j).map (badOne x.k x.t) = o2 := ⟨_, rfl⟩
                have hl2' : o2.length ≤ 2500 := by rw [← ho2, List.length_append, List.length_map, List.length_take]; omega
                rw [ho2] at hown2
                have HO2 := Lib.hid ho2
                have O5 := Lib.hid hown2
                have hsi := hbi.size
                have ab : u6.ownBlock ≠ some b0 := fun e => by have := (O5.out.lt b0 e).1; omega
                have j0 : (0 : Int) ≤ (j : Int) := Int.natCast_nonneg _
                have j1 : (j : Int) < (ls.length : Int) := by omega
                have BI := Lib.hid hbi
                clear hcells hp ho2 hown2 hbi hx' c2 c3
                go_upto_region 11 with fail
                go_region_held3 (fun w' => w'.cell? ⟨b0, off + i * 4, none⟩ = some (.string x.k) ∧ w'.cell? ⟨b0, off + i * 4 + 1, none⟩ = some (.string x.t) ∧ w'.cell? ⟨g, og + j * 2, none⟩ = some (.int .i64 p1) ∧ w'.cell? ⟨g, og + j * 2 + 1, none⟩ = some (.int .i64 p2))
                  (first
                    | go_keep
                    | (go_split_ands
                       refine ⟨?_, ?_, ?_, ?_⟩
                       · (rw [hgrow.cell_far _ (by simp; omega) (Ne.symm ab)]; assumption)
                       · (rw [hgrow.cell_far _ (by simp; omega) (Ne.symm ab)]; assumption)
                       · (rw [hgrow.cell_far _ (by simp; omega) (Ne.symm hne)]; assumption)
                       · (rw [hgrow.cell_far _ (by simp; omega) (Ne.symm hne)]; assumption)))
                  ((refine step_append_lies _ (by rfl) _ _ _ (by rfl) w.heap.size 70 i0 _ 4 48 Try.underlying23 Hi.out Hz0.out Hz1.out Hz2.out rfl (by omega) u6 o2.length (flatOf rowC o2) (by rfl) ((O5.out.alloc _).drew)
                      ⟨wr.heap.size, 0, none⟩ 1 1 [.string x.k, .string x.t, .int .i64 p1, .int .i64 p2] (by rfl) (by rfl) (World.news_of_block (cs := #[.string x.k, .string x.t, .int .i64 p1, .int .i64 p2]) (t := 70) (fr := (0, 0)) (heap_alloc_new wr _)) (by simp [Value.oneCell'])
                      (by omega) (by unfold maxLen; omega) (by omega) (by simp; omega) (wr.heap.size + 1) (by simp) ?_; intro gg cap1 w3 hown' hgrow hat hlt3))
                have O6 := Lib.hid (show w3.ownsRow w.heap.size 70 4 (.slice (some ⟨gg, 0, none⟩) (o2.length + 1) cap1) (o2 ++ [badOne x.k x.t (p1, p2)]).length (flatOf rowC (o2 ++ [badOne x.k x.t (p1, p2)])) from by rw [flatOf_append, flatOf_one, List.length_append, List.length_singleton]; exact hown')
                have B6 := Lib.hid (((BI.out.alloc hsi _).drew).grown hgrow (by simp; omega) (fun i e => by have := (O5.out.lt i e).1; omega))
                have hgg : gg ≠ g := by
                  rintro rfl
                  rcases hat with h | h
                  · exact hne h
                  · omega
                have SP6 := Lib.hid (show Spans w3 (some ⟨g, og, none⟩) ls from fun hn => by
                  obtain ⟨b', off', e', hcells⟩ := HSPi.out hn
                  injection e' with e'
                  injection e' with e1' e2' e3'
                  subst e1' e2'
                  refine ⟨g, og, rfl, fun i hi => ?_⟩
                  obtain ⟨h0, h1⟩ := hcells i hi
                  have hsz : g < ((wr.alloc (.cells #[.string x.k, .string x.t, .int .i64 p1, .int .i64 p2] 70)).drew).heap.size := by simp; omega
                  exact ⟨(hgrow.cell_far ⟨g, og + i * 2, none⟩ hsz (Ne.symm hne)).trans ((World.cell?_alloc_lt _ _ _ hg2).trans h0), (hgrow.cell_far ⟨g, og + i * 2 + 1, none⟩ hsz (Ne.symm hne)).trans ((World.cell?_alloc_lt _ _ _ hg2).trans h1)⟩)
                have hg6 : g < w3.heap.size := by have := hgrow.size; simp at this; omega
                clear hown' hgrow hat
                go_wp2
                go_roundw
                case rel =>
                  refine ⟨j + 1, by omega, by go_num, (by rw [HT2.out, ← List.append_assoc, HO2.out]; exact O6.out), SP6.out, fun g' o' e => ?_, B6.out⟩
                  injection e with e
                  injection e with e1 e2 _
                  subst e1
                  exact ⟨by simpa [Value.ownBlock] using hgg, hg6⟩
                case measure => simp [intOf]; omega
              · obtain rfl : j = ls.length := by omega
                rw [List.take_length, ← HLS.out, ← HTO.out] at hown2
                have O5 := Lib.hid hown2
                clear hown2
                go_wp2
                go_roundw
                case rel => exact ⟨i + 1, by omega, by go_num, O5.out, hbi⟩
                case measure => simp [intOf]; omega
        · obtain rfl : i = a.length := by omega
          rw [List.take_length] at HownO
          obtain ⟨XS, hXS⟩ : ∃ XS, badAll a b = XS := ⟨_, rfl⟩
          rw [hXS] at HownO hpl SX HR
          clear hXS
          obtain ⟨AX, cX, hv⟩ := owns_sliceE HownO.out
          subst hv
          have OX := HownO
          have BX := Lib.hid hbr
          clear hbr
          go_wp2_with fail
          refine (l4Full_any w.heap.size AX cX XS _ OX.out (by omega) SX.out).mono ?_
          rintro e wZ ⟨AZ, cZ, rfl, ho, hb⟩
          rw [← HR.out] at ho ⊢
          have OZ := Lib.hid ho
          have BZ := Lib.hid (BX.out.trans (hb.mono BX.out.size))
          clear ho hb
          go_wp2
          refine bodyPost_ret (v := .tuple #[.slice AZ (relBadS a b).1.length cZ, .bool (relBadS a b).2]) (by simp [results, Try.results22, go_sem]) rfl ?_
          exact ⟨AZ, cZ, rfl, OZ.out, BZ.out⟩
end Go.Proofs.Ytphinkcfmdnpfaa
