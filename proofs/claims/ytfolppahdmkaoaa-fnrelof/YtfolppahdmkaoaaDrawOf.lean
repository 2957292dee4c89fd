/-
  Walks: rows drawn in any order, and in pieces.
-/
import Derived.Test.YtfolppahdmkaoaaDrawT
namespace Go.Proofs.Ytfolppahdmkaoaa
open Go.Shelf Go.RowKit Go.Lib Go.Sort

theorem grown_some {a b : World} {o : Option Nat} {N : Nat} (k : a.grownBy b o) (hg : ∀ g, o = some g → N ≤ g) (hN : N ≤ a.heap.size) : ∃ g, N ≤ g ∧ a.grownBy b (some g) := by
  cases o with
  | none => exact ⟨a.heap.size, hN, k.os, k.tape, k.output, k.size, fun j hj _ => k.block j hj (by simp)⟩
  | some g => exact ⟨g, hg g rfl, k⟩
theorem owns_set_farD {w : World} {base n g i : Nat} {v u : Value} {xs : List Value} {t : TypeId} {k : Nat} (h : w.ownsRow base t k v n xs) (hg : g < base) : (w.setCell ⟨g, i, none⟩ u).ownsRow base t k v n xs :=
  h.kept (row := some g) ⟨rfl, rfl, rfl, by simp [World.setCell], fun j _ hne => Below.heap_setCell _ _ _ _ (by show j ≠ g; intro e; exact hne (by rw [e]))⟩ (.inr fun e => by have := (h.lt g e).1; omega)
/-- Drawn rows, in memory of their own. -/
def DrawnRO (w : World) (e : Ending) (w' : World) : Prop :=
  ∃ (zs : List RowV) (A : Option Addr) (cap : Nat), e = .returned (.slice A zs.length cap) ∧ zs.length ≤ 48 ∧ Short zs ∧ w'.ownsRow w.heap.size 45 4 (.slice A zs.length cap) zs.length (flatOf rowC zs) ∧ Below w.heap.size w w'

set_option maxRecDepth 100000 in
set_option maxHeartbeats 8000000 in
theorem DrawRelOf_any (A : Option Addr) (cap : Nat) (bs : List Int) (w : World) (h : Bytes w w.heap.size A bs) (hc : bs.length ≤ cap) (hm : cap ≤ maxLen) :
    Calls Try.prog 25 #[.slice A bs.length cap] w (DrawnRO w) := by
  obtain ⟨i0, hi, hz0, hz1, hz2⟩ := info_parts Try.infoR45
  have Hi := Lib.hid hi
  have Hz0 := Lib.hid hz0
  have Hz1 := Lib.hid hz1
  have Hz2 := Lib.hid hz2
  clear hi hz0 hz1 hz2
  go_enter Try.func25, Try.ntmps25
  go_wp2_with fail
  refine (l20Open_any A cap bs _ h hc hm).mono ?_
  rintro e w1 ⟨zs0, rfl, hrd1, hb1⟩
  have hl1 := hrd1.lt
  have hs1 := hb1.size
  have HB1 := Lib.hid hb1
  clear h hb1
  obtain ⟨R, hR⟩ : ∃ R, w.heap.size = R := ⟨_, rfl⟩
  have HRw := Lib.hid hR
  first | rw [hR] at hrd1 hl1 ⊢ | skip
  clear hR
  go_wp2_with fail
  refine (pick_any _ zs0 0 _ _ hrd1 (by omega) (by omega) (by omega) (by omega)).mono ?_
  rintro e w2 ⟨v, rfl, v0, v1, hrd2, hgr2⟩
  have hs2 := hgr2.size
  clear hrd1
  by_cases e0 : v = 0
  · subst e0
    go_wp2_with fail
    refine (pick_any R zs0 (0 + 1) 6 _ (rd_alloc hrd2 _) (by omega) (by omega) (by omega) (by omega)).mono ?_
    rintro e w3 ⟨v, rfl, u0, u1, hrd3, hgr3⟩
    obtain ⟨m, rfl⟩ := Int.eq_ofNat_of_zero_le u0
    have ho0 : (w2.alloc (Obj.cells #[] 45)).ownsRow w1.heap.size 45 4 (.slice (some ⟨w2.heap.size, 0, none⟩) 0 0) 0 (flatOf rowC []) := by
      have := World.ownsRow_lit (base := w1.heap.size) (e := 45) (size := 4) w2 #[] 0 hs2 (by simp [maxLen]) (by simp)
      simpa [flatOf] using this
    have O3 := Lib.hid (ho0.kept hgr3 (owns_notR ho0 hl1))
    have G3 := Lib.hid (grown_trans (grown_alloc hgr2 _) hgr3)
    have R3 := Lib.hid hrd3
    clear ho0 hgr2 hgr3 hrd2 hrd3 hs2
    go_wp2
    go_loopw [4, 5] (fun v i wr => ∃ m : Nat, m ≤ 5 ∧ i = .int .i64 m ∧ ∃ (zs : List RowV) (p' : Int), zs.length + m ≤ 5 ∧ Short zs ∧ wr.ownsRow w1.heap.size 45 4 v zs.length (flatOf rowC zs) ∧ 0 ≤ p' ∧ p' + 11 * m ≤ 60 ∧ Rd wr R zs0 p' ∧ w1.grownBy wr (some R)) (fun _ i _ => (intOf i).toNat)
    case atStart => exact ⟨m, by omega, rfl, [], 0 + 1 + 1, by simp; omega, (fun y hy => by cases hy), O3.out, by omega, by omega, R3.out, G3.out⟩
    case round =>
      obtain ⟨j, hj, rfl, zs, p', hzl, hsh, hown, hpa, hpb, hrd, hgr⟩ := hrel
      obtain ⟨A5, c5, rfl⟩ := owns_formN hown
      have Hown := Lib.hid hown
      have HS := Lib.hid hsh
      clear hown hsh O3 G3 R3
      by_cases hj0 : 0 < j
      · go_wp2_with fail
        refine (l20AnyRow_any R zs0 p' _ hrd (by omega) (by omega)).mono ?_
        rintro e w4 ⟨r, rfl, hr, p4, hp4a, hp4b, hrd4, hgr4⟩
        have HRr := Lib.hid (short20 hr)
        have O4 := Lib.hid (Hown.out.kept hgr4 (owns_notR Hown.out hl1))
        have G4 := Lib.hid (grown_trans hgr hgr4)
        have R4 := Lib.hid hrd4
        have hs4 := G4.out.size
        clear hgr hgr4 hrd hrd4 Hown hr
        go_wp2_with (at_builtin; refine wpList_append_own _ rfl _ _ 27 rfl w1.heap.size 45 i0 _ 4 48 Try.underlying27 Hi.out Hz0.out Hz1.out Hz2.out rfl (by decide) _ zs.length (flatOf rowC zs) rfl (O4.out.alloc _) ⟨w4.heap.size, 0, none⟩ 1 1 [.string r.k, .string r.t, .int .i64 r.f, .int .i64 r.e] rfl rfl (newsFour (by simp) (by simp) (by simp) (by simp)) (by simp [Value.oneCell']) (by unfold maxLen; omega) (by omega) (by simp; omega) ?_; intro v1 w9 ho1 hg1 hnil; obtain ⟨A1, k1, rfl⟩ := owns_formN ho1; have O9 := Lib.hid ho1; obtain ⟨g, hgg, hg2⟩ := grown_some hg1 (N := w1.heap.size) (fun g e => (O4.out.lt g e).1) (by simp; omega); have G9 := Lib.hid (grown_newR (grown_alloc G4.out _) hg2 hgg); have R9 := Lib.hid (rd_grownR (rd_alloc R4.out _) hg2 (by omega)); clear ho1 hg1 hg2 hnil)
        refine ⟨⟨j - 1, by omega, by go_num, zs ++ [r], p4, by simp; omega, short_snoc HS.out HRr.out, ?_, by omega, by omega, R9.out, G9.out⟩, ?_⟩
        · rw [flatOf_append, flatOf_one, List.length_append, List.length_singleton]
          exact O9.out
        · simp [intOf]; omega
      · have hj1 : j = 0 := by omega
        subst hj1
        go_wp2
        go_ret
        exact ⟨zs, A5, c5, rfl, by omega, HS.out, owns_baseE Hown.out hs1, grown_below HB1.out hgr (Nat.le_of_eq HRw.out)⟩
  · have e0' : (v == 0) = false := by simpa using e0
    clear e0
    go_wp2_with fail
    refine (l20Rel_any _ zs0 _ _ hrd2 (by omega) (by omega)).mono ?_
    rintro e w3 ⟨t, A3, c3, rfl, hll, hsh, hol, p', hpa, hpb, hrd3, hgr3⟩
    have HT := Lib.hid hsh
    have RT := Lib.hid (show RowsA w3 A3 t from el_of_owns rowC_len hol)
    have B3 := Lib.hid (grown_below HB1.out (grown_trans hgr2 hgr3) (Nat.le_of_eq HRw.out))
    clear hsh hol hrd3 hgr3 hgr2 hrd2 hpa hpb hs2 HB1 hl1 hs1
    go_wp2
    generalize hW : w3.alloc _ = W0
    have B0 := Lib.hid (show Below w3.heap.size w3 W0 from by rw [← hW]; exact (Below.refl _ _).alloc (Nat.le_refl _) _)
    have OL := Lib.hid (show W0.ownsRow w3.heap.size 45 4 (.slice (some ⟨w3.heap.size, 0, none⟩) 0 0) 0 (flatOf rowC []) from by
      rw [← hW]; have := World.ownsRow_lit (base := w3.heap.size) (e := 45) (size := 4) w3 #[] 0 (Nat.le_refl _) (by simp [maxLen]) (by simp); simpa [flatOf] using this)
    clear hW
    go_loopw [7, 8] (fun v i wr => ∃ k : Nat, k ≤ t.length ∧ i = .int .i64 k ∧ ∃ zs : List RowV, zs.length ≤ 2 * k ∧ Short zs ∧ wr.ownsRow w3.heap.size 45 4 v zs.length (flatOf rowC zs) ∧ Below w3.heap.size w3 wr) (fun _ i _ => t.length - (intOf i).toNat)
    case atStart => exact ⟨0, Nat.zero_le _, rfl, [], by simp, (fun y hy => by cases hy), OL.out, B0.out⟩
    case round =>
      obtain ⟨k, hk, rfl, zs, hzl, hsh, hown, hbr⟩ := hrel
      obtain ⟨A5, c5, rfl⟩ := owns_formN hown
      have Hown := Lib.hid hown
      have HS := Lib.hid hsh
      clear hown hsh OL B0
      have hs5 := hbr.size
      by_cases hlt : k < t.length
      · obtain ⟨b, off, x, e1, hb, hx, c0, c1, c2, c3'⟩ := (RT.out.below hbr).at_ hlt
        have HXS := Lib.hid (HT.out x (List.mem_of_getElem? hx))
        subst e1
        have hkz : (k : Int) < (t.length : Int) := by omega
        have hkz0 : (0 : Int) ≤ (k : Int) := by omega
        clear hx
        go_upto_region 15 with fail
        generalize hW1 : wr.alloc _ = W1
        have v0 : W1.cell? ⟨wr.heap.size, 0, none⟩ = some (.string x.k) := by rw [← hW1]; simp [go_sem]
        have v1 : W1.cell? ⟨wr.heap.size, 1, none⟩ = some (.string x.t) := by rw [← hW1]; simp [go_sem]
        have v2 : W1.cell? ⟨wr.heap.size, 2, none⟩ = some (.int .i64 x.f) := by rw [← hW1]; simp [go_sem]
        have v3 : W1.cell? ⟨wr.heap.size, 3, none⟩ = some (.int .i64 x.e) := by rw [← hW1]; simp [go_sem]
        have fr : ∀ q, W1.frozen? ⟨wr.heap.size, q, none⟩ = false := fun q => by rw [← hW1]; simp [go_sem]
        have hBW : Below wr.heap.size wr W1 := by rw [← hW1]; exact (Below.refl _ _).alloc (Nat.le_refl _) _
        have lV : wr.heap.size < W1.heap.size := by rw [← hW1]; simp
        have O1 := Lib.hid (ownsKeep Hown.out hBW)
        have hB1 := hbr.trans (hBW.mono hbr.size)
        have hVO : ∀ i, (Value.slice A5 zs.length c5).ownBlock = some i → i < wr.heap.size := fun i e => (Hown.out.lt i e).2
        obtain ⟨V, hV⟩ : ∃ V, wr.heap.size = V := ⟨_, rfl⟩
        rw [hV] at v0 v1 v2 v3 fr lV hVO hs5 ⊢
        clear hW1 hBW hbr hV c0 c1 c2 c3' hb Hown
        have hs6 := hB1.size
        by_cases hgt : 1 < wrap64 (x.e - x.f)
        · go_upto_region 17 with fail
          obtain ⟨mid, hmid⟩ : ∃ mid, wrap64 (x.f + 1) = mid := ⟨_, rfl⟩
          rw [hmid]
          clear hmid hgt
          have OL := Lib.hid (show (W1.alloc (.cells #[.string x.k, .string x.t, .int .i64 mid, .int .i64 x.e] 45)).ownsRow W1.heap.size 45 4 (.slice (some ⟨W1.heap.size, 0, none⟩) 1 1) 1 (flatOf rowC [⟨x.k, x.t, mid, x.e⟩]) from by
            have := World.ownsRow_lit (base := W1.heap.size) (e := 45) (size := 4) W1 #[.string x.k, .string x.t, .int .i64 mid, .int .i64 x.e] 1 (Nat.le_refl _) (by simp [maxLen]) (by simp)
            simpa [flatOf, rowC] using this)
          have SL := Lib.hid (src_below (rowsA_own O1.out rfl) (owns_nilcap O1.out) ((Below.refl W1.heap.size W1).alloc (Nat.le_refl _) (.cells #[.string x.k, .string x.t, .int .i64 mid, .int .i64 x.e] 45)))
          go_upto_region 18 with (at_builtin; refine wpList_append_src _ rfl _ _ 27 rfl W1.heap.size 45 i0 _ 48 Try.underlying27 Hi.out Hz0.out Hz1.out Hz2.out rfl (.slice (some ⟨W1.heap.size, 0, none⟩) 1 1) 1 [⟨x.k, x.t, mid, x.e⟩] rfl OL.out _ zs rfl SL.out (by unfold maxLen; omega) (by omega) (by simp) ?_; intro v1' w9 ho1 hg1; obtain ⟨A1, k1, rfl⟩ := owns_formN ho1; have O9 := Lib.hid ho1; have G9 := Lib.hid (show (W1.alloc (.cells #[.string x.k, .string x.t, .int .i64 mid, .int .i64 x.e] 45)).grownBy w9 (some W1.heap.size) from hg1); clear ho1 hg1)
          have u0 := grown_cell G9.out (by omega) (cell_alloc_far (x := .cells #[.string x.k, .string x.t, .int .i64 mid, .int .i64 x.e] 45) v0)
          have u1 := grown_cell G9.out (by omega) (cell_alloc_far (x := .cells #[.string x.k, .string x.t, .int .i64 mid, .int .i64 x.e] 45) v1)
          have u2 := grown_cell G9.out (by omega) (cell_alloc_far (x := .cells #[.string x.k, .string x.t, .int .i64 mid, .int .i64 x.e] 45) v2)
          have u3 := grown_cell G9.out (by omega) (cell_alloc_far (x := .cells #[.string x.k, .string x.t, .int .i64 mid, .int .i64 x.e] 45) v3)
          have fu : ∀ q, w9.frozen? ⟨V, q, none⟩ = false := fun q => ((gcell G9.out).2 _ _ (by simp; omega) (by omega)).trans ((((Below.refl W1.heap.size W1).alloc (Nat.le_refl _) (.cells #[.string x.k, .string x.t, .int .i64 mid, .int .i64 x.e] 45)).frozen (p := ⟨V, q, none⟩) lV).trans (fr q))
          have B9 := Lib.hid ((hB1.alloc hs6 _).grown G9.out (by simp; omega) (fun i e => by injection e with e; omega))
          have hV9 : V < w9.heap.size := World.block_lt_of_cell? _ _ u0
          clear OL SL G9 v0 v1 v2 v3 fr O1 hB1 hVO
          go_upto_region 19 with fail
          have O10 := Lib.hid (owns_baseE (owns_set_farD (i := 3) (u := .int .i64 mid) O9.out lV) hs6)
          have BW := Lib.hid (B9.out.setCell (show w3.heap.size ≤ (⟨V, 3, none⟩ : Addr).block from hs5) (.int .i64 mid))
          generalize hW2 : w9.setCell ⟨V, 3, none⟩ (.int .i64 mid) = W2 at *
          have t0 : W2.cell? ⟨V, 0, none⟩ = some (.string x.k) := by rw [← hW2]; simp [go_sem, u0]
          have t1 : W2.cell? ⟨V, 1, none⟩ = some (.string x.t) := by rw [← hW2]; simp [go_sem, u1]
          have t2 : W2.cell? ⟨V, 2, none⟩ = some (.int .i64 x.f) := by rw [← hW2]; simp [go_sem, u2]
          have t3 : W2.cell? ⟨V, 3, none⟩ = some (.int .i64 mid) := by rw [← hW2]; simp [go_sem, u3]
          have hs7 := BW.out.size
          clear hW2 u0 u1 u2 u3 fu O9 B9
          go_wp2_with (at_builtin; refine wpList_append_own _ rfl _ _ 27 rfl w3.heap.size 45 i0 _ 4 48 Try.underlying27 Hi.out Hz0.out Hz1.out Hz2.out rfl (by decide) _ (1 + zs.length) (flatOf rowC ([⟨x.k, x.t, mid, x.e⟩] ++ zs)) rfl (O10.out.alloc _) ⟨W2.heap.size, 0, none⟩ 1 1 [.string x.k, .string x.t, .int .i64 x.f, .int .i64 mid] rfl rfl (newsFour (by simp) (by simp) (by simp) (by simp)) (by simp [Value.oneCell']) (by unfold maxLen; omega) (by omega) (by simp; omega) ?_; intro v' w10 hown' hgrow hnil; have O11 := Lib.hid hown'; have B11 := Lib.hid ((BW.out.alloc hs7 _).grown hgrow (by simp; omega) (fun i e => by have := (O10.out.lt i e).1; omega)); clear hown' hgrow hnil)
          refine ⟨⟨k + 1, by omega, by go_num, [⟨x.k, x.t, mid, x.e⟩] ++ zs ++ [⟨x.k, x.t, x.f, mid⟩], by simp; omega, ?_, ?_, B11.out⟩, ?_⟩
          · intro y hy
            simp only [List.mem_append, List.mem_singleton] at hy
            rcases hy with (rfl | hy) | rfl
            · exact HXS.out
            · exact HS.out y hy
            · exact HXS.out
          · rw [flatOf_append, flatOf_one, List.length_append, List.length_append, List.length_singleton, List.length_singleton]
            exact O11.out
          · simp [intOf]; omega
        · have hgt' : wrap64 (x.e - x.f) ≤ 1 := by omega
          have hgd : decide (1 < wrap64 (x.e - x.f)) = false := decide_eq_false hgt
          have BW := Lib.hid hB1
          clear hgt hB1
          go_upto_region 19 with fail
          go_wp2_with (at_builtin; refine wpList_append_own _ rfl _ _ 27 rfl w3.heap.size 45 i0 _ 4 48 Try.underlying27 Hi.out Hz0.out Hz1.out Hz2.out rfl (by decide) _ zs.length (flatOf rowC zs) rfl (O1.out.alloc _) ⟨W1.heap.size, 0, none⟩ 1 1 [.string x.k, .string x.t, .int .i64 x.f, .int .i64 x.e] rfl rfl (newsFour (by simp) (by simp) (by simp) (by simp)) (by simp [Value.oneCell']) (by unfold maxLen; omega) (by omega) (by simp; omega) ?_; intro v' w10 hown' hgrow hnil; have O10 := Lib.hid hown'; have B10 := Lib.hid ((BW.out.alloc hs6 _).grown hgrow (by simp; omega) (fun i e => by have := (O1.out.lt i e).1; omega)); clear hown' hgrow hnil)
          refine ⟨⟨k + 1, by omega, by go_num, zs ++ [x], by simp; omega, short_snoc HS.out HXS.out, ?_, B10.out⟩, ?_⟩
          · rw [flatOf_append, flatOf_one, List.length_append, List.length_singleton]
            exact O10.out
          · simp [intOf]; omega
      · obtain rfl : k = t.length := by omega
        go_wp2
        go_ret
        exact ⟨zs, A5, c5, rfl, by omega, HS.out, owns_baseE Hown.out B3.out.size, B3.out.trans (hbr.mono B3.out.size)⟩
end Go.Proofs.Ytfolppahdmkaoaa
