/-
  The walk of the law of a store that goes back (P59).
-/
import Derived.Test.YtacddgipcafdlaaDrawSg
import Derived.Test.YtacddgipcafdlaaVaR
import Derived.Test.YtacddgipcafdlaaVaS
import Derived.Test.YtacddgipcafdlaaStoV
import Derived.Test.YtacddgipcafdlaaStoBk
import Derived.Test.YtacddgipcafdlaaStoDg
namespace Go.Proofs.Ytacddgipcafdlaa
open Go.Shelf Go.RowKit Go.Lib Go.Sort

theorem besides_self (l : List RowV) : besides l l = [] := by
  unfold besides
  rw [List.filter_eq_nil_iff]
  intro x hx
  simp [hasR_iff.2 hx]

set_option maxRecDepth 100000 in
set_option maxHeartbeats 8000000 in
theorem FnStoreBack_any (A : Option Addr) (n cap : Nat) (bs : List Int) (w : World) (hz : Bytes w w.heap.size A bs ∧ bs.length = n ∧ n ≤ cap ∧ cap ≤ maxLen) :
    Calls Try.prog 12 #[.slice A n cap] w fun e w' => e = .returned (.bool true) ∧ Below w.heap.size w w' := by
  obtain ⟨hz, rfl, hc, hm⟩ := hz
  have hm' := hm
  unfold maxLen at hm'
  by_cases hl : (1048576 : Int) < bs.length
  · go_enter Try.func12, Try.ntmps12
    go_wp2
    go_ret
    exact ⟨rfl, Below.refl _ _⟩
  go_enter Try.func12, Try.ntmps12
  go_wp2_with fail
  refine (DrawStoreBack_any A cap bs w hz hc hm).mono ?_
  rintro e w1 ⟨zs, now, A2, c2, st, rfl, hst, hzl, hsh, hnow, ho, hb1⟩
  have HS := Lib.hid hsh
  have O1 := Lib.hid ho
  clear hz hm hm' hc hsh ho
  have htl := storeAtL_len zs now st
  have hyl := back_len zs now st
  obtain ⟨tl, ht⟩ : ∃ tl, storeAtL zs now st = tl := ⟨_, rfl⟩
  have HT := Lib.hid ht
  rw [ht] at htl
  obtain ⟨n', ys, ok, hq⟩ : ∃ n' ys ok, backL zs now st = (n', ys, ok) := ⟨_, _, _, rfl⟩
  have HQ := Lib.hid hq
  rw [hq] at hyl
  replace hyl : ys.length ≤ zs.length + zs.length := hyl
  clear ht hq
  have B1 := Lib.hid hb1
  have Zs := Lib.hid (show VersA w1 A2 zs from el_of_owns verC_len O1.out)
  have HA2 := Lib.hid (owns_addrV O1.out)
  have HN2 := Lib.hid (owns_nilcap O1.out)
  clear hb1 O1
  go_wp2_with fail
  generalize hW : w1.alloc _ = Ws
  have cs0 : Ws.cell? ⟨w1.heap.size, 0, none⟩ = some (.int .i64 now) := by rw [← hW]; simp [go_sem]
  have cs1 : Ws.cell? ⟨w1.heap.size, 1, none⟩ = some (.slice A2 zs.length c2) := by rw [← hW]; simp [go_sem]
  have ls : w1.heap.size < Ws.heap.size := by rw [← hW]; simp
  have hb : Below w1.heap.size w1 Ws := by rw [← hW]; exact (Below.refl _ _).alloc (Nat.le_refl _) _
  have ZWs := Lib.hid (Zs.out.below hb)
  clear Zs
  have BWs := Lib.hid (B1.out.trans (hb.mono B1.out.size))
  clear hb B1
  generalize w1.heap.size = Gs at *
  clear hW
  refine (StoreBack_any A2 c2 zs now st _ ZWs.out HA2.out HN2.out (by omega) HS.out).mono ?_
  rw [HQ.out]
  rintro e v1 ⟨AX, cX, rfl, ho, hb⟩
  have Xv1 := Lib.hid (show VersA v1 AX ys from el_of_owns verC_len (show v1.ownsRow _ 74 6 (.slice AX ys.length cX) ys.length (flatOf verC ys) from ho))
  clear ho
  replace cs0 := cellBelow hb ls cs0
  replace cs1 := cellBelow hb ls cs1
  replace ls := Nat.lt_of_lt_of_le ls hb.size
  have Zv1 := Lib.hid (ZWs.out.below hb)
  clear ZWs
  have Bv1 := Lib.hid (BWs.out.trans (hb.mono BWs.out.size))
  clear hb BWs
  go_wp2_with fail
  generalize hW : v1.alloc _ = Wx
  have cx0 : Wx.cell? ⟨v1.heap.size, 0, none⟩ = some (.int .i64 n') := by rw [← hW]; simp [go_sem]
  have cx1 : Wx.cell? ⟨v1.heap.size, 1, none⟩ = some (.slice AX ys.length cX) := by rw [← hW]; simp [go_sem]
  have lx : v1.heap.size < Wx.heap.size := by rw [← hW]; simp
  have hb : Below v1.heap.size v1 Wx := by rw [← hW]; exact (Below.refl _ _).alloc (Nat.le_refl _) _
  replace cs0 := cellBelow hb ls cs0
  replace cs1 := cellBelow hb ls cs1
  replace ls := Nat.lt_of_lt_of_le ls hb.size
  have ZWx := Lib.hid (Zv1.out.below hb)
  clear Zv1
  have XWx := Lib.hid (Xv1.out.below hb)
  clear Xv1
  have BWx := Lib.hid (Bv1.out.trans (hb.mono Bv1.out.size))
  clear hb Bv1
  generalize v1.heap.size = Gx at *
  clear hW
  refine (sStoreBack_any A2 c2 zs now st _ ZWx.out HA2.out HN2.out (by omega) HS.out).mono ?_
  rw [HQ.out]
  rintro e v2 ⟨AY, cY, rfl, ho, hb⟩
  have Yv2 := Lib.hid (show VersA v2 AY ys from el_of_owns verC_len (show v2.ownsRow _ 74 6 (.slice AY ys.length cY) ys.length (flatOf verC ys) from ho))
  clear ho
  replace cs0 := cellBelow hb ls cs0
  replace cs1 := cellBelow hb ls cs1
  replace ls := Nat.lt_of_lt_of_le ls hb.size
  replace cx0 := cellBelow hb lx cx0
  replace cx1 := cellBelow hb lx cx1
  replace lx := Nat.lt_of_lt_of_le lx hb.size
  have Zv2 := Lib.hid (ZWx.out.below hb)
  clear ZWx
  have Xv2 := Lib.hid (XWx.out.below hb)
  clear XWx
  have Bv2 := Lib.hid (BWx.out.trans (hb.mono BWx.out.size))
  clear hb BWx
  go_wp2_with fail
  generalize hW : v2.alloc _ = Wy
  have cy0 : Wy.cell? ⟨v2.heap.size, 0, none⟩ = some (.int .i64 n') := by rw [← hW]; simp [go_sem]
  have cy1 : Wy.cell? ⟨v2.heap.size, 1, none⟩ = some (.slice AY ys.length cY) := by rw [← hW]; simp [go_sem]
  have ly : v2.heap.size < Wy.heap.size := by rw [← hW]; simp
  have hb : Below v2.heap.size v2 Wy := by rw [← hW]; exact (Below.refl _ _).alloc (Nat.le_refl _) _
  replace cs0 := cellBelow hb ls cs0
  replace cs1 := cellBelow hb ls cs1
  replace ls := Nat.lt_of_lt_of_le ls hb.size
  replace cx0 := cellBelow hb lx cx0
  replace cx1 := cellBelow hb lx cx1
  replace lx := Nat.lt_of_lt_of_le lx hb.size
  have ZWy := Lib.hid (Zv2.out.below hb)
  clear Zv2
  have XWy := Lib.hid (Xv2.out.below hb)
  clear Xv2
  have YWy := Lib.hid (Yv2.out.below hb)
  clear Yv2
  have BWy := Lib.hid (Bv2.out.trans (hb.mono Bv2.out.size))
  clear hb Bv2
  generalize v2.heap.size = Gy at *
  clear hW
  cases ok
  · skip
    go_wp2_with fail
    refine (vaStore_same AX AY cX cY _ _ _ XWy.out YWy.out (by unfold maxLen; omega)).mono ?_
    rintro e v3 ⟨rfl, hb⟩
    replace cs0 := cellBelow hb ls cs0
    replace cs1 := cellBelow hb ls cs1
    replace ls := Nat.lt_of_lt_of_le ls hb.size
    replace cx0 := cellBelow hb lx cx0
    replace cx1 := cellBelow hb lx cx1
    replace lx := Nat.lt_of_lt_of_le lx hb.size
    replace cy0 := cellBelow hb ly cy0
    replace cy1 := cellBelow hb ly cy1
    replace ly := Nat.lt_of_lt_of_le ly hb.size
    have Zv3 := Lib.hid (ZWy.out.below hb)
    clear ZWy
    have Xv3 := Lib.hid (XWy.out.below hb)
    clear XWy
    have Yv3 := Lib.hid (YWy.out.below hb)
    clear YWy
    have Bv3 := Lib.hid (BWy.out.trans (hb.mono BWy.out.size))
    clear hb BWy
    go_wp2_with fail
    refine (vaStore_same AX AY cX cY _ _ _ Xv3.out Yv3.out (by unfold maxLen; omega)).mono ?_
    rintro e v4 ⟨rfl, hb⟩
    replace cs0 := cellBelow hb ls cs0
    replace cs1 := cellBelow hb ls cs1
    replace ls := Nat.lt_of_lt_of_le ls hb.size
    replace cx0 := cellBelow hb lx cx0
    replace cx1 := cellBelow hb lx cx1
    replace lx := Nat.lt_of_lt_of_le lx hb.size
    replace cy0 := cellBelow hb ly cy0
    replace cy1 := cellBelow hb ly cy1
    replace ly := Nat.lt_of_lt_of_le ly hb.size
    have Zv4 := Lib.hid (Zv3.out.below hb)
    clear Zv3
    have Xv4 := Lib.hid (Xv3.out.below hb)
    clear Xv3
    have Yv4 := Lib.hid (Yv3.out.below hb)
    clear Yv3
    have Bv4 := Lib.hid (Bv3.out.trans (hb.mono Bv3.out.size))
    clear hb Bv3
    go_wp2
    go_ret
    exact ⟨rfl, Bv4.out⟩
  obtain ⟨hsb, hgo, h1, h2⟩ : storeB zs now = true ∧ goesB zs now tl ∧ n' = now + 1 ∧ ys = setL zs now tl := by
    have := HQ.out
    rw [backL, HT.out, setP] at this
    split at this
    · rename_i hsb
      split at this
      · rename_i hg
        injection this with a b
        injection b with b c
        exact ⟨hsb, hg, a.symm, b.symm⟩
      · injection this with _ b
        injection b with _ c
        cases c
    · injection this with _ b
      injection b with _ c
      cases c
  subst h1
  have hn30 := (storeB_iff.1 hsb).1
  have HOKY := Lib.hid (show storeB ys (now + 1) = true from by rw [h2]; exact set_ok hsb hgo)
  have HYS := Lib.hid (store_shortV HOKY.out)
  have HNW := Lib.hid (show storeAtL ys (now + 1) (now + 1) = tl from by rw [h2]; exact set_new hsb hgo (Int.le_refl _))
  have HOL := Lib.hid (show ∀ k, k ≤ now → storeAtL ys (now + 1) k = storeAtL zs now k from fun k hk => by rw [h2]; exact set_at hsb hgo hk)
  have hal := storeAtL_len zs now now
  obtain ⟨al, hall⟩ : ∃ al, storeAtL zs now now = al := ⟨_, rfl⟩
  have HAL := Lib.hid hall
  rw [hall] at hal
  have HNO := Lib.hid (show storeAtL ys (now + 1) now = al from by rw [HOL.out now (Int.le_refl _), hall])
  clear hsb hgo h2 hall
  go_wp2_with fail
  refine (vaStore_same AX AY cX cY _ _ _ XWy.out YWy.out (by unfold maxLen; omega)).mono ?_
  rintro e v5 ⟨rfl, hb⟩
  replace cs0 := cellBelow hb ls cs0
  replace cs1 := cellBelow hb ls cs1
  replace ls := Nat.lt_of_lt_of_le ls hb.size
  replace cx0 := cellBelow hb lx cx0
  replace cx1 := cellBelow hb lx cx1
  replace lx := Nat.lt_of_lt_of_le lx hb.size
  replace cy0 := cellBelow hb ly cy0
  replace cy1 := cellBelow hb ly cy1
  replace ly := Nat.lt_of_lt_of_le ly hb.size
  have Zv5 := Lib.hid (ZWy.out.below hb)
  clear ZWy
  have Xv5 := Lib.hid (XWy.out.below hb)
  clear XWy
  have Yv5 := Lib.hid (YWy.out.below hb)
  clear YWy
  have Bv5 := Lib.hid (BWy.out.trans (hb.mono BWy.out.size))
  clear hb BWy
  by_cases hlt : st ≤ now
  · skip
    have HE := Lib.hid (show storeAtL ys (now + 1) st = tl from (HOL.out st hlt).trans HT.out)
    have hdn : decide (now < st) = false := decide_eq_false (by omega)
    go_wp2_with fail
    refine (StoreDiff_any AX cX ys (now + 1) st (now + 1) _ Xv5.out (by omega) HYS.out).mono ?_
    rw [HE.out, HNW.out, besides_self]
    rintro e v6 ⟨AG, cG, AC, cC, rfl, -, -, -, hb⟩
    replace cs0 := cellBelow hb ls cs0
    replace cs1 := cellBelow hb ls cs1
    replace ls := Nat.lt_of_lt_of_le ls hb.size
    replace cx0 := cellBelow hb lx cx0
    replace cx1 := cellBelow hb lx cx1
    replace lx := Nat.lt_of_lt_of_le lx hb.size
    replace cy0 := cellBelow hb ly cy0
    replace cy1 := cellBelow hb ly cy1
    replace ly := Nat.lt_of_lt_of_le ly hb.size
    have Zv6 := Lib.hid (Zv5.out.below hb)
    clear Zv5
    have Xv6 := Lib.hid (Xv5.out.below hb)
    clear Xv5
    have Yv6 := Lib.hid (Yv5.out.below hb)
    clear Yv5
    have Bv6 := Lib.hid (Bv5.out.trans (hb.mono Bv5.out.size))
    clear hb Bv5
    simp only [List.length_nil]
    have hq0 : Below v6.heap.size v6 v6 := Below.refl _ _
    go_upto_region 9 with fail
    go_region_held3 (fun w' => w'.cell? ⟨Gs, 0, none⟩ = some (.int .i64 now) ∧ w'.cell? ⟨Gs, 1, none⟩ = some (.slice A2 zs.length c2) ∧ w'.cell? ⟨Gx, 0, none⟩ = some (.int .i64 (now + 1)) ∧ w'.cell? ⟨Gx, 1, none⟩ = some (.slice AX ys.length cX) ∧ v6.heap.size ≤ w'.heap.size ∧ Below v6.heap.size v6 w')
      (((try go_split_ands); refine ⟨?cc90, ?cc91, ?cc92, ?cc93, ?sz9, ?bl9⟩; (case cc90 => (repeat (first | with_reducible assumption | with_reducible refine cell_below hb (by first | omega | (simp; done) | (simp; omega)) ?_ | with_reducible refine cell_set_far (by first | omega | (simp; done) | (simp; omega)) ?_ | with_reducible exact cell_alloc_swap (by with_reducible assumption) (by first | omega | (simp; done) | (simp; omega)) | with_reducible refine cell_alloc_far ?_ | with_reducible refine cell_drew ?_))); (case cc91 => (repeat (first | with_reducible assumption | with_reducible refine cell_below hb (by first | omega | (simp; done) | (simp; omega)) ?_ | with_reducible refine cell_set_far (by first | omega | (simp; done) | (simp; omega)) ?_ | with_reducible exact cell_alloc_swap (by with_reducible assumption) (by first | omega | (simp; done) | (simp; omega)) | with_reducible refine cell_alloc_far ?_ | with_reducible refine cell_drew ?_))); (case cc92 => (repeat (first | with_reducible assumption | with_reducible refine cell_below hb (by first | omega | (simp; done) | (simp; omega)) ?_ | with_reducible refine cell_set_far (by first | omega | (simp; done) | (simp; omega)) ?_ | with_reducible exact cell_alloc_swap (by with_reducible assumption) (by first | omega | (simp; done) | (simp; omega)) | with_reducible refine cell_alloc_far ?_ | with_reducible refine cell_drew ?_))); (case cc93 => (repeat (first | with_reducible assumption | with_reducible refine cell_below hb (by first | omega | (simp; done) | (simp; omega)) ?_ | with_reducible refine cell_set_far (by first | omega | (simp; done) | (simp; omega)) ?_ | with_reducible exact cell_alloc_swap (by with_reducible assumption) (by first | omega | (simp; done) | (simp; omega)) | with_reducible refine cell_alloc_far ?_ | with_reducible refine cell_drew ?_))); (case sz9 => (first | with_reducible assumption | (have := hb.size; omega) | omega | (simp; done) | (simp; omega) | (have := hb.size; simp at this ⊢; omega))); (case bl9 => (repeat (first | with_reducible assumption | with_reducible exact hq0 | with_reducible refine Below.drew ?_ | with_reducible refine Below.trans ?_ (hb.mono (by first | omega | (simp; done) | (simp; omega))) | with_reducible refine Below.setCell ?_ (by first | omega | (simp; done) | (simp; omega)) _ | with_reducible exact below_alloc_swap (by with_reducible assumption) (by first | omega | (simp; done) | (simp; omega)) | with_reducible refine Below.alloc ?_ (by first | omega | (simp; done) | (simp; omega)) _)))))
      (first
        | (go_at_call 50; (try go_split_ands); (with_reducible refine (StoreOk_any AX cX ys (now + 1) _ (Xv6.out.below (by (repeat (first | with_reducible assumption | with_reducible exact hq0 | with_reducible refine Below.drew ?_ | with_reducible refine Below.trans ?_ (hb.mono (by first | omega | (simp; done) | (simp; omega))) | with_reducible refine Below.setCell ?_ (by first | omega | (simp; done) | (simp; omega)) _ | with_reducible exact below_alloc_swap (by with_reducible assumption) (by first | omega | (simp; done) | (simp; omega)) | with_reducible refine Below.alloc ?_ (by first | omega | (simp; done) | (simp; omega)) _)))) (by omega) HYS.out).mono ?_); rw [HOKY.out]; rintro e wK ⟨rfl, hb⟩; have hszK : v6.heap.size ≤ wK.heap.size := (by have := hb.size; first | omega | (simp at this; omega)); obtain ⟨hcK, hfK, hlK⟩ := bcell3 hb)
        | (go_at_call 43; (try go_split_ands); (with_reducible refine (StoreAt_any AX cX ys (now + 1) (now + 1) _ (Xv6.out.below (by (repeat (first | with_reducible assumption | with_reducible exact hq0 | with_reducible refine Below.drew ?_ | with_reducible refine Below.trans ?_ (hb.mono (by first | omega | (simp; done) | (simp; omega))) | with_reducible refine Below.setCell ?_ (by first | omega | (simp; done) | (simp; omega)) _ | with_reducible exact below_alloc_swap (by with_reducible assumption) (by first | omega | (simp; done) | (simp; omega)) | with_reducible refine Below.alloc ?_ (by first | omega | (simp; done) | (simp; omega)) _)))) (by omega) HYS.out).mono ?_); rw [HNW.out]; rintro e wD1 ⟨AD1, cD1, rfl, ho, hb⟩; have RD1 := Lib.hid (rowsA_own ho rfl); clear ho; have hszD1 : v6.heap.size ≤ wD1.heap.size := (by have := hb.size; first | omega | (simp at this; omega)); obtain ⟨hcD1, hfD1, hlD1⟩ := bcell3 hb)
        | (go_at_call 43; (try go_split_ands); (with_reducible refine (StoreAt_any A2 c2 zs now st _ (Zv6.out.below (by (repeat (first | with_reducible assumption | with_reducible exact hq0 | with_reducible refine Below.drew ?_ | with_reducible refine Below.trans ?_ (hb.mono (by first | omega | (simp; done) | (simp; omega))) | with_reducible refine Below.setCell ?_ (by first | omega | (simp; done) | (simp; omega)) _ | with_reducible exact below_alloc_swap (by with_reducible assumption) (by first | omega | (simp; done) | (simp; omega)) | with_reducible refine Below.alloc ?_ (by first | omega | (simp; done) | (simp; omega)) _)))) (by omega) HS.out).mono ?_); rw [HT.out]; rintro e wD2 ⟨AD2, cD2, rfl, ho, hb⟩; have RD2 := Lib.hid (rowsA_own ho rfl); have RD1D2 := Lib.hid (RD1.out.below hb); clear ho; have hszD2 : v6.heap.size ≤ wD2.heap.size := (by have := hb.size; first | omega | (simp at this; omega)); obtain ⟨hcD2, hfD2, hlD2⟩ := bcell3 hb)
        | (go_at_call 44; (try go_split_ands); (with_reducible refine (vaRows_same AD1 AD2 cD1 cD2 tl _ RD1D2.out RD2.out (by unfold maxLen; omega)).mono ?_); rintro e wV1 ⟨rfl, hb⟩; have hszV1 : v6.heap.size ≤ wV1.heap.size := (by have := hb.size; first | omega | (simp at this; omega)); obtain ⟨hcV1, hfV1, hlV1⟩ := bcell3 hb)
        | (go_at_call 43; (try go_split_ands); (with_reducible refine (StoreAt_any AX cX ys (now + 1) now _ (Xv6.out.below (by (repeat (first | with_reducible assumption | with_reducible exact hq0 | with_reducible refine Below.drew ?_ | with_reducible refine Below.trans ?_ (hb.mono (by first | omega | (simp; done) | (simp; omega))) | with_reducible refine Below.setCell ?_ (by first | omega | (simp; done) | (simp; omega)) _ | with_reducible exact below_alloc_swap (by with_reducible assumption) (by first | omega | (simp; done) | (simp; omega)) | with_reducible refine Below.alloc ?_ (by first | omega | (simp; done) | (simp; omega)) _)))) (by omega) HYS.out).mono ?_); rw [HNO.out]; rintro e wD3 ⟨AD3, cD3, rfl, ho, hb⟩; have RD3 := Lib.hid (rowsA_own ho rfl); clear ho; have hszD3 : v6.heap.size ≤ wD3.heap.size := (by have := hb.size; first | omega | (simp at this; omega)); obtain ⟨hcD3, hfD3, hlD3⟩ := bcell3 hb)
        | (go_at_call 43; (try go_split_ands); (with_reducible refine (StoreAt_any A2 c2 zs now now _ (Zv6.out.below (by (repeat (first | with_reducible assumption | with_reducible exact hq0 | with_reducible refine Below.drew ?_ | with_reducible refine Below.trans ?_ (hb.mono (by first | omega | (simp; done) | (simp; omega))) | with_reducible refine Below.setCell ?_ (by first | omega | (simp; done) | (simp; omega)) _ | with_reducible exact below_alloc_swap (by with_reducible assumption) (by first | omega | (simp; done) | (simp; omega)) | with_reducible refine Below.alloc ?_ (by first | omega | (simp; done) | (simp; omega)) _)))) (by omega) HS.out).mono ?_); rw [HAL.out]; rintro e wD4 ⟨AD4, cD4, rfl, ho, hb⟩; have RD4 := Lib.hid (rowsA_own ho rfl); have RD3D4 := Lib.hid (RD3.out.below hb); clear ho; have hszD4 : v6.heap.size ≤ wD4.heap.size := (by have := hb.size; first | omega | (simp at this; omega)); obtain ⟨hcD4, hfD4, hlD4⟩ := bcell3 hb)
        | (go_at_call 44; (try go_split_ands); (with_reducible refine (vaRows_same AD3 AD4 cD3 cD4 al _ RD3D4.out RD4.out (by unfold maxLen; omega)).mono ?_); rintro e wV2 ⟨rfl, hb⟩; have hszV2 : v6.heap.size ≤ wV2.heap.size := (by have := hb.size; first | omega | (simp at this; omega)); obtain ⟨hcV2, hfV2, hlV2⟩ := bcell3 hb))
    all_goals (rename_i hH; have BV := Lib.hid (Bv6.out.trans (hH.2.2.2.2.2.mono Bv6.out.size)); clear hH)
    all_goals go_wp2
    all_goals go_ret
    all_goals exact ⟨rfl, BV.out⟩
  have hdn : decide (now < st) = true := decide_eq_true (by omega)
  go_wp2_with fail
  refine (StoreDiff_any AX cX ys (now + 1) st (now + 1) _ Xv5.out (by omega) HYS.out).mono ?_
  rintro e v7 ⟨AG, cG, AC, cC, rfl, -, -, -, hb⟩
  replace cs0 := cellBelow hb ls cs0
  replace cs1 := cellBelow hb ls cs1
  replace ls := Nat.lt_of_lt_of_le ls hb.size
  replace cx0 := cellBelow hb lx cx0
  replace cx1 := cellBelow hb lx cx1
  replace lx := Nat.lt_of_lt_of_le lx hb.size
  replace cy0 := cellBelow hb ly cy0
  replace cy1 := cellBelow hb ly cy1
  replace ly := Nat.lt_of_lt_of_le ly hb.size
  have Zv7 := Lib.hid (Zv5.out.below hb)
  clear Zv5
  have Xv7 := Lib.hid (Xv5.out.below hb)
  clear Xv5
  have Yv7 := Lib.hid (Yv5.out.below hb)
  clear Yv5
  have Bv7 := Lib.hid (Bv5.out.trans (hb.mono Bv5.out.size))
  clear hb Bv5
  generalize besides (storeAtL ys (now + 1) st) (storeAtL ys (now + 1) (now + 1)) = lg
  generalize besides (storeAtL ys (now + 1) (now + 1)) (storeAtL ys (now + 1) st) = lc
  have hq0 : Below v7.heap.size v7 v7 := Below.refl _ _
  go_upto_region 9 with fail
  refine wp_region_held_drew (S := (fun w' => w'.cell? ⟨Gs, 0, none⟩ = some (.int .i64 now) ∧ w'.cell? ⟨Gs, 1, none⟩ = some (.slice A2 zs.length c2) ∧ w'.cell? ⟨Gx, 0, none⟩ = some (.int .i64 (now + 1)) ∧ w'.cell? ⟨Gx, 1, none⟩ = some (.slice AX ys.length cX) ∧ v7.heap.size ≤ w'.heap.size ∧ Below v7.heap.size v7 w')) (by kernel_rfl) ?hS9 (fun hHeld0 => ?_)
  case hS9 => (try dsimp only); ((try go_split_ands); refine ⟨?cc90, ?cc91, ?cc92, ?cc93, ?sz9, ?bl9⟩; (case cc90 => (repeat (first | with_reducible assumption | with_reducible refine cell_below hb (by first | omega | (simp; done) | (simp; omega)) ?_ | with_reducible refine cell_set_far (by first | omega | (simp; done) | (simp; omega)) ?_ | with_reducible exact cell_alloc_swap (by with_reducible assumption) (by first | omega | (simp; done) | (simp; omega)) | with_reducible refine cell_alloc_far ?_ | with_reducible refine cell_drew ?_))); (case cc91 => (repeat (first | with_reducible assumption | with_reducible refine cell_below hb (by first | omega | (simp; done) | (simp; omega)) ?_ | with_reducible refine cell_set_far (by first | omega | (simp; done) | (simp; omega)) ?_ | with_reducible exact cell_alloc_swap (by with_reducible assumption) (by first | omega | (simp; done) | (simp; omega)) | with_reducible refine cell_alloc_far ?_ | with_reducible refine cell_drew ?_))); (case cc92 => (repeat (first | with_reducible assumption | with_reducible refine cell_below hb (by first | omega | (simp; done) | (simp; omega)) ?_ | with_reducible refine cell_set_far (by first | omega | (simp; done) | (simp; omega)) ?_ | with_reducible exact cell_alloc_swap (by with_reducible assumption) (by first | omega | (simp; done) | (simp; omega)) | with_reducible refine cell_alloc_far ?_ | with_reducible refine cell_drew ?_))); (case cc93 => (repeat (first | with_reducible assumption | with_reducible refine cell_below hb (by first | omega | (simp; done) | (simp; omega)) ?_ | with_reducible refine cell_set_far (by first | omega | (simp; done) | (simp; omega)) ?_ | with_reducible exact cell_alloc_swap (by with_reducible assumption) (by first | omega | (simp; done) | (simp; omega)) | with_reducible refine cell_alloc_far ?_ | with_reducible refine cell_drew ?_))); (case sz9 => (first | with_reducible assumption | (have := hb.size; omega) | omega | (simp; done) | (simp; omega) | (have := hb.size; simp at this ⊢; omega))); (case bl9 => (repeat (first | with_reducible assumption | with_reducible exact hq0 | with_reducible refine Below.drew ?_ | with_reducible refine Below.trans ?_ (hb.mono (by first | omega | (simp; done) | (simp; omega))) | with_reducible refine Below.setCell ?_ (by first | omega | (simp; done) | (simp; omega)) _ | with_reducible exact below_alloc_swap (by with_reducible assumption) (by first | omega | (simp; done) | (simp; omega)) | with_reducible refine Below.alloc ?_ (by first | omega | (simp; done) | (simp; omega)) _))))
  refine wpAnyH_take (i := 0) (oi := { dst := some 60, op := Op.load 26 (Operand.tmp 5), type := 26, pos := "laws.go:1389", after := #[], guard := none }) (v := ?va0) rfl (by kernel_rfl) (by kernel_rfl) (by kernel_rfl) (fun _ _ _ h => h) (Or.inl ⟨by rfl, ?hya0⟩) (by assumption) ?ra0
  case hya0 => (intro w hSw; (try dsimp only at hSw); go_simp; try with_reducible rfl)
  try simp only [Act.put, List.setIfInBounds_toArray, List.set_cons_zero, List.set_cons_succ]
  refine wpAnyH_ready (rs := [1]) (by kernel_rfl) (by simp) ?_
  refine AllReadyH.cons (o := { dst := some 61, op := Op.call { callee := Callee.value (Operand.func 50), args := #[Operand.tmp 60], argTypes := #[26] }, type := 4, pos := "laws.go:1389", after := #[{ on := 0, ground := Ground.data }], guard := none }) rfl (fun K hK => ?_) AllReadyH.nil
  go_simp
  (try go_split_ands)
  ((with_reducible refine (StoreOk_any AX cX ys (now + 1) _ (Xv7.out.below (by (repeat (first | with_reducible assumption | with_reducible exact hq0 | with_reducible refine Below.drew ?_ | with_reducible refine Below.trans ?_ (hb.mono (by first | omega | (simp; done) | (simp; omega))) | with_reducible refine Below.setCell ?_ (by first | omega | (simp; done) | (simp; omega)) _ | with_reducible exact below_alloc_swap (by with_reducible assumption) (by first | omega | (simp; done) | (simp; omega)) | with_reducible refine Below.alloc ?_ (by first | omega | (simp; done) | (simp; omega)) _)))) (by omega) HYS.out).mono ?_); rw [HOKY.out]; rintro e wK ⟨rfl, hb⟩; have hszK : v7.heap.size ≤ wK.heap.size := (by have := hb.size; first | omega | (simp at this; omega)); obtain ⟨hcK, hfK, hlK⟩ := bcell3 hb)
  try (go_wp2_with fail)
  refine hK.out _ _ ?hS91 (fun hHeld1 => ?_)
  case hS91 => (try dsimp only); ((try go_split_ands); refine ⟨?cc90, ?cc91, ?cc92, ?cc93, ?sz9, ?bl9⟩; (case cc90 => (repeat (first | with_reducible assumption | with_reducible refine cell_below hb (by first | omega | (simp; done) | (simp; omega)) ?_ | with_reducible refine cell_set_far (by first | omega | (simp; done) | (simp; omega)) ?_ | with_reducible exact cell_alloc_swap (by with_reducible assumption) (by first | omega | (simp; done) | (simp; omega)) | with_reducible refine cell_alloc_far ?_ | with_reducible refine cell_drew ?_))); (case cc91 => (repeat (first | with_reducible assumption | with_reducible refine cell_below hb (by first | omega | (simp; done) | (simp; omega)) ?_ | with_reducible refine cell_set_far (by first | omega | (simp; done) | (simp; omega)) ?_ | with_reducible exact cell_alloc_swap (by with_reducible assumption) (by first | omega | (simp; done) | (simp; omega)) | with_reducible refine cell_alloc_far ?_ | with_reducible refine cell_drew ?_))); (case cc92 => (repeat (first | with_reducible assumption | with_reducible refine cell_below hb (by first | omega | (simp; done) | (simp; omega)) ?_ | with_reducible refine cell_set_far (by first | omega | (simp; done) | (simp; omega)) ?_ | with_reducible exact cell_alloc_swap (by with_reducible assumption) (by first | omega | (simp; done) | (simp; omega)) | with_reducible refine cell_alloc_far ?_ | with_reducible refine cell_drew ?_))); (case cc93 => (repeat (first | with_reducible assumption | with_reducible refine cell_below hb (by first | omega | (simp; done) | (simp; omega)) ?_ | with_reducible refine cell_set_far (by first | omega | (simp; done) | (simp; omega)) ?_ | with_reducible exact cell_alloc_swap (by with_reducible assumption) (by first | omega | (simp; done) | (simp; omega)) | with_reducible refine cell_alloc_far ?_ | with_reducible refine cell_drew ?_))); (case sz9 => (first | with_reducible assumption | (have := hb.size; omega) | omega | (simp; done) | (simp; omega) | (have := hb.size; simp at this ⊢; omega))); (case bl9 => (repeat (first | with_reducible assumption | with_reducible exact hq0 | with_reducible refine Below.drew ?_ | with_reducible refine Below.trans ?_ (hb.mono (by first | omega | (simp; done) | (simp; omega))) | with_reducible refine Below.setCell ?_ (by first | omega | (simp; done) | (simp; omega)) _ | with_reducible exact below_alloc_swap (by with_reducible assumption) (by first | omega | (simp; done) | (simp; omega)) | with_reducible refine Below.alloc ?_ (by first | omega | (simp; done) | (simp; omega)) _))))
  clear hK K; try clear hHeld0
  try simp only [Act.put, List.setIfInBounds_toArray, List.set_cons_zero, List.set_cons_succ]
  refine wpAnyH_take (i := 2) (oi := { dst := some 62, op := Op.move (Operand.tmp 61), type := 4, pos := "laws.go:1389", after := #[{ on := 1, ground := Ground.data }, { on := 1, ground := Ground.chain }], guard := none }) (v := ?va2) rfl (by kernel_rfl) (by kernel_rfl) (by kernel_rfl) (fun _ _ _ h => h) (Or.inl ⟨by rfl, ?hya2⟩) (by assumption) ?ra2
  case hya2 => (intro w hSw; (try dsimp only at hSw); go_simp; try with_reducible rfl)
  try simp only [Act.put, List.setIfInBounds_toArray, List.set_cons_zero, List.set_cons_succ]
  refine wpAnyH_take (i := 3) (oi := { dst := some 63, op := Op.move (Operand.tmp 4), type := 3, pos := "laws.go:1389", after := #[{ on := 2, ground := Ground.guard }], guard := some (2, true) }) (v := ?va3) rfl (by kernel_rfl) (by kernel_rfl) (by kernel_rfl) (fun _ _ _ h => h) (Or.inl ⟨by rfl, ?hya3⟩) (by assumption) ?ra3
  case hya3 => (intro w hSw; (try dsimp only at hSw); go_simp; try with_reducible rfl)
  try simp only [Act.put, List.setIfInBounds_toArray, List.set_cons_zero, List.set_cons_succ]
  refine wpAnyH_take (i := 4) (oi := { dst := some 64, op := Op.fieldAddr 26 (Operand.tmp 3) 0, type := 0, pos := "laws.go:1389", after := #[{ on := 2, ground := Ground.guard }], guard := some (2, true) }) (v := ?va4) rfl (by kernel_rfl) (by kernel_rfl) (by kernel_rfl) (fun _ _ _ h => h) (Or.inl ⟨by rfl, ?hya4⟩) (by assumption) ?ra4
  case hya4 => (intro w hSw; (try dsimp only at hSw); go_simp; try with_reducible rfl)
  try simp only [Act.put, List.setIfInBounds_toArray, List.set_cons_zero, List.set_cons_succ]
  refine wpAnyH_take (i := 5) (oi := { dst := some 65, op := Op.load 3 (Operand.tmp 64), type := 3, pos := "laws.go:1389", after := #[{ on := 4, ground := Ground.data }, { on := 2, ground := Ground.guard }], guard := some (2, true) }) (v := ?va5) rfl (by kernel_rfl) (by kernel_rfl) (by kernel_rfl) (fun _ _ _ h => h) (Or.inl ⟨by rfl, ?hya5⟩) (by assumption) ?ra5
  case hya5 => (intro w hSw; (try dsimp only at hSw); go_simp; try with_reducible rfl)
  try simp only [Act.put, List.setIfInBounds_toArray, List.set_cons_zero, List.set_cons_succ]
  refine wpAnyH_take (i := 6) (oi := { dst := some 66, op := Op.binOp BinOp.gtr 3 (Operand.tmp 63) (Operand.tmp 65) 3, type := 4, pos := "laws.go:1389", after := #[{ on := 3, ground := Ground.data }, { on := 5, ground := Ground.data }, { on := 2, ground := Ground.guard }], guard := some (2, true) }) (v := ?va6) rfl (by kernel_rfl) (by kernel_rfl) (by kernel_rfl) (fun _ _ _ h => h) (Or.inl ⟨by rfl, ?hya6⟩) (by assumption) ?ra6
  case hya6 => (intro w hSw; (try dsimp only at hSw); go_simp; try with_reducible rfl)
  try simp only [Act.put, List.setIfInBounds_toArray, List.set_cons_zero, List.set_cons_succ]
  refine wpAnyH_take (i := 7) (oi := { dst := some 67, op := Op.move (Operand.tmp 66), type := 4, pos := "laws.go:1389", after := #[{ on := 6, ground := Ground.data }, { on := 2, ground := Ground.chain }, { on := 2, ground := Ground.guard }], guard := some (2, true) }) (v := ?va7) rfl (by kernel_rfl) (by kernel_rfl) (by kernel_rfl) (fun _ _ _ h => h) (Or.inl ⟨by rfl, ?hya7⟩) (by assumption) ?ra7
  case hya7 => (intro w hSw; (try dsimp only at hSw); go_simp; try with_reducible rfl)
  try simp only [Act.put, List.setIfInBounds_toArray, List.set_cons_zero, List.set_cons_succ]
  refine wpAnyH_take (i := 8) (oi := { dst := some 68, op := Op.load 26 (Operand.tmp 5), type := 26, pos := "laws.go:1389", after := #[{ on := 7, ground := Ground.guard }], guard := some (7, false) }) (v := undef) rfl (by kernel_rfl) (by kernel_rfl) (by kernel_rfl) (fun _ _ _ h => h) (Or.inr ⟨by rfl, rfl⟩) (by assumption) ?_
  try simp only [Act.put, List.setIfInBounds_toArray, List.set_cons_zero, List.set_cons_succ]
  refine wpAnyH_take (i := 9) (oi := { dst := some 69, op := Op.fieldAddr 26 (Operand.tmp 5) 0, type := 0, pos := "laws.go:1389", after := #[{ on := 7, ground := Ground.guard }], guard := some (7, false) }) (v := undef) rfl (by kernel_rfl) (by kernel_rfl) (by kernel_rfl) (fun _ _ _ h => h) (Or.inr ⟨by rfl, rfl⟩) (by assumption) ?_
  try simp only [Act.put, List.setIfInBounds_toArray, List.set_cons_zero, List.set_cons_succ]
  refine wpAnyH_take (i := 10) (oi := { dst := some 70, op := Op.load 3 (Operand.tmp 69), type := 3, pos := "laws.go:1389", after := #[{ on := 9, ground := Ground.data }, { on := 7, ground := Ground.guard }], guard := some (7, false) }) (v := undef) rfl (by kernel_rfl) (by kernel_rfl) (by kernel_rfl) (fun _ _ _ h => h) (Or.inr ⟨by rfl, rfl⟩) (by assumption) ?_
  try simp only [Act.put, List.setIfInBounds_toArray, List.set_cons_zero, List.set_cons_succ]
  refine wpAnyH_take (i := 11) (oi := { dst := some 71, op := Op.call { callee := Callee.value (Operand.func 43), args := #[Operand.tmp 68, Operand.tmp 70], argTypes := #[26, 3] }, type := 58, pos := "laws.go:1389", after := #[{ on := 8, ground := Ground.data }, { on := 10, ground := Ground.data }, { on := 7, ground := Ground.chain }, { on := 7, ground := Ground.guard }], guard := some (7, false) }) (v := undef) rfl (by kernel_rfl) (by kernel_rfl) (by kernel_rfl) (fun _ _ _ h => h) (Or.inr ⟨by rfl, rfl⟩) (by assumption) ?_
  try simp only [Act.put, List.setIfInBounds_toArray, List.set_cons_zero, List.set_cons_succ]
  refine wpAnyH_take (i := 12) (oi := { dst := some 72, op := Op.load 26 (Operand.tmp 3), type := 26, pos := "laws.go:1389", after := #[{ on := 7, ground := Ground.guard }], guard := some (7, false) }) (v := undef) rfl (by kernel_rfl) (by kernel_rfl) (by kernel_rfl) (fun _ _ _ h => h) (Or.inr ⟨by rfl, rfl⟩) (by assumption) ?_
  try simp only [Act.put, List.setIfInBounds_toArray, List.set_cons_zero, List.set_cons_succ]
  refine wpAnyH_take (i := 13) (oi := { dst := some 73, op := Op.move (Operand.tmp 4), type := 3, pos := "laws.go:1389", after := #[{ on := 7, ground := Ground.guard }], guard := some (7, false) }) (v := undef) rfl (by kernel_rfl) (by kernel_rfl) (by kernel_rfl) (fun _ _ _ h => h) (Or.inr ⟨by rfl, rfl⟩) (by assumption) ?_
  try simp only [Act.put, List.setIfInBounds_toArray, List.set_cons_zero, List.set_cons_succ]
  refine wpAnyH_take (i := 14) (oi := { dst := some 74, op := Op.call { callee := Callee.value (Operand.func 43), args := #[Operand.tmp 72, Operand.tmp 73], argTypes := #[26, 3] }, type := 58, pos := "laws.go:1389", after := #[{ on := 12, ground := Ground.data }, { on := 13, ground := Ground.data }, { on := 11, ground := Ground.chain }, { on := 7, ground := Ground.guard }], guard := some (7, false) }) (v := undef) rfl (by kernel_rfl) (by kernel_rfl) (by kernel_rfl) (fun _ _ _ h => h) (Or.inr ⟨by rfl, rfl⟩) (by assumption) ?_
  try simp only [Act.put, List.setIfInBounds_toArray, List.set_cons_zero, List.set_cons_succ]
  refine wpAnyH_take (i := 15) (oi := { dst := some 75, op := Op.call { callee := Callee.value (Operand.func 44), args := #[Operand.tmp 71, Operand.tmp 74], argTypes := #[58, 58] }, type := 4, pos := "laws.go:1389", after := #[{ on := 11, ground := Ground.data }, { on := 14, ground := Ground.data }, { on := 14, ground := Ground.chain }, { on := 7, ground := Ground.guard }], guard := some (7, false) }) (v := undef) rfl (by kernel_rfl) (by kernel_rfl) (by kernel_rfl) (fun _ _ _ h => h) (Or.inr ⟨by rfl, rfl⟩) (by assumption) ?_
  try simp only [Act.put, List.setIfInBounds_toArray, List.set_cons_zero, List.set_cons_succ]
  refine wpAnyH_take (i := 16) (oi := { dst := some 76, op := Op.pick (Operand.tmp 67) (Operand.const (Value.bool true)) (Operand.tmp 75), type := 4, pos := "laws.go:1389", after := #[{ on := 7, ground := Ground.data }, { on := 15, ground := Ground.data }, { on := 2, ground := Ground.guard }], guard := some (2, true) }) (v := ?va16) rfl (by kernel_rfl) (by kernel_rfl) (by kernel_rfl) (fun _ _ _ h => h) (Or.inl ⟨by rfl, ?hya16⟩) (by assumption) ?ra16
  case hya16 => (intro w hSw; (try dsimp only at hSw); go_simp; try with_reducible rfl)
  try simp only [Act.put, List.setIfInBounds_toArray, List.set_cons_zero, List.set_cons_succ]
  refine wpAnyH_take (i := 17) (oi := { dst := some 77, op := Op.pick (Operand.tmp 62) (Operand.tmp 76) (Operand.const (Value.bool false)), type := 4, pos := "laws.go:1389", after := #[{ on := 2, ground := Ground.data }, { on := 16, ground := Ground.data }], guard := none }) (v := ?va17) rfl (by kernel_rfl) (by kernel_rfl) (by kernel_rfl) (fun _ _ _ h => h) (Or.inl ⟨by rfl, ?hya17⟩) (by assumption) ?ra17
  case hya17 => (intro w hSw; (try dsimp only at hSw); go_simp; try with_reducible rfl)
  try simp only [Act.put, List.setIfInBounds_toArray, List.set_cons_zero, List.set_cons_succ]
  refine wpAnyH_take (i := 18) (oi := { dst := some 78, op := Op.move (Operand.tmp 77), type := 4, pos := "laws.go:1389", after := #[{ on := 17, ground := Ground.data }, { on := 15, ground := Ground.chain }], guard := none }) (v := ?va18) rfl (by kernel_rfl) (by kernel_rfl) (by kernel_rfl) (fun _ _ _ h => h) (Or.inl ⟨by rfl, ?hya18⟩) (by assumption) ?ra18
  case hya18 => (intro w hSw; (try dsimp only at hSw); go_simp; try with_reducible rfl)
  try simp only [Act.put, List.setIfInBounds_toArray, List.set_cons_zero, List.set_cons_succ]
  refine wpAnyH_take (i := 19) (oi := { dst := some 79, op := Op.move (Operand.tmp 4), type := 3, pos := "laws.go:1389", after := #[{ on := 18, ground := Ground.guard }], guard := some (18, true) }) (v := ?va19) rfl (by kernel_rfl) (by kernel_rfl) (by kernel_rfl) (fun _ _ _ h => h) (Or.inl ⟨by rfl, ?hya19⟩) (by assumption) ?ra19
  case hya19 => (intro w hSw; (try dsimp only at hSw); go_simp; try with_reducible rfl)
  try simp only [Act.put, List.setIfInBounds_toArray, List.set_cons_zero, List.set_cons_succ]
  refine wpAnyH_take (i := 20) (oi := { dst := some 80, op := Op.fieldAddr 26 (Operand.tmp 3) 0, type := 0, pos := "laws.go:1389", after := #[{ on := 18, ground := Ground.guard }], guard := some (18, true) }) (v := ?va20) rfl (by kernel_rfl) (by kernel_rfl) (by kernel_rfl) (fun _ _ _ h => h) (Or.inl ⟨by rfl, ?hya20⟩) (by assumption) ?ra20
  case hya20 => (intro w hSw; (try dsimp only at hSw); go_simp; try with_reducible rfl)
  try simp only [Act.put, List.setIfInBounds_toArray, List.set_cons_zero, List.set_cons_succ]
  refine wpAnyH_take (i := 21) (oi := { dst := some 81, op := Op.load 3 (Operand.tmp 80), type := 3, pos := "laws.go:1389", after := #[{ on := 20, ground := Ground.data }, { on := 18, ground := Ground.guard }], guard := some (18, true) }) (v := ?va21) rfl (by kernel_rfl) (by kernel_rfl) (by kernel_rfl) (fun _ _ _ h => h) (Or.inl ⟨by rfl, ?hya21⟩) (by assumption) ?ra21
  case hya21 => (intro w hSw; (try dsimp only at hSw); go_simp; try with_reducible rfl)
  try simp only [Act.put, List.setIfInBounds_toArray, List.set_cons_zero, List.set_cons_succ]
  refine wpAnyH_take (i := 22) (oi := { dst := some 82, op := Op.binOp BinOp.gtr 3 (Operand.tmp 79) (Operand.tmp 81) 3, type := 4, pos := "laws.go:1389", after := #[{ on := 19, ground := Ground.data }, { on := 21, ground := Ground.data }, { on := 18, ground := Ground.guard }], guard := some (18, true) }) (v := ?va22) rfl (by kernel_rfl) (by kernel_rfl) (by kernel_rfl) (fun _ _ _ h => h) (Or.inl ⟨by rfl, ?hya22⟩) (by assumption) ?ra22
  case hya22 => (intro w hSw; (try dsimp only at hSw); go_simp; try with_reducible rfl)
  try simp only [Act.put, List.setIfInBounds_toArray, List.set_cons_zero, List.set_cons_succ]
  refine wpAnyH_take (i := 23) (oi := { dst := some 83, op := Op.move (Operand.tmp 82), type := 4, pos := "laws.go:1389", after := #[{ on := 22, ground := Ground.data }, { on := 18, ground := Ground.chain }, { on := 18, ground := Ground.guard }], guard := some (18, true) }) (v := ?va23) rfl (by kernel_rfl) (by kernel_rfl) (by kernel_rfl) (fun _ _ _ h => h) (Or.inl ⟨by rfl, ?hya23⟩) (by assumption) ?ra23
  case hya23 => (intro w hSw; (try dsimp only at hSw); go_simp; try with_reducible rfl)
  try simp only [Act.put, List.setIfInBounds_toArray, List.set_cons_zero, List.set_cons_succ]
  refine wpAnyH_take (i := 24) (oi := { dst := some 84, op := Op.move (Operand.tmp 9), type := 58, pos := "laws.go:1389", after := #[{ on := 23, ground := Ground.guard }], guard := some (23, false) }) (v := undef) rfl (by kernel_rfl) (by kernel_rfl) (by kernel_rfl) (fun _ _ _ h => h) (Or.inr ⟨by rfl, rfl⟩) (by assumption) ?_
  try simp only [Act.put, List.setIfInBounds_toArray, List.set_cons_zero, List.set_cons_succ]
  refine wpAnyH_take (i := 25) (oi := { dst := some 85, op := Op.call { callee := Callee.builtin Builtin.len, args := #[Operand.tmp 84], argTypes := #[58] }, type := 3, pos := "laws.go:1389", after := #[{ on := 24, ground := Ground.data }, { on := 23, ground := Ground.guard }], guard := some (23, false) }) (v := undef) rfl (by kernel_rfl) (by kernel_rfl) (by kernel_rfl) (fun _ _ _ h => h) (Or.inr ⟨by rfl, rfl⟩) (by assumption) ?_
  try simp only [Act.put, List.setIfInBounds_toArray, List.set_cons_zero, List.set_cons_succ]
  refine wpAnyH_take (i := 26) (oi := { dst := some 86, op := Op.move (Operand.tmp 10), type := 58, pos := "laws.go:1389", after := #[{ on := 23, ground := Ground.guard }], guard := some (23, false) }) (v := undef) rfl (by kernel_rfl) (by kernel_rfl) (by kernel_rfl) (fun _ _ _ h => h) (Or.inr ⟨by rfl, rfl⟩) (by assumption) ?_
  try simp only [Act.put, List.setIfInBounds_toArray, List.set_cons_zero, List.set_cons_succ]
  refine wpAnyH_take (i := 27) (oi := { dst := some 87, op := Op.call { callee := Callee.builtin Builtin.len, args := #[Operand.tmp 86], argTypes := #[58] }, type := 3, pos := "laws.go:1389", after := #[{ on := 26, ground := Ground.data }, { on := 23, ground := Ground.guard }], guard := some (23, false) }) (v := undef) rfl (by kernel_rfl) (by kernel_rfl) (by kernel_rfl) (fun _ _ _ h => h) (Or.inr ⟨by rfl, rfl⟩) (by assumption) ?_
  try simp only [Act.put, List.setIfInBounds_toArray, List.set_cons_zero, List.set_cons_succ]
  refine wpAnyH_take (i := 28) (oi := { dst := some 88, op := Op.binOp BinOp.add 3 (Operand.tmp 85) (Operand.tmp 87) 3, type := 3, pos := "laws.go:1389", after := #[{ on := 25, ground := Ground.data }, { on := 27, ground := Ground.data }, { on := 23, ground := Ground.guard }], guard := some (23, false) }) (v := undef) rfl (by kernel_rfl) (by kernel_rfl) (by kernel_rfl) (fun _ _ _ h => h) (Or.inr ⟨by rfl, rfl⟩) (by assumption) ?_
  try simp only [Act.put, List.setIfInBounds_toArray, List.set_cons_zero, List.set_cons_succ]
  refine wpAnyH_take (i := 29) (oi := { dst := some 89, op := Op.binOp BinOp.eql 3 (Operand.tmp 88) (Operand.const (Value.int IntKind.i64 0)) 3, type := 4, pos := "laws.go:1389", after := #[{ on := 28, ground := Ground.data }, { on := 23, ground := Ground.guard }], guard := some (23, false) }) (v := undef) rfl (by kernel_rfl) (by kernel_rfl) (by kernel_rfl) (fun _ _ _ h => h) (Or.inr ⟨by rfl, rfl⟩) (by assumption) ?_
  try simp only [Act.put, List.setIfInBounds_toArray, List.set_cons_zero, List.set_cons_succ]
  refine wpAnyH_take (i := 30) (oi := { dst := some 90, op := Op.pick (Operand.tmp 83) (Operand.const (Value.bool true)) (Operand.tmp 89), type := 4, pos := "laws.go:1389", after := #[{ on := 23, ground := Ground.data }, { on := 29, ground := Ground.data }, { on := 18, ground := Ground.guard }], guard := some (18, true) }) (v := ?va30) rfl (by kernel_rfl) (by kernel_rfl) (by kernel_rfl) (fun _ _ _ h => h) (Or.inl ⟨by rfl, ?hya30⟩) (by assumption) ?ra30
  case hya30 => (intro w hSw; (try dsimp only at hSw); go_simp; try with_reducible rfl)
  try simp only [Act.put, List.setIfInBounds_toArray, List.set_cons_zero, List.set_cons_succ]
  refine wpAnyH_take (i := 31) (oi := { dst := some 91, op := Op.pick (Operand.tmp 78) (Operand.tmp 90) (Operand.const (Value.bool false)), type := 4, pos := "laws.go:1389", after := #[{ on := 18, ground := Ground.data }, { on := 30, ground := Ground.data }], guard := none }) (v := ?va31) rfl (by kernel_rfl) (by kernel_rfl) (by kernel_rfl) (fun _ _ _ h => h) (Or.inl ⟨by rfl, ?hya31⟩) (by assumption) ?ra31
  case hya31 => (intro w hSw; (try dsimp only at hSw); go_simp; try with_reducible rfl)
  try simp only [Act.put, List.setIfInBounds_toArray, List.set_cons_zero, List.set_cons_succ]
  refine wpAnyH_take (i := 32) (oi := { dst := some 92, op := Op.move (Operand.tmp 91), type := 4, pos := "laws.go:1389", after := #[{ on := 31, ground := Ground.data }, { on := 23, ground := Ground.chain }], guard := none }) (v := ?va32) rfl (by kernel_rfl) (by kernel_rfl) (by kernel_rfl) (fun _ _ _ h => h) (Or.inl ⟨by rfl, ?hya32⟩) (by assumption) ?ra32
  case hya32 => (intro w hSw; (try dsimp only at hSw); go_simp; try with_reducible rfl)
  try simp only [Act.put, List.setIfInBounds_toArray, List.set_cons_zero, List.set_cons_succ]
  refine wpAnyH_take (i := 33) (oi := { dst := some 93, op := Op.load 26 (Operand.tmp 5), type := 26, pos := "laws.go:1389", after := #[{ on := 32, ground := Ground.guard }], guard := some (32, true) }) (v := ?va33) rfl (by kernel_rfl) (by kernel_rfl) (by kernel_rfl) (fun _ _ _ h => h) (Or.inl ⟨by rfl, ?hya33⟩) (by assumption) ?ra33
  case hya33 => (intro w hSw; (try dsimp only at hSw); go_simp; try with_reducible rfl)
  try simp only [Act.put, List.setIfInBounds_toArray, List.set_cons_zero, List.set_cons_succ]
  refine wpAnyH_take (i := 34) (oi := { dst := some 94, op := Op.fieldAddr 26 (Operand.tmp 3) 0, type := 0, pos := "laws.go:1389", after := #[{ on := 32, ground := Ground.guard }], guard := some (32, true) }) (v := ?va34) rfl (by kernel_rfl) (by kernel_rfl) (by kernel_rfl) (fun _ _ _ h => h) (Or.inl ⟨by rfl, ?hya34⟩) (by assumption) ?ra34
  case hya34 => (intro w hSw; (try dsimp only at hSw); go_simp; try with_reducible rfl)
  try simp only [Act.put, List.setIfInBounds_toArray, List.set_cons_zero, List.set_cons_succ]
  refine wpAnyH_take (i := 35) (oi := { dst := some 95, op := Op.load 3 (Operand.tmp 94), type := 3, pos := "laws.go:1389", after := #[{ on := 34, ground := Ground.data }, { on := 32, ground := Ground.guard }], guard := some (32, true) }) (v := ?va35) rfl (by kernel_rfl) (by kernel_rfl) (by kernel_rfl) (fun _ _ _ h => h) (Or.inl ⟨by rfl, ?hya35⟩) (by assumption) ?ra35
  case hya35 => (intro w hSw; (try dsimp only at hSw); go_simp; try with_reducible rfl)
  try simp only [Act.put, List.setIfInBounds_toArray, List.set_cons_zero, List.set_cons_succ]
  refine wpAnyH_take (i := 37) (oi := { dst := some 97, op := Op.load 26 (Operand.tmp 3), type := 26, pos := "laws.go:1389", after := #[{ on := 32, ground := Ground.guard }], guard := some (32, true) }) (v := ?va37) rfl (by kernel_rfl) (by kernel_rfl) (by kernel_rfl) (fun _ _ _ h => h) (Or.inl ⟨by rfl, ?hya37⟩) (by assumption) ?ra37
  case hya37 => (intro w hSw; (try dsimp only at hSw); go_simp; try with_reducible rfl)
  try simp only [Act.put, List.setIfInBounds_toArray, List.set_cons_zero, List.set_cons_succ]
  refine wpAnyH_take (i := 38) (oi := { dst := some 98, op := Op.fieldAddr 26 (Operand.tmp 3) 0, type := 0, pos := "laws.go:1389", after := #[{ on := 32, ground := Ground.guard }], guard := some (32, true) }) (v := ?va38) rfl (by kernel_rfl) (by kernel_rfl) (by kernel_rfl) (fun _ _ _ h => h) (Or.inl ⟨by rfl, ?hya38⟩) (by assumption) ?ra38
  case hya38 => (intro w hSw; (try dsimp only at hSw); go_simp; try with_reducible rfl)
  try simp only [Act.put, List.setIfInBounds_toArray, List.set_cons_zero, List.set_cons_succ]
  refine wpAnyH_take (i := 39) (oi := { dst := some 99, op := Op.load 3 (Operand.tmp 98), type := 3, pos := "laws.go:1389", after := #[{ on := 38, ground := Ground.data }, { on := 32, ground := Ground.guard }], guard := some (32, true) }) (v := ?va39) rfl (by kernel_rfl) (by kernel_rfl) (by kernel_rfl) (fun _ _ _ h => h) (Or.inl ⟨by rfl, ?hya39⟩) (by assumption) ?ra39
  case hya39 => (intro w hSw; (try dsimp only at hSw); go_simp; try with_reducible rfl)
  try simp only [Act.put, List.setIfInBounds_toArray, List.set_cons_zero, List.set_cons_succ]
  refine wpAnyH_ready (rs := [36]) (by kernel_rfl) (by simp) ?_
  refine AllReadyH.cons (o := { dst := some 96, op := Op.call { callee := Callee.value (Operand.func 43), args := #[Operand.tmp 93, Operand.tmp 95], argTypes := #[26, 3] }, type := 58, pos := "laws.go:1389", after := #[{ on := 33, ground := Ground.data }, { on := 35, ground := Ground.data }, { on := 32, ground := Ground.chain }, { on := 32, ground := Ground.guard }], guard := some (32, true) }) rfl (fun K hK => ?_) AllReadyH.nil
  go_simp
  (try go_split_ands)
  ((with_reducible refine (StoreAt_any AX cX ys (now + 1) now _ (Xv7.out.below (by (repeat (first | with_reducible assumption | with_reducible exact hq0 | with_reducible refine Below.drew ?_ | with_reducible refine Below.trans ?_ (hb.mono (by first | omega | (simp; done) | (simp; omega))) | with_reducible refine Below.setCell ?_ (by first | omega | (simp; done) | (simp; omega)) _ | with_reducible exact below_alloc_swap (by with_reducible assumption) (by first | omega | (simp; done) | (simp; omega)) | with_reducible refine Below.alloc ?_ (by first | omega | (simp; done) | (simp; omega)) _)))) (by omega) HYS.out).mono ?_); rw [HNO.out]; rintro e wD3 ⟨AD3, cD3, rfl, ho, hb⟩; have RD3 := Lib.hid (rowsA_own ho rfl); clear ho; have hszD3 : v7.heap.size ≤ wD3.heap.size := (by have := hb.size; first | omega | (simp at this; omega)); obtain ⟨hcD3, hfD3, hlD3⟩ := bcell3 hb)
  try (go_wp2_with fail)
  refine hK.out _ _ ?hS92 (fun hHeld2 => ?_)
  case hS92 => (try dsimp only); ((try go_split_ands); refine ⟨?cc90, ?cc91, ?cc92, ?cc93, ?sz9, ?bl9⟩; (case cc90 => (repeat (first | with_reducible assumption | with_reducible refine cell_below hb (by first | omega | (simp; done) | (simp; omega)) ?_ | with_reducible refine cell_set_far (by first | omega | (simp; done) | (simp; omega)) ?_ | with_reducible exact cell_alloc_swap (by with_reducible assumption) (by first | omega | (simp; done) | (simp; omega)) | with_reducible refine cell_alloc_far ?_ | with_reducible refine cell_drew ?_))); (case cc91 => (repeat (first | with_reducible assumption | with_reducible refine cell_below hb (by first | omega | (simp; done) | (simp; omega)) ?_ | with_reducible refine cell_set_far (by first | omega | (simp; done) | (simp; omega)) ?_ | with_reducible exact cell_alloc_swap (by with_reducible assumption) (by first | omega | (simp; done) | (simp; omega)) | with_reducible refine cell_alloc_far ?_ | with_reducible refine cell_drew ?_))); (case cc92 => (repeat (first | with_reducible assumption | with_reducible refine cell_below hb (by first | omega | (simp; done) | (simp; omega)) ?_ | with_reducible refine cell_set_far (by first | omega | (simp; done) | (simp; omega)) ?_ | with_reducible exact cell_alloc_swap (by with_reducible assumption) (by first | omega | (simp; done) | (simp; omega)) | with_reducible refine cell_alloc_far ?_ | with_reducible refine cell_drew ?_))); (case cc93 => (repeat (first | with_reducible assumption | with_reducible refine cell_below hb (by first | omega | (simp; done) | (simp; omega)) ?_ | with_reducible refine cell_set_far (by first | omega | (simp; done) | (simp; omega)) ?_ | with_reducible exact cell_alloc_swap (by with_reducible assumption) (by first | omega | (simp; done) | (simp; omega)) | with_reducible refine cell_alloc_far ?_ | with_reducible refine cell_drew ?_))); (case sz9 => (first | with_reducible assumption | (have := hb.size; omega) | omega | (simp; done) | (simp; omega) | (have := hb.size; simp at this ⊢; omega))); (case bl9 => (repeat (first | with_reducible assumption | with_reducible exact hq0 | with_reducible refine Below.drew ?_ | with_reducible refine Below.trans ?_ (hb.mono (by first | omega | (simp; done) | (simp; omega))) | with_reducible refine Below.setCell ?_ (by first | omega | (simp; done) | (simp; omega)) _ | with_reducible exact below_alloc_swap (by with_reducible assumption) (by first | omega | (simp; done) | (simp; omega)) | with_reducible refine Below.alloc ?_ (by first | omega | (simp; done) | (simp; omega)) _))))
  clear hK K; try clear hHeld1
  try simp only [Act.put, List.setIfInBounds_toArray, List.set_cons_zero, List.set_cons_succ]
  refine wpAnyH_ready (rs := [40]) (by kernel_rfl) (by simp) ?_
  refine AllReadyH.cons (o := { dst := some 100, op := Op.call { callee := Callee.value (Operand.func 43), args := #[Operand.tmp 97, Operand.tmp 99], argTypes := #[26, 3] }, type := 58, pos := "laws.go:1389", after := #[{ on := 37, ground := Ground.data }, { on := 39, ground := Ground.data }, { on := 36, ground := Ground.chain }, { on := 32, ground := Ground.guard }], guard := some (32, true) }) rfl (fun K hK => ?_) AllReadyH.nil
  go_simp
  (try go_split_ands)
  ((with_reducible refine (StoreAt_any A2 c2 zs now now _ (Zv7.out.below (by (repeat (first | with_reducible assumption | with_reducible exact hq0 | with_reducible refine Below.drew ?_ | with_reducible refine Below.trans ?_ (hb.mono (by first | omega | (simp; done) | (simp; omega))) | with_reducible refine Below.setCell ?_ (by first | omega | (simp; done) | (simp; omega)) _ | with_reducible exact below_alloc_swap (by with_reducible assumption) (by first | omega | (simp; done) | (simp; omega)) | with_reducible refine Below.alloc ?_ (by first | omega | (simp; done) | (simp; omega)) _)))) (by omega) HS.out).mono ?_); rw [HAL.out]; rintro e wD4 ⟨AD4, cD4, rfl, ho, hb⟩; have RD4 := Lib.hid (rowsA_own ho rfl); have RD3D4 := Lib.hid (RD3.out.below hb); clear ho; have hszD4 : v7.heap.size ≤ wD4.heap.size := (by have := hb.size; first | omega | (simp at this; omega)); obtain ⟨hcD4, hfD4, hlD4⟩ := bcell3 hb)
  try (go_wp2_with fail)
  refine hK.out _ _ ?hS93 (fun hHeld3 => ?_)
  case hS93 => (try dsimp only); ((try go_split_ands); refine ⟨?cc90, ?cc91, ?cc92, ?cc93, ?sz9, ?bl9⟩; (case cc90 => (repeat (first | with_reducible assumption | with_reducible refine cell_below hb (by first | omega | (simp; done) | (simp; omega)) ?_ | with_reducible refine cell_set_far (by first | omega | (simp; done) | (simp; omega)) ?_ | with_reducible exact cell_alloc_swap (by with_reducible assumption) (by first | omega | (simp; done) | (simp; omega)) | with_reducible refine cell_alloc_far ?_ | with_reducible refine cell_drew ?_))); (case cc91 => (repeat (first | with_reducible assumption | with_reducible refine cell_below hb (by first | omega | (simp; done) | (simp; omega)) ?_ | with_reducible refine cell_set_far (by first | omega | (simp; done) | (simp; omega)) ?_ | with_reducible exact cell_alloc_swap (by with_reducible assumption) (by first | omega | (simp; done) | (simp; omega)) | with_reducible refine cell_alloc_far ?_ | with_reducible refine cell_drew ?_))); (case cc92 => (repeat (first | with_reducible assumption | with_reducible refine cell_below hb (by first | omega | (simp; done) | (simp; omega)) ?_ | with_reducible refine cell_set_far (by first | omega | (simp; done) | (simp; omega)) ?_ | with_reducible exact cell_alloc_swap (by with_reducible assumption) (by first | omega | (simp; done) | (simp; omega)) | with_reducible refine cell_alloc_far ?_ | with_reducible refine cell_drew ?_))); (case cc93 => (repeat (first | with_reducible assumption | with_reducible refine cell_below hb (by first | omega | (simp; done) | (simp; omega)) ?_ | with_reducible refine cell_set_far (by first | omega | (simp; done) | (simp; omega)) ?_ | with_reducible exact cell_alloc_swap (by with_reducible assumption) (by first | omega | (simp; done) | (simp; omega)) | with_reducible refine cell_alloc_far ?_ | with_reducible refine cell_drew ?_))); (case sz9 => (first | with_reducible assumption | (have := hb.size; omega) | omega | (simp; done) | (simp; omega) | (have := hb.size; simp at this ⊢; omega))); (case bl9 => (repeat (first | with_reducible assumption | with_reducible exact hq0 | with_reducible refine Below.drew ?_ | with_reducible refine Below.trans ?_ (hb.mono (by first | omega | (simp; done) | (simp; omega))) | with_reducible refine Below.setCell ?_ (by first | omega | (simp; done) | (simp; omega)) _ | with_reducible exact below_alloc_swap (by with_reducible assumption) (by first | omega | (simp; done) | (simp; omega)) | with_reducible refine Below.alloc ?_ (by first | omega | (simp; done) | (simp; omega)) _))))
  clear hK K; try clear hHeld2
  try simp only [Act.put, List.setIfInBounds_toArray, List.set_cons_zero, List.set_cons_succ]
  refine wpAnyH_ready (rs := [41]) (by kernel_rfl) (by simp) ?_
  refine AllReadyH.cons (o := { dst := some 101, op := Op.call { callee := Callee.value (Operand.func 44), args := #[Operand.tmp 96, Operand.tmp 100], argTypes := #[58, 58] }, type := 4, pos := "laws.go:1389", after := #[{ on := 36, ground := Ground.data }, { on := 40, ground := Ground.data }, { on := 40, ground := Ground.chain }, { on := 32, ground := Ground.guard }], guard := some (32, true) }) rfl (fun K hK => ?_) AllReadyH.nil
  go_simp
  (try go_split_ands)
  ((with_reducible refine (vaRows_same AD3 AD4 cD3 cD4 al _ RD3D4.out RD4.out (by unfold maxLen; omega)).mono ?_); rintro e wV2 ⟨rfl, hb⟩; have hszV2 : v7.heap.size ≤ wV2.heap.size := (by have := hb.size; first | omega | (simp at this; omega)); obtain ⟨hcV2, hfV2, hlV2⟩ := bcell3 hb)
  try (go_wp2_with fail)
  refine hK.out _ _ ?hS94 (fun hHeld4 => ?_)
  case hS94 => (try dsimp only); ((try go_split_ands); refine ⟨?cc90, ?cc91, ?cc92, ?cc93, ?sz9, ?bl9⟩; (case cc90 => (repeat (first | with_reducible assumption | with_reducible refine cell_below hb (by first | omega | (simp; done) | (simp; omega)) ?_ | with_reducible refine cell_set_far (by first | omega | (simp; done) | (simp; omega)) ?_ | with_reducible exact cell_alloc_swap (by with_reducible assumption) (by first | omega | (simp; done) | (simp; omega)) | with_reducible refine cell_alloc_far ?_ | with_reducible refine cell_drew ?_))); (case cc91 => (repeat (first | with_reducible assumption | with_reducible refine cell_below hb (by first | omega | (simp; done) | (simp; omega)) ?_ | with_reducible refine cell_set_far (by first | omega | (simp; done) | (simp; omega)) ?_ | with_reducible exact cell_alloc_swap (by with_reducible assumption) (by first | omega | (simp; done) | (simp; omega)) | with_reducible refine cell_alloc_far ?_ | with_reducible refine cell_drew ?_))); (case cc92 => (repeat (first | with_reducible assumption | with_reducible refine cell_below hb (by first | omega | (simp; done) | (simp; omega)) ?_ | with_reducible refine cell_set_far (by first | omega | (simp; done) | (simp; omega)) ?_ | with_reducible exact cell_alloc_swap (by with_reducible assumption) (by first | omega | (simp; done) | (simp; omega)) | with_reducible refine cell_alloc_far ?_ | with_reducible refine cell_drew ?_))); (case cc93 => (repeat (first | with_reducible assumption | with_reducible refine cell_below hb (by first | omega | (simp; done) | (simp; omega)) ?_ | with_reducible refine cell_set_far (by first | omega | (simp; done) | (simp; omega)) ?_ | with_reducible exact cell_alloc_swap (by with_reducible assumption) (by first | omega | (simp; done) | (simp; omega)) | with_reducible refine cell_alloc_far ?_ | with_reducible refine cell_drew ?_))); (case sz9 => (first | with_reducible assumption | (have := hb.size; omega) | omega | (simp; done) | (simp; omega) | (have := hb.size; simp at this ⊢; omega))); (case bl9 => (repeat (first | with_reducible assumption | with_reducible exact hq0 | with_reducible refine Below.drew ?_ | with_reducible refine Below.trans ?_ (hb.mono (by first | omega | (simp; done) | (simp; omega))) | with_reducible refine Below.setCell ?_ (by first | omega | (simp; done) | (simp; omega)) _ | with_reducible exact below_alloc_swap (by with_reducible assumption) (by first | omega | (simp; done) | (simp; omega)) | with_reducible refine Below.alloc ?_ (by first | omega | (simp; done) | (simp; omega)) _))))
  clear hK K; try clear hHeld3
  try simp only [Act.put, List.setIfInBounds_toArray, List.set_cons_zero, List.set_cons_succ]
  refine wpAnyH_take (i := 42) (oi := { dst := some 102, op := Op.pick (Operand.tmp 92) (Operand.tmp 101) (Operand.const (Value.bool false)), type := 4, pos := "laws.go:1389", after := #[{ on := 32, ground := Ground.data }, { on := 41, ground := Ground.data }], guard := none }) (v := ?va42) rfl (by kernel_rfl) (by kernel_rfl) (by kernel_rfl) (fun _ _ _ h => h) (Or.inl ⟨by rfl, ?hya42⟩) (by assumption) ?ra42
  case hya42 => (intro w hSw; (try dsimp only at hSw); go_simp; try with_reducible rfl)
  try simp only [Act.put, List.setIfInBounds_toArray, List.set_cons_zero, List.set_cons_succ]
  refine wpAnyH_take (i := 43) (oi := { dst := some 2, op := Op.assign (Operand.tmp 102), type := 4, pos := "laws.go:1389", after := #[{ on := 42, ground := Ground.data }, { on := 41, ground := Ground.chain }, { on := 0, ground := Ground.phase }, { on := 1, ground := Ground.phase }, { on := 2, ground := Ground.phase }, { on := 3, ground := Ground.phase }, { on := 4, ground := Ground.phase }, { on := 5, ground := Ground.phase }, { on := 6, ground := Ground.phase }, { on := 7, ground := Ground.phase }, { on := 8, ground := Ground.phase }, { on := 9, ground := Ground.phase }, { on := 10, ground := Ground.phase }, { on := 11, ground := Ground.phase }, { on := 12, ground := Ground.phase }, { on := 13, ground := Ground.phase }, { on := 14, ground := Ground.phase }, { on := 15, ground := Ground.phase }, { on := 16, ground := Ground.phase }, { on := 17, ground := Ground.phase }, { on := 18, ground := Ground.phase }, { on := 19, ground := Ground.phase }, { on := 20, ground := Ground.phase }, { on := 21, ground := Ground.phase }, { on := 22, ground := Ground.phase }, { on := 23, ground := Ground.phase }, { on := 24, ground := Ground.phase }, { on := 25, ground := Ground.phase }, { on := 26, ground := Ground.phase }, { on := 27, ground := Ground.phase }, { on := 28, ground := Ground.phase }, { on := 29, ground := Ground.phase }, { on := 30, ground := Ground.phase }, { on := 31, ground := Ground.phase }, { on := 32, ground := Ground.phase }, { on := 33, ground := Ground.phase }, { on := 34, ground := Ground.phase }, { on := 35, ground := Ground.phase }, { on := 36, ground := Ground.phase }, { on := 37, ground := Ground.phase }, { on := 38, ground := Ground.phase }, { on := 39, ground := Ground.phase }, { on := 40, ground := Ground.phase }, { on := 41, ground := Ground.phase }, { on := 42, ground := Ground.phase }], guard := none }) (v := ?va43) rfl (by kernel_rfl) (by kernel_rfl) (by kernel_rfl) (fun _ _ _ h => h) (Or.inl ⟨by rfl, ?hya43⟩) (by assumption) ?ra43
  case hya43 => (intro w hSw; (try dsimp only at hSw); go_simp; try with_reducible rfl)
  try simp only [Act.put, List.setIfInBounds_toArray, List.set_cons_zero, List.set_cons_succ]
  refine wpAnyH_done (by kernel_rfl) ?_ _
  have BV := Lib.hid (Bv7.out.trans (hHeld4.2.2.2.2.2.mono Bv7.out.size))
  clear hHeld4
  go_wp2
  go_ret
  exact ⟨rfl, BV.out⟩
end Go.Proofs.Ytacddgipcafdlaa
