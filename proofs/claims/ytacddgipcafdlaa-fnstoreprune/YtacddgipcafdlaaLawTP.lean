/-
  The walk of the law of a store without versions that nobody sees any more (P60).
-/
import Derived.Test.YtacddgipcafdlaaDrawSg
import Derived.Test.YtacddgipcafdlaaVaR
import Derived.Test.YtacddgipcafdlaaVaS
import Derived.Test.YtacddgipcafdlaaStoV
import Derived.Test.YtacddgipcafdlaaPruM
import Derived.Test.YtacddgipcafdlaaPruP
namespace Go.Proofs.Ytacddgipcafdlaa
open Go.Shelf Go.RowKit Go.Lib Go.Sort

set_option maxRecDepth 100000 in
set_option maxHeartbeats 8000000 in
theorem FnStorePrune_any (A : Option Addr) (n cap : Nat) (bs : List Int) (w : World) (hz : Bytes w w.heap.size A bs ∧ bs.length = n ∧ n ≤ cap ∧ cap ≤ maxLen) :
    Calls Try.prog 14 #[.slice A n cap] w fun e w' => e = .returned (.bool true) ∧ Below w.heap.size w w' := by
  obtain ⟨hz, rfl, hc, hm⟩ := hz
  have hm' := hm
  unfold maxLen at hm'
  by_cases hl : (1048576 : Int) < bs.length
  · go_enter Try.func14, Try.ntmps14
    go_wp2
    go_ret
    exact ⟨rfl, Below.refl _ _⟩
  go_enter Try.func14, Try.ntmps14
  go_wp2_with fail
  refine (DrawStorePrune_any A cap bs w hz hc hm).mono ?_
  rintro e w1 ⟨zs, now, A2, c2, st, rfl, hst, hzl, hsh, hnow, ho, hb1⟩
  have HS := Lib.hid hsh
  have O1 := Lib.hid ho
  clear hz hm hm' hc hsh ho
  have hyl := prune_len zs now st
  obtain ⟨n', ys, hq⟩ : ∃ n' ys, pruneP zs now st = (n', ys) := ⟨_, _, rfl⟩
  have HQ := Lib.hid hq
  rw [hq] at hyl
  replace hyl : ys.length ≤ zs.length := hyl
  obtain ⟨sb, hsb⟩ : ∃ sb, storeB zs now = sb := ⟨_, rfl⟩
  have HSB := Lib.hid hsb
  clear hq hsb
  have B1 := Lib.hid hb1
  have Zs := Lib.hid (show VersA w1 A2 zs from el_of_owns verC_len O1.out)
  have HA2 := Lib.hid (owns_addrV O1.out)
  have HN2 := Lib.hid (owns_nilcap O1.out)
  clear hb1 O1
  go_wp2_with fail
  generalize hW : w1.alloc _ = Ws
  have cs0 : Ws.cell? ⟨w1.heap.size, 0, none⟩ = some (.int .i64 now) := by rw [← hW]; simp [go_sem]
  have cs1 : Ws.cell? ⟨w1.heap.size, 1, none⟩ = some (.slice A2 zs.length c2) := by rw [← hW]; simp [go_sem]
  have ls : w1.heap.size < Ws.heap.size := by rw [← hW]; simp
  have hb : Below w1.heap.size w1 Ws := by rw [← hW]; exact (Below.refl _ _).alloc (Nat.le_refl _) _
  have ZWs := Lib.hid (Zs.out.below hb)
  clear Zs
  have BWs := Lib.hid (B1.out.trans (hb.mono B1.out.size))
  clear hb B1
  generalize w1.heap.size = Gs at *
  clear hW
  refine (StorePrune_any A2 c2 zs now st _ ZWs.out HA2.out HN2.out (by omega) HS.out).mono ?_
  rw [HQ.out]
  rintro e v1 ⟨AX, cX, rfl, ho, hb⟩
  have hoX := Lib.hid (show v1.ownsRow _ 74 6 (.slice AX ys.length cX) ys.length (flatOf verC ys) from ho)
  have Xv1 := Lib.hid (show VersA v1 AX ys from el_of_owns verC_len hoX.out)
  have HAX := Lib.hid (owns_addrV hoX.out)
  have HNX := Lib.hid (owns_nilcap hoX.out)
  clear ho hoX
  replace cs0 := cellBelow hb ls cs0
  replace cs1 := cellBelow hb ls cs1
  replace ls := Nat.lt_of_lt_of_le ls hb.size
  have Zv1 := Lib.hid (ZWs.out.below hb)
  clear ZWs
  have Bv1 := Lib.hid (BWs.out.trans (hb.mono BWs.out.size))
  clear hb BWs
  go_wp2_with fail
  generalize hW : v1.alloc _ = Wx
  have cx0 : Wx.cell? ⟨v1.heap.size, 0, none⟩ = some (.int .i64 n') := by rw [← hW]; simp [go_sem]
  have cx1 : Wx.cell? ⟨v1.heap.size, 1, none⟩ = some (.slice AX ys.length cX) := by rw [← hW]; simp [go_sem]
  have lx : v1.heap.size < Wx.heap.size := by rw [← hW]; simp
  have hb : Below v1.heap.size v1 Wx := by rw [← hW]; exact (Below.refl _ _).alloc (Nat.le_refl _) _
  replace cs0 := cellBelow hb ls cs0
  replace cs1 := cellBelow hb ls cs1
  replace ls := Nat.lt_of_lt_of_le ls hb.size
  have ZWx := Lib.hid (Zv1.out.below hb)
  clear Zv1
  have XWx := Lib.hid (Xv1.out.below hb)
  clear Xv1
  have BWx := Lib.hid (Bv1.out.trans (hb.mono Bv1.out.size))
  clear hb Bv1
  generalize v1.heap.size = Gx at *
  clear hW
  cases sb
  · skip
    have hq0 : Below Wx.heap.size Wx Wx := Below.refl _ _
    go_upto_region 5 with fail
    go_cut [28] (fun s9 wx => s9 = .bool true ∧ Below Wx.heap.size Wx wx)
    case first =>
      go_region_held3 (fun w' => w'.cell? ⟨Gs, 0, none⟩ = some (.int .i64 now) ∧ w'.cell? ⟨Gs, 1, none⟩ = some (.slice A2 zs.length c2) ∧ w'.cell? ⟨Gx, 0, none⟩ = some (.int .i64 n') ∧ w'.cell? ⟨Gx, 1, none⟩ = some (.slice AX ys.length cX) ∧ Wx.heap.size ≤ w'.heap.size ∧ Below Wx.heap.size Wx w')
        (((try go_split_ands); refine ⟨?cc90, ?cc91, ?cc92, ?cc93, ?sz9, ?bl9⟩; (case cc90 => (repeat (first | with_reducible assumption | with_reducible refine cell_below hb (by first | omega | (simp; done) | (simp; omega)) ?_ | with_reducible refine cell_set_far (by first | omega | (simp; done) | (simp; omega)) ?_ | with_reducible exact cell_alloc_swap (by with_reducible assumption) (by first | omega | (simp; done) | (simp; omega)) | with_reducible refine cell_alloc_far ?_ | with_reducible refine cell_drew ?_))); (case cc91 => (repeat (first | with_reducible assumption | with_reducible refine cell_below hb (by first | omega | (simp; done) | (simp; omega)) ?_ | with_reducible refine cell_set_far (by first | omega | (simp; done) | (simp; omega)) ?_ | with_reducible exact cell_alloc_swap (by with_reducible assumption) (by first | omega | (simp; done) | (simp; omega)) | with_reducible refine cell_alloc_far ?_ | with_reducible refine cell_drew ?_))); (case cc92 => (repeat (first | with_reducible assumption | with_reducible refine cell_below hb (by first | omega | (simp; done) | (simp; omega)) ?_ | with_reducible refine cell_set_far (by first | omega | (simp; done) | (simp; omega)) ?_ | with_reducible exact cell_alloc_swap (by with_reducible assumption) (by first | omega | (simp; done) | (simp; omega)) | with_reducible refine cell_alloc_far ?_ | with_reducible refine cell_drew ?_))); (case cc93 => (repeat (first | with_reducible assumption | with_reducible refine cell_below hb (by first | omega | (simp; done) | (simp; omega)) ?_ | with_reducible refine cell_set_far (by first | omega | (simp; done) | (simp; omega)) ?_ | with_reducible exact cell_alloc_swap (by with_reducible assumption) (by first | omega | (simp; done) | (simp; omega)) | with_reducible refine cell_alloc_far ?_ | with_reducible refine cell_drew ?_))); (case sz9 => (first | with_reducible assumption | (have := hb.size; omega) | omega | (simp; done) | (simp; omega) | (have := hb.size; simp at this ⊢; omega))); (case bl9 => (repeat (first | with_reducible assumption | with_reducible exact hq0 | with_reducible refine Below.drew ?_ | with_reducible refine Below.trans ?_ (hb.mono (by first | omega | (simp; done) | (simp; omega))) | with_reducible refine Below.setCell ?_ (by first | omega | (simp; done) | (simp; omega)) _ | with_reducible exact below_alloc_swap (by with_reducible assumption) (by first | omega | (simp; done) | (simp; omega)) | with_reducible refine Below.alloc ?_ (by first | omega | (simp; done) | (simp; omega)) _)))))
        (first
        | (go_at_call 28; (try go_split_ands); (with_reducible refine (sStorePrune_any A2 c2 zs now st _ (ZWx.out.below (by (repeat (first | with_reducible assumption | with_reducible exact hq0 | with_reducible refine Below.drew ?_ | with_reducible refine Below.trans ?_ (hb.mono (by first | omega | (simp; done) | (simp; omega))) | with_reducible refine Below.setCell ?_ (by first | omega | (simp; done) | (simp; omega)) _ | with_reducible exact below_alloc_swap (by with_reducible assumption) (by first | omega | (simp; done) | (simp; omega)) | with_reducible refine Below.alloc ?_ (by first | omega | (simp; done) | (simp; omega)) _)))) HA2.out HN2.out (by omega) HS.out).mono ?_); rw [HQ.out]; rintro e wP ⟨AP, cP, rfl, ho, hb⟩; have VP := Lib.hid (show VersA wP AP ys from el_of_owns verC_len (show wP.ownsRow _ 74 6 (.slice AP ys.length cP) ys.length (flatOf verC ys) from ho)); have XP := Lib.hid (XWx.out.below (show Below Wx.heap.size Wx wP from (by (repeat (first | with_reducible assumption | with_reducible exact hq0 | with_reducible refine Below.drew ?_ | with_reducible refine Below.trans ?_ (hb.mono (by first | omega | (simp; done) | (simp; omega))) | with_reducible refine Below.setCell ?_ (by first | omega | (simp; done) | (simp; omega)) _ | with_reducible exact below_alloc_swap (by with_reducible assumption) (by first | omega | (simp; done) | (simp; omega)) | with_reducible refine Below.alloc ?_ (by first | omega | (simp; done) | (simp; omega)) _))))); clear ho; have hszP : Wx.heap.size ≤ wP.heap.size := (by have := hb.size; first | omega | (simp at this; omega)); obtain ⟨hcP, hfP, hlP⟩ := bcell3 hb)
        | (go_at_call 49; (try go_split_ands); (with_reducible refine (vaStore_same AX AP cX cP n' ys _ XP.out VP.out (by unfold maxLen; omega)).mono ?_); rintro e wV ⟨rfl, hb⟩; have hszV : Wx.heap.size ≤ wV.heap.size := (by have := hb.size; first | omega | (simp at this; omega)); obtain ⟨hcV, hfV, hlV⟩ := bcell3 hb)
        | (go_at_call 50; (try go_split_ands); (with_reducible refine (StoreOk_any A2 c2 zs now _ (ZWx.out.below (by (repeat (first | with_reducible assumption | with_reducible exact hq0 | with_reducible refine Below.drew ?_ | with_reducible refine Below.trans ?_ (hb.mono (by first | omega | (simp; done) | (simp; omega))) | with_reducible refine Below.setCell ?_ (by first | omega | (simp; done) | (simp; omega)) _ | with_reducible exact below_alloc_swap (by with_reducible assumption) (by first | omega | (simp; done) | (simp; omega)) | with_reducible refine Below.alloc ?_ (by first | omega | (simp; done) | (simp; omega)) _)))) (by omega) HS.out).mono ?_); rw [HSB.out]; rintro e wK ⟨rfl, hb⟩; have hszK : Wx.heap.size ≤ wK.heap.size := (by have := hb.size; first | omega | (simp at this; omega)); obtain ⟨hcK, hfK, hlK⟩ := bcell3 hb))
      all_goals (go_wp2_with fail; go_meet; rename_i hH; exact ⟨rfl, hH.2.2.2.2.2⟩)
    case rest =>
      obtain ⟨rfl, hb⟩ := hcut
      clear hq0
      replace cs0 := cellBelow hb ls cs0
      replace cs1 := cellBelow hb ls cs1
      replace ls := Nat.lt_of_lt_of_le ls hb.size
      replace cx0 := cellBelow hb lx cx0
      replace cx1 := cellBelow hb lx cx1
      replace lx := Nat.lt_of_lt_of_le lx hb.size
      have Zwc := Lib.hid (ZWx.out.below hb)
      clear ZWx
      have Xwc := Lib.hid (XWx.out.below hb)
      clear XWx
      have Bwc := Lib.hid (BWx.out.trans (hb.mono BWx.out.size))
      clear hb BWx
      have hq0 : Below wc.heap.size wc wc := Below.refl _ _
      go_upto_region 6 with fail
      go_region_held3 (fun w' => w'.cell? ⟨Gs, 0, none⟩ = some (.int .i64 now) ∧ w'.cell? ⟨Gs, 1, none⟩ = some (.slice A2 zs.length c2) ∧ w'.cell? ⟨Gx, 0, none⟩ = some (.int .i64 n') ∧ w'.cell? ⟨Gx, 1, none⟩ = some (.slice AX ys.length cX) ∧ wc.heap.size ≤ w'.heap.size ∧ Below wc.heap.size wc w')
        (((try go_split_ands); refine ⟨?cc90, ?cc91, ?cc92, ?cc93, ?sz9, ?bl9⟩; (case cc90 => (repeat (first | with_reducible assumption | with_reducible refine cell_below hb (by first | omega | (simp; done) | (simp; omega)) ?_ | with_reducible refine cell_set_far (by first | omega | (simp; done) | (simp; omega)) ?_ | with_reducible exact cell_alloc_swap (by with_reducible assumption) (by first | omega | (simp; done) | (simp; omega)) | with_reducible refine cell_alloc_far ?_ | with_reducible refine cell_drew ?_))); (case cc91 => (repeat (first | with_reducible assumption | with_reducible refine cell_below hb (by first | omega | (simp; done) | (simp; omega)) ?_ | with_reducible refine cell_set_far (by first | omega | (simp; done) | (simp; omega)) ?_ | with_reducible exact cell_alloc_swap (by with_reducible assumption) (by first | omega | (simp; done) | (simp; omega)) | with_reducible refine cell_alloc_far ?_ | with_reducible refine cell_drew ?_))); (case cc92 => (repeat (first | with_reducible assumption | with_reducible refine cell_below hb (by first | omega | (simp; done) | (simp; omega)) ?_ | with_reducible refine cell_set_far (by first | omega | (simp; done) | (simp; omega)) ?_ | with_reducible exact cell_alloc_swap (by with_reducible assumption) (by first | omega | (simp; done) | (simp; omega)) | with_reducible refine cell_alloc_far ?_ | with_reducible refine cell_drew ?_))); (case cc93 => (repeat (first | with_reducible assumption | with_reducible refine cell_below hb (by first | omega | (simp; done) | (simp; omega)) ?_ | with_reducible refine cell_set_far (by first | omega | (simp; done) | (simp; omega)) ?_ | with_reducible exact cell_alloc_swap (by with_reducible assumption) (by first | omega | (simp; done) | (simp; omega)) | with_reducible refine cell_alloc_far ?_ | with_reducible refine cell_drew ?_))); (case sz9 => (first | with_reducible assumption | (have := hb.size; omega) | omega | (simp; done) | (simp; omega) | (have := hb.size; simp at this ⊢; omega))); (case bl9 => (repeat (first | with_reducible assumption | with_reducible exact hq0 | with_reducible refine Below.drew ?_ | with_reducible refine Below.trans ?_ (hb.mono (by first | omega | (simp; done) | (simp; omega))) | with_reducible refine Below.setCell ?_ (by first | omega | (simp; done) | (simp; omega)) _ | with_reducible exact below_alloc_swap (by with_reducible assumption) (by first | omega | (simp; done) | (simp; omega)) | with_reducible refine Below.alloc ?_ (by first | omega | (simp; done) | (simp; omega)) _)))))
        (first
          | (go_at_call 28; (try go_split_ands); (with_reducible refine (sStorePrune_any A2 c2 zs now st _ (Zwc.out.below (by (repeat (first | with_reducible assumption | with_reducible exact hq0 | with_reducible refine Below.drew ?_ | with_reducible refine Below.trans ?_ (hb.mono (by first | omega | (simp; done) | (simp; omega))) | with_reducible refine Below.setCell ?_ (by first | omega | (simp; done) | (simp; omega)) _ | with_reducible exact below_alloc_swap (by with_reducible assumption) (by first | omega | (simp; done) | (simp; omega)) | with_reducible refine Below.alloc ?_ (by first | omega | (simp; done) | (simp; omega)) _)))) HA2.out HN2.out (by omega) HS.out).mono ?_); rw [HQ.out]; rintro e wP ⟨AP, cP, rfl, ho, hb⟩; have VP := Lib.hid (show VersA wP AP ys from el_of_owns verC_len (show wP.ownsRow _ 74 6 (.slice AP ys.length cP) ys.length (flatOf verC ys) from ho)); have XP := Lib.hid (Xwc.out.below (show Below wc.heap.size wc wP from (by (repeat (first | with_reducible assumption | with_reducible exact hq0 | with_reducible refine Below.drew ?_ | with_reducible refine Below.trans ?_ (hb.mono (by first | omega | (simp; done) | (simp; omega))) | with_reducible refine Below.setCell ?_ (by first | omega | (simp; done) | (simp; omega)) _ | with_reducible exact below_alloc_swap (by with_reducible assumption) (by first | omega | (simp; done) | (simp; omega)) | with_reducible refine Below.alloc ?_ (by first | omega | (simp; done) | (simp; omega)) _))))); clear ho; have hszP : wc.heap.size ≤ wP.heap.size := (by have := hb.size; first | omega | (simp at this; omega)); obtain ⟨hcP, hfP, hlP⟩ := bcell3 hb)
          | (go_at_call 49; (try go_split_ands); (with_reducible refine (vaStore_same AX AP cX cP n' ys _ XP.out VP.out (by unfold maxLen; omega)).mono ?_); rintro e wV ⟨rfl, hb⟩; have hszV : wc.heap.size ≤ wV.heap.size := (by have := hb.size; first | omega | (simp at this; omega)); obtain ⟨hcV, hfV, hlV⟩ := bcell3 hb))
      all_goals (rename_i hH; have BV := Lib.hid (Bwc.out.trans (hH.2.2.2.2.2.mono Bwc.out.size)); clear hH)
      all_goals go_wp2
      all_goals go_ret
      all_goals exact ⟨rfl, BV.out⟩
  have e := HQ.out
  rw [pruneP, if_pos HSB.out] at e
  injection e with e1 e2
  subst e1
  have HY := Lib.hid e2
  have HOKY := Lib.hid (show storeB ys now = true from by rw [← e2]; exact keep_ok HSB.out)
  have HYS := Lib.hid (store_shortV HOKY.out)
  have HTW := Lib.hid (show pruneP ys now st = (now, ys) from by rw [← e2]; exact prune_twice HSB.out)
  have HAT := Lib.hid (show ∀ k, k ≤ now → st ≤ k → storeAtL ys now k = storeAtL zs now k from fun k h1 h2 => by rw [← e2]; exact prune_at HSB.out h1 h2)
  have hn30 := (storeB_iff.1 HSB.out).1
  clear e2
  skip
  have hq0 : Below Wx.heap.size Wx Wx := Below.refl _ _
  go_upto_region 5 with fail
  go_cut [28] (fun s9 wx => s9 = .bool false ∧ Below Wx.heap.size Wx wx)
  case first =>
    go_region_held3 (fun w' => w'.cell? ⟨Gs, 0, none⟩ = some (.int .i64 now) ∧ w'.cell? ⟨Gs, 1, none⟩ = some (.slice A2 zs.length c2) ∧ w'.cell? ⟨Gx, 0, none⟩ = some (.int .i64 now) ∧ w'.cell? ⟨Gx, 1, none⟩ = some (.slice AX ys.length cX) ∧ Wx.heap.size ≤ w'.heap.size ∧ Below Wx.heap.size Wx w')
      (((try go_split_ands); refine ⟨?cc90, ?cc91, ?cc92, ?cc93, ?sz9, ?bl9⟩; (case cc90 => (repeat (first | with_reducible assumption | with_reducible refine cell_below hb (by first | omega | (simp; done) | (simp; omega)) ?_ | with_reducible refine cell_set_far (by first | omega | (simp; done) | (simp; omega)) ?_ | with_reducible exact cell_alloc_swap (by with_reducible assumption) (by first | omega | (simp; done) | (simp; omega)) | with_reducible refine cell_alloc_far ?_ | with_reducible refine cell_drew ?_))); (case cc91 => (repeat (first | with_reducible assumption | with_reducible refine cell_below hb (by first | omega | (simp; done) | (simp; omega)) ?_ | with_reducible refine cell_set_far (by first | omega | (simp; done) | (simp; omega)) ?_ | with_reducible exact cell_alloc_swap (by with_reducible assumption) (by first | omega | (simp; done) | (simp; omega)) | with_reducible refine cell_alloc_far ?_ | with_reducible refine cell_drew ?_))); (case cc92 => (repeat (first | with_reducible assumption | with_reducible refine cell_below hb (by first | omega | (simp; done) | (simp; omega)) ?_ | with_reducible refine cell_set_far (by first | omega | (simp; done) | (simp; omega)) ?_ | with_reducible exact cell_alloc_swap (by with_reducible assumption) (by first | omega | (simp; done) | (simp; omega)) | with_reducible refine cell_alloc_far ?_ | with_reducible refine cell_drew ?_))); (case cc93 => (repeat (first | with_reducible assumption | with_reducible refine cell_below hb (by first | omega | (simp; done) | (simp; omega)) ?_ | with_reducible refine cell_set_far (by first | omega | (simp; done) | (simp; omega)) ?_ | with_reducible exact cell_alloc_swap (by with_reducible assumption) (by first | omega | (simp; done) | (simp; omega)) | with_reducible refine cell_alloc_far ?_ | with_reducible refine cell_drew ?_))); (case sz9 => (first | with_reducible assumption | (have := hb.size; omega) | omega | (simp; done) | (simp; omega) | (have := hb.size; simp at this ⊢; omega))); (case bl9 => (repeat (first | with_reducible assumption | with_reducible exact hq0 | with_reducible refine Below.drew ?_ | with_reducible refine Below.trans ?_ (hb.mono (by first | omega | (simp; done) | (simp; omega))) | with_reducible refine Below.setCell ?_ (by first | omega | (simp; done) | (simp; omega)) _ | with_reducible exact below_alloc_swap (by with_reducible assumption) (by first | omega | (simp; done) | (simp; omega)) | with_reducible refine Below.alloc ?_ (by first | omega | (simp; done) | (simp; omega)) _)))))
      (first
      | (go_at_call 28; (try go_split_ands); (with_reducible refine (sStorePrune_any A2 c2 zs now st _ (ZWx.out.below (by (repeat (first | with_reducible assumption | with_reducible exact hq0 | with_reducible refine Below.drew ?_ | with_reducible refine Below.trans ?_ (hb.mono (by first | omega | (simp; done) | (simp; omega))) | with_reducible refine Below.setCell ?_ (by first | omega | (simp; done) | (simp; omega)) _ | with_reducible exact below_alloc_swap (by with_reducible assumption) (by first | omega | (simp; done) | (simp; omega)) | with_reducible refine Below.alloc ?_ (by first | omega | (simp; done) | (simp; omega)) _)))) HA2.out HN2.out (by omega) HS.out).mono ?_); rw [HQ.out]; rintro e wP ⟨AP, cP, rfl, ho, hb⟩; have VP := Lib.hid (show VersA wP AP ys from el_of_owns verC_len (show wP.ownsRow _ 74 6 (.slice AP ys.length cP) ys.length (flatOf verC ys) from ho)); have XP := Lib.hid (XWx.out.below (show Below Wx.heap.size Wx wP from (by (repeat (first | with_reducible assumption | with_reducible exact hq0 | with_reducible refine Below.drew ?_ | with_reducible refine Below.trans ?_ (hb.mono (by first | omega | (simp; done) | (simp; omega))) | with_reducible refine Below.setCell ?_ (by first | omega | (simp; done) | (simp; omega)) _ | with_reducible exact below_alloc_swap (by with_reducible assumption) (by first | omega | (simp; done) | (simp; omega)) | with_reducible refine Below.alloc ?_ (by first | omega | (simp; done) | (simp; omega)) _))))); clear ho; have hszP : Wx.heap.size ≤ wP.heap.size := (by have := hb.size; first | omega | (simp at this; omega)); obtain ⟨hcP, hfP, hlP⟩ := bcell3 hb)
      | (go_at_call 49; (try go_split_ands); (with_reducible refine (vaStore_same AX AP cX cP now ys _ XP.out VP.out (by unfold maxLen; omega)).mono ?_); rintro e wV ⟨rfl, hb⟩; have hszV : Wx.heap.size ≤ wV.heap.size := (by have := hb.size; first | omega | (simp at this; omega)); obtain ⟨hcV, hfV, hlV⟩ := bcell3 hb)
      | (go_at_call 50; (try go_split_ands); (with_reducible refine (StoreOk_any A2 c2 zs now _ (ZWx.out.below (by (repeat (first | with_reducible assumption | with_reducible exact hq0 | with_reducible refine Below.drew ?_ | with_reducible refine Below.trans ?_ (hb.mono (by first | omega | (simp; done) | (simp; omega))) | with_reducible refine Below.setCell ?_ (by first | omega | (simp; done) | (simp; omega)) _ | with_reducible exact below_alloc_swap (by with_reducible assumption) (by first | omega | (simp; done) | (simp; omega)) | with_reducible refine Below.alloc ?_ (by first | omega | (simp; done) | (simp; omega)) _)))) (by omega) HS.out).mono ?_); rw [HSB.out]; rintro e wK ⟨rfl, hb⟩; have hszK : Wx.heap.size ≤ wK.heap.size := (by have := hb.size; first | omega | (simp at this; omega)); obtain ⟨hcK, hfK, hlK⟩ := bcell3 hb))
    all_goals (go_wp2_with fail; go_meet; rename_i hH; exact ⟨rfl, hH.2.2.2.2.2⟩)
  case rest =>
    obtain ⟨rfl, hb⟩ := hcut
    clear hq0
    replace cs0 := cellBelow hb ls cs0
    replace cs1 := cellBelow hb ls cs1
    replace ls := Nat.lt_of_lt_of_le ls hb.size
    replace cx0 := cellBelow hb lx cx0
    replace cx1 := cellBelow hb lx cx1
    replace lx := Nat.lt_of_lt_of_le lx hb.size
    have Zwc := Lib.hid (ZWx.out.below hb)
    clear ZWx
    have Xwc := Lib.hid (XWx.out.below hb)
    clear XWx
    have Bwc := Lib.hid (BWx.out.trans (hb.mono BWx.out.size))
    clear hb BWx
    go_wp2
    have S0 := Lib.hid cs0
    have S1 := Lib.hid cs1
    have X0 := Lib.hid cx0
    have X1 := Lib.hid cx1
    clear cs0 cs1 cx0 cx1
    go_loopw [6] (fun i wr => ∃ k : Int, 0 ≤ k ∧ k ≤ now + 1 ∧ i = .int .i64 k ∧ Below wc.heap.size wc wr) (fun i _ => (now + 1 - intOf i).toNat)
    case atStart => exact ⟨0, Int.le_refl _, by omega, rfl, Below.refl _ _⟩
    case round =>
      obtain ⟨k, hk0, hk1, rfl, hbr⟩ := hrel
      have t0 := cellBelow hbr ls S0.out
      have t1 := cellBelow hbr ls S1.out
      have x0 := cellBelow hbr lx X0.out
      have x1 := cellBelow hbr lx X1.out
      have hsz := hbr.size
      have BW := Lib.hid (Bwc.out.trans (hbr.mono Bwc.out.size))
      have ZW := Lib.hid (Zwc.out.below hbr)
      have XW := Lib.hid (Xwc.out.below hbr)
      have hGs : Gs < wr.heap.size := by omega
      have hGx : Gx < wr.heap.size := by omega
      have hq0 : Below wr.heap.size wr wr := Below.refl _ _
      by_cases hlt : k ≤ now
      · by_cases hge : st ≤ k
        · have hdn : decide (st ≤ k) = true := decide_eq_true hge
          have hal := storeAtL_len zs now k
          obtain ⟨al, hall⟩ : ∃ al, storeAtL zs now k = al := ⟨_, rfl⟩
          have HAL := Lib.hid hall
          have HE := Lib.hid (show storeAtL ys now k = al from (HAT.out k hlt hge).trans hall)
          rw [hall] at hal
          clear hall
          go_upto_region 10 with fail
          go_region_held3 (fun w' => w'.cell? ⟨Gs, 0, none⟩ = some (.int .i64 now) ∧ w'.cell? ⟨Gs, 1, none⟩ = some (.slice A2 zs.length c2) ∧ w'.cell? ⟨Gx, 0, none⟩ = some (.int .i64 now) ∧ w'.cell? ⟨Gx, 1, none⟩ = some (.slice AX ys.length cX) ∧ wr.heap.size ≤ w'.heap.size ∧ Below wr.heap.size wr w')
            (((try go_split_ands); refine ⟨?cc90, ?cc91, ?cc92, ?cc93, ?sz9, ?bl9⟩; (case cc90 => (repeat (first | with_reducible assumption | with_reducible refine cell_below hb (by first | omega | (simp; done) | (simp; omega)) ?_ | with_reducible refine cell_set_far (by first | omega | (simp; done) | (simp; omega)) ?_ | with_reducible exact cell_alloc_swap (by with_reducible assumption) (by first | omega | (simp; done) | (simp; omega)) | with_reducible refine cell_alloc_far ?_ | with_reducible refine cell_drew ?_))); (case cc91 => (repeat (first | with_reducible assumption | with_reducible refine cell_below hb (by first | omega | (simp; done) | (simp; omega)) ?_ | with_reducible refine cell_set_far (by first | omega | (simp; done) | (simp; omega)) ?_ | with_reducible exact cell_alloc_swap (by with_reducible assumption) (by first | omega | (simp; done) | (simp; omega)) | with_reducible refine cell_alloc_far ?_ | with_reducible refine cell_drew ?_))); (case cc92 => (repeat (first | with_reducible assumption | with_reducible refine cell_below hb (by first | omega | (simp; done) | (simp; omega)) ?_ | with_reducible refine cell_set_far (by first | omega | (simp; done) | (simp; omega)) ?_ | with_reducible exact cell_alloc_swap (by with_reducible assumption) (by first | omega | (simp; done) | (simp; omega)) | with_reducible refine cell_alloc_far ?_ | with_reducible refine cell_drew ?_))); (case cc93 => (repeat (first | with_reducible assumption | with_reducible refine cell_below hb (by first | omega | (simp; done) | (simp; omega)) ?_ | with_reducible refine cell_set_far (by first | omega | (simp; done) | (simp; omega)) ?_ | with_reducible exact cell_alloc_swap (by with_reducible assumption) (by first | omega | (simp; done) | (simp; omega)) | with_reducible refine cell_alloc_far ?_ | with_reducible refine cell_drew ?_))); (case sz9 => (first | with_reducible assumption | (have := hb.size; omega) | omega | (simp; done) | (simp; omega) | (have := hb.size; simp at this ⊢; omega))); (case bl9 => (repeat (first | with_reducible assumption | with_reducible exact hq0 | with_reducible refine Below.drew ?_ | with_reducible refine Below.trans ?_ (hb.mono (by first | omega | (simp; done) | (simp; omega))) | with_reducible refine Below.setCell ?_ (by first | omega | (simp; done) | (simp; omega)) _ | with_reducible exact below_alloc_swap (by with_reducible assumption) (by first | omega | (simp; done) | (simp; omega)) | with_reducible refine Below.alloc ?_ (by first | omega | (simp; done) | (simp; omega)) _)))))
            (first
              | (go_at_call 43; (try go_split_ands); (with_reducible refine (StoreAt_any AX cX ys now k _ (XW.out.below (by (repeat (first | with_reducible assumption | with_reducible exact hq0 | with_reducible refine Below.drew ?_ | with_reducible refine Below.trans ?_ (hb.mono (by first | omega | (simp; done) | (simp; omega))) | with_reducible refine Below.setCell ?_ (by first | omega | (simp; done) | (simp; omega)) _ | with_reducible exact below_alloc_swap (by with_reducible assumption) (by first | omega | (simp; done) | (simp; omega)) | with_reducible refine Below.alloc ?_ (by first | omega | (simp; done) | (simp; omega)) _)))) (by omega) HYS.out).mono ?_); rw [HE.out]; rintro e wD3 ⟨AD3, cD3, rfl, ho, hb⟩; have RD3 := Lib.hid (rowsA_own ho rfl); clear ho; have hszD3 : wr.heap.size ≤ wD3.heap.size := (by have := hb.size; first | omega | (simp at this; omega)); obtain ⟨hcD3, hfD3, hlD3⟩ := bcell3 hb)
              | (go_at_call 43; (try go_split_ands); (with_reducible refine (StoreAt_any A2 c2 zs now k _ (ZW.out.below (by (repeat (first | with_reducible assumption | with_reducible exact hq0 | with_reducible refine Below.drew ?_ | with_reducible refine Below.trans ?_ (hb.mono (by first | omega | (simp; done) | (simp; omega))) | with_reducible refine Below.setCell ?_ (by first | omega | (simp; done) | (simp; omega)) _ | with_reducible exact below_alloc_swap (by with_reducible assumption) (by first | omega | (simp; done) | (simp; omega)) | with_reducible refine Below.alloc ?_ (by first | omega | (simp; done) | (simp; omega)) _)))) (by omega) HS.out).mono ?_); rw [HAL.out]; rintro e wD4 ⟨AD4, cD4, rfl, ho, hb⟩; have RD4 := Lib.hid (rowsA_own ho rfl); have RD3D4 := Lib.hid (RD3.out.below hb); clear ho; have hszD4 : wr.heap.size ≤ wD4.heap.size := (by have := hb.size; first | omega | (simp at this; omega)); obtain ⟨hcD4, hfD4, hlD4⟩ := bcell3 hb)
              | (go_at_call 44; (try go_split_ands); (with_reducible refine (vaRows_same AD3 AD4 cD3 cD4 al _ RD3D4.out RD4.out (by unfold maxLen; omega)).mono ?_); rintro e wV2 ⟨rfl, hb⟩; have hszV2 : wr.heap.size ≤ wV2.heap.size := (by have := hb.size; first | omega | (simp at this; omega)); obtain ⟨hcV2, hfV2, hlV2⟩ := bcell3 hb))
          all_goals (rename_i hH; have BV := Lib.hid (hbr.trans (hH.2.2.2.2.2.mono hbr.size)); clear hH)
          all_goals go_wp2
          all_goals go_roundw
          case rel => exact ⟨k + 1, by omega, by omega, by go_num, BV.out⟩
          case measure => simp [intOf]; omega
        · have hdn : decide (st ≤ k) = false := decide_eq_false hge
          go_upto_region 10 with fail
          refine wp_region_held_drew (S := (fun w' => w'.cell? ⟨Gs, 0, none⟩ = some (.int .i64 now) ∧ w'.cell? ⟨Gs, 1, none⟩ = some (.slice A2 zs.length c2) ∧ w'.cell? ⟨Gx, 0, none⟩ = some (.int .i64 now) ∧ w'.cell? ⟨Gx, 1, none⟩ = some (.slice AX ys.length cX) ∧ wr.heap.size ≤ w'.heap.size ∧ Below wr.heap.size wr w')) (by kernel_rfl) ?hS9 (fun hHeld0 => ?_)
          case hS9 => (try dsimp only); ((try go_split_ands); refine ⟨?cc90, ?cc91, ?cc92, ?cc93, ?sz9, ?bl9⟩; (case cc90 => (repeat (first | with_reducible assumption | with_reducible refine cell_below hb (by first | omega | (simp; done) | (simp; omega)) ?_ | with_reducible refine cell_set_far (by first | omega | (simp; done) | (simp; omega)) ?_ | with_reducible exact cell_alloc_swap (by with_reducible assumption) (by first | omega | (simp; done) | (simp; omega)) | with_reducible refine cell_alloc_far ?_ | with_reducible refine cell_drew ?_))); (case cc91 => (repeat (first | with_reducible assumption | with_reducible refine cell_below hb (by first | omega | (simp; done) | (simp; omega)) ?_ | with_reducible refine cell_set_far (by first | omega | (simp; done) | (simp; omega)) ?_ | with_reducible exact cell_alloc_swap (by with_reducible assumption) (by first | omega | (simp; done) | (simp; omega)) | with_reducible refine cell_alloc_far ?_ | with_reducible refine cell_drew ?_))); (case cc92 => (repeat (first | with_reducible assumption | with_reducible refine cell_below hb (by first | omega | (simp; done) | (simp; omega)) ?_ | with_reducible refine cell_set_far (by first | omega | (simp; done) | (simp; omega)) ?_ | with_reducible exact cell_alloc_swap (by with_reducible assumption) (by first | omega | (simp; done) | (simp; omega)) | with_reducible refine cell_alloc_far ?_ | with_reducible refine cell_drew ?_))); (case cc93 => (repeat (first | with_reducible assumption | with_reducible refine cell_below hb (by first | omega | (simp; done) | (simp; omega)) ?_ | with_reducible refine cell_set_far (by first | omega | (simp; done) | (simp; omega)) ?_ | with_reducible exact cell_alloc_swap (by with_reducible assumption) (by first | omega | (simp; done) | (simp; omega)) | with_reducible refine cell_alloc_far ?_ | with_reducible refine cell_drew ?_))); (case sz9 => (first | with_reducible assumption | (have := hb.size; omega) | omega | (simp; done) | (simp; omega) | (have := hb.size; simp at this ⊢; omega))); (case bl9 => (repeat (first | with_reducible assumption | with_reducible exact hq0 | with_reducible refine Below.drew ?_ | with_reducible refine Below.trans ?_ (hb.mono (by first | omega | (simp; done) | (simp; omega))) | with_reducible refine Below.setCell ?_ (by first | omega | (simp; done) | (simp; omega)) _ | with_reducible exact below_alloc_swap (by with_reducible assumption) (by first | omega | (simp; done) | (simp; omega)) | with_reducible refine Below.alloc ?_ (by first | omega | (simp; done) | (simp; omega)) _))))
          refine wpAnyH_take (i := 0) (oi := { dst := some 40, op := Op.move (Operand.tmp 6), type := 3, pos := "laws.go:1403", after := #[], guard := none }) (v := ?va0) rfl (by kernel_rfl) (by kernel_rfl) (by kernel_rfl) (fun _ _ _ h => h) (Or.inl ⟨by rfl, ?hya0⟩) (by assumption) ?ra0
          case hya0 => (intro w hSw; (try dsimp only at hSw); go_simp; try with_reducible rfl)
          try simp only [Act.put, List.setIfInBounds_toArray, List.set_cons_zero, List.set_cons_succ]
          refine wpAnyH_take (i := 1) (oi := { dst := some 41, op := Op.move (Operand.tmp 4), type := 3, pos := "laws.go:1403", after := #[], guard := none }) (v := ?va1) rfl (by kernel_rfl) (by kernel_rfl) (by kernel_rfl) (fun _ _ _ h => h) (Or.inl ⟨by rfl, ?hya1⟩) (by assumption) ?ra1
          case hya1 => (intro w hSw; (try dsimp only at hSw); go_simp; try with_reducible rfl)
          try simp only [Act.put, List.setIfInBounds_toArray, List.set_cons_zero, List.set_cons_succ]
          refine wpAnyH_take (i := 2) (oi := { dst := some 42, op := Op.binOp BinOp.geq 3 (Operand.tmp 40) (Operand.tmp 41) 3, type := 4, pos := "laws.go:1403", after := #[{ on := 0, ground := Ground.data }, { on := 1, ground := Ground.data }], guard := none }) (v := ?va2) rfl (by kernel_rfl) (by kernel_rfl) (by kernel_rfl) (fun _ _ _ h => h) (Or.inl ⟨by rfl, ?hya2⟩) (by assumption) ?ra2
          case hya2 => (intro w hSw; (try dsimp only at hSw); go_simp; try with_reducible rfl)
          try simp only [Act.put, List.setIfInBounds_toArray, List.set_cons_zero, List.set_cons_succ]
          refine wpAnyH_take (i := 3) (oi := { dst := some 43, op := Op.move (Operand.tmp 42), type := 4, pos := "laws.go:1403", after := #[{ on := 2, ground := Ground.data }], guard := none }) (v := ?va3) rfl (by kernel_rfl) (by kernel_rfl) (by kernel_rfl) (fun _ _ _ h => h) (Or.inl ⟨by rfl, ?hya3⟩) (by assumption) ?ra3
          case hya3 => (intro w hSw; (try dsimp only at hSw); go_simp; try with_reducible rfl)
          try simp only [Act.put, List.setIfInBounds_toArray, List.set_cons_zero, List.set_cons_succ]
          refine wpAnyH_take (i := 4) (oi := { dst := some 44, op := Op.load 26 (Operand.tmp 5), type := 26, pos := "laws.go:1403", after := #[{ on := 3, ground := Ground.guard }], guard := some (3, true) }) (v := undef) rfl (by kernel_rfl) (by kernel_rfl) (by kernel_rfl) (fun _ _ _ h => h) (Or.inr ⟨by rfl, rfl⟩) (by assumption) ?_
          try simp only [Act.put, List.setIfInBounds_toArray, List.set_cons_zero, List.set_cons_succ]
          refine wpAnyH_take (i := 5) (oi := { dst := some 45, op := Op.move (Operand.tmp 6), type := 3, pos := "laws.go:1403", after := #[{ on := 3, ground := Ground.guard }], guard := some (3, true) }) (v := undef) rfl (by kernel_rfl) (by kernel_rfl) (by kernel_rfl) (fun _ _ _ h => h) (Or.inr ⟨by rfl, rfl⟩) (by assumption) ?_
          try simp only [Act.put, List.setIfInBounds_toArray, List.set_cons_zero, List.set_cons_succ]
          refine wpAnyH_take (i := 6) (oi := { dst := some 46, op := Op.call { callee := Callee.value (Operand.func 43), args := #[Operand.tmp 44, Operand.tmp 45], argTypes := #[26, 3] }, type := 58, pos := "laws.go:1403", after := #[{ on := 4, ground := Ground.data }, { on := 5, ground := Ground.data }, { on := 3, ground := Ground.chain }, { on := 3, ground := Ground.guard }], guard := some (3, true) }) (v := undef) rfl (by kernel_rfl) (by kernel_rfl) (by kernel_rfl) (fun _ _ _ h => h) (Or.inr ⟨by rfl, rfl⟩) (by assumption) ?_
          try simp only [Act.put, List.setIfInBounds_toArray, List.set_cons_zero, List.set_cons_succ]
          refine wpAnyH_take (i := 7) (oi := { dst := some 47, op := Op.load 26 (Operand.tmp 3), type := 26, pos := "laws.go:1403", after := #[{ on := 3, ground := Ground.guard }], guard := some (3, true) }) (v := undef) rfl (by kernel_rfl) (by kernel_rfl) (by kernel_rfl) (fun _ _ _ h => h) (Or.inr ⟨by rfl, rfl⟩) (by assumption) ?_
          try simp only [Act.put, List.setIfInBounds_toArray, List.set_cons_zero, List.set_cons_succ]
          refine wpAnyH_take (i := 8) (oi := { dst := some 48, op := Op.move (Operand.tmp 6), type := 3, pos := "laws.go:1403", after := #[{ on := 3, ground := Ground.guard }], guard := some (3, true) }) (v := undef) rfl (by kernel_rfl) (by kernel_rfl) (by kernel_rfl) (fun _ _ _ h => h) (Or.inr ⟨by rfl, rfl⟩) (by assumption) ?_
          try simp only [Act.put, List.setIfInBounds_toArray, List.set_cons_zero, List.set_cons_succ]
          refine wpAnyH_take (i := 9) (oi := { dst := some 49, op := Op.call { callee := Callee.value (Operand.func 43), args := #[Operand.tmp 47, Operand.tmp 48], argTypes := #[26, 3] }, type := 58, pos := "laws.go:1403", after := #[{ on := 7, ground := Ground.data }, { on := 8, ground := Ground.data }, { on := 6, ground := Ground.chain }, { on := 3, ground := Ground.guard }], guard := some (3, true) }) (v := undef) rfl (by kernel_rfl) (by kernel_rfl) (by kernel_rfl) (fun _ _ _ h => h) (Or.inr ⟨by rfl, rfl⟩) (by assumption) ?_
          try simp only [Act.put, List.setIfInBounds_toArray, List.set_cons_zero, List.set_cons_succ]
          refine wpAnyH_take (i := 10) (oi := { dst := some 50, op := Op.call { callee := Callee.value (Operand.func 44), args := #[Operand.tmp 46, Operand.tmp 49], argTypes := #[58, 58] }, type := 4, pos := "laws.go:1403", after := #[{ on := 6, ground := Ground.data }, { on := 9, ground := Ground.data }, { on := 9, ground := Ground.chain }, { on := 3, ground := Ground.guard }], guard := some (3, true) }) (v := undef) rfl (by kernel_rfl) (by kernel_rfl) (by kernel_rfl) (fun _ _ _ h => h) (Or.inr ⟨by rfl, rfl⟩) (by assumption) ?_
          try simp only [Act.put, List.setIfInBounds_toArray, List.set_cons_zero, List.set_cons_succ]
          refine wpAnyH_take (i := 11) (oi := { dst := some 51, op := Op.unOp UnOp.not 4 (Operand.tmp 50), type := 4, pos := "laws.go:1403", after := #[{ on := 10, ground := Ground.data }, { on := 3, ground := Ground.guard }], guard := some (3, true) }) (v := undef) rfl (by kernel_rfl) (by kernel_rfl) (by kernel_rfl) (fun _ _ _ h => h) (Or.inr ⟨by rfl, rfl⟩) (by assumption) ?_
          try simp only [Act.put, List.setIfInBounds_toArray, List.set_cons_zero, List.set_cons_succ]
          refine wpAnyH_take (i := 12) (oi := { dst := some 52, op := Op.pick (Operand.tmp 43) (Operand.tmp 51) (Operand.const (Value.bool false)), type := 4, pos := "laws.go:1403", after := #[{ on := 3, ground := Ground.data }, { on := 11, ground := Ground.data }], guard := none }) (v := ?va12) rfl (by kernel_rfl) (by kernel_rfl) (by kernel_rfl) (fun _ _ _ h => h) (Or.inl ⟨by rfl, ?hya12⟩) (by assumption) ?ra12
          case hya12 => (intro w hSw; (try dsimp only at hSw); go_simp; try with_reducible rfl)
          try simp only [Act.put, List.setIfInBounds_toArray, List.set_cons_zero, List.set_cons_succ]
          refine wpAnyH_done (by kernel_rfl) ?_ _
          have BV := Lib.hid (hbr.trans (hHeld0.2.2.2.2.2.mono hbr.size))
          clear hHeld0
          go_wp2
          go_roundw
          case rel => exact ⟨k + 1, by omega, by omega, by go_num, BV.out⟩
          case measure => simp [intOf]; omega
      · have hlen : decide ((ys.length : Int) ≤ (zs.length : Int)) = true := decide_eq_true (by omega)
        go_upto_region 12 with fail
        go_region_held3 (fun w' => w'.cell? ⟨Gs, 0, none⟩ = some (.int .i64 now) ∧ w'.cell? ⟨Gs, 1, none⟩ = some (.slice A2 zs.length c2) ∧ w'.cell? ⟨Gx, 0, none⟩ = some (.int .i64 now) ∧ w'.cell? ⟨Gx, 1, none⟩ = some (.slice AX ys.length cX) ∧ wr.heap.size ≤ w'.heap.size ∧ Below wr.heap.size wr w')
          (((try go_split_ands); refine ⟨?cc90, ?cc91, ?cc92, ?cc93, ?sz9, ?bl9⟩; (case cc90 => (repeat (first | with_reducible assumption | with_reducible refine cell_below hb (by first | omega | (simp; done) | (simp; omega)) ?_ | with_reducible refine cell_set_far (by first | omega | (simp; done) | (simp; omega)) ?_ | with_reducible exact cell_alloc_swap (by with_reducible assumption) (by first | omega | (simp; done) | (simp; omega)) | with_reducible refine cell_alloc_far ?_ | with_reducible refine cell_drew ?_))); (case cc91 => (repeat (first | with_reducible assumption | with_reducible refine cell_below hb (by first | omega | (simp; done) | (simp; omega)) ?_ | with_reducible refine cell_set_far (by first | omega | (simp; done) | (simp; omega)) ?_ | with_reducible exact cell_alloc_swap (by with_reducible assumption) (by first | omega | (simp; done) | (simp; omega)) | with_reducible refine cell_alloc_far ?_ | with_reducible refine cell_drew ?_))); (case cc92 => (repeat (first | with_reducible assumption | with_reducible refine cell_below hb (by first | omega | (simp; done) | (simp; omega)) ?_ | with_reducible refine cell_set_far (by first | omega | (simp; done) | (simp; omega)) ?_ | with_reducible exact cell_alloc_swap (by with_reducible assumption) (by first | omega | (simp; done) | (simp; omega)) | with_reducible refine cell_alloc_far ?_ | with_reducible refine cell_drew ?_))); (case cc93 => (repeat (first | with_reducible assumption | with_reducible refine cell_below hb (by first | omega | (simp; done) | (simp; omega)) ?_ | with_reducible refine cell_set_far (by first | omega | (simp; done) | (simp; omega)) ?_ | with_reducible exact cell_alloc_swap (by with_reducible assumption) (by first | omega | (simp; done) | (simp; omega)) | with_reducible refine cell_alloc_far ?_ | with_reducible refine cell_drew ?_))); (case sz9 => (first | with_reducible assumption | (have := hb.size; omega) | omega | (simp; done) | (simp; omega) | (have := hb.size; simp at this ⊢; omega))); (case bl9 => (repeat (first | with_reducible assumption | with_reducible exact hq0 | with_reducible refine Below.drew ?_ | with_reducible refine Below.trans ?_ (hb.mono (by first | omega | (simp; done) | (simp; omega))) | with_reducible refine Below.setCell ?_ (by first | omega | (simp; done) | (simp; omega)) _ | with_reducible exact below_alloc_swap (by with_reducible assumption) (by first | omega | (simp; done) | (simp; omega)) | with_reducible refine Below.alloc ?_ (by first | omega | (simp; done) | (simp; omega)) _)))))
          (first
            | (go_at_call 29; (try go_split_ands); (with_reducible refine (StorePrune_any AX cX ys now st _ (XW.out.below (by (repeat (first | with_reducible assumption | with_reducible exact hq0 | with_reducible refine Below.drew ?_ | with_reducible refine Below.trans ?_ (hb.mono (by first | omega | (simp; done) | (simp; omega))) | with_reducible refine Below.setCell ?_ (by first | omega | (simp; done) | (simp; omega)) _ | with_reducible exact below_alloc_swap (by with_reducible assumption) (by first | omega | (simp; done) | (simp; omega)) | with_reducible refine Below.alloc ?_ (by first | omega | (simp; done) | (simp; omega)) _)))) HAX.out HNX.out (by omega) HYS.out).mono ?_); rw [HTW.out]; rintro e wP ⟨AP, cP, rfl, ho, hb⟩; have VP := Lib.hid (show VersA wP AP ys from el_of_owns verC_len (show wP.ownsRow _ 74 6 (.slice AP ys.length cP) ys.length (flatOf verC ys) from ho)); have XP := Lib.hid (XW.out.below (show Below wr.heap.size wr wP from (by (repeat (first | with_reducible assumption | with_reducible exact hq0 | with_reducible refine Below.drew ?_ | with_reducible refine Below.trans ?_ (hb.mono (by first | omega | (simp; done) | (simp; omega))) | with_reducible refine Below.setCell ?_ (by first | omega | (simp; done) | (simp; omega)) _ | with_reducible exact below_alloc_swap (by with_reducible assumption) (by first | omega | (simp; done) | (simp; omega)) | with_reducible refine Below.alloc ?_ (by first | omega | (simp; done) | (simp; omega)) _))))); clear ho; have hszP : wr.heap.size ≤ wP.heap.size := (by have := hb.size; first | omega | (simp at this; omega)); obtain ⟨hcP, hfP, hlP⟩ := bcell3 hb)
            | (go_at_call 49; (try go_split_ands); (with_reducible refine (vaStore_same AP AX cP cX now ys _ VP.out XP.out (by unfold maxLen; omega)).mono ?_); rintro e wV ⟨rfl, hb⟩; have hszV : wr.heap.size ≤ wV.heap.size := (by have := hb.size; first | omega | (simp at this; omega)); obtain ⟨hcV, hfV, hlV⟩ := bcell3 hb))
        all_goals (rename_i hH; have BV := Lib.hid (BW.out.trans (hH.2.2.2.2.2.mono BW.out.size)); clear hH)
        all_goals go_wp2
        all_goals go_ret
        all_goals exact ⟨rfl, BV.out⟩
end Go.Proofs.Ytacddgipcafdlaa
