/-
  The walk of the law of a store with another table (P28).
-/
import Derived.Test.YtacddgipcafdlaaDrawSf
import Derived.Test.YtacddgipcafdlaaVaR
import Derived.Test.YtacddgipcafdlaaVaS
import Derived.Test.YtacddgipcafdlaaStoreP
namespace Go.Proofs.Ytacddgipcafdlaa
open Go.Shelf Go.RowKit Go.Lib Go.Sort

theorem set_at {zs : List VerV} {now st : Int} {t : List RowV} (h : storeB zs now = true) (hg : goesB zs now t) (hs : st ≤ now) : storeAtL (setL zs now t) (now + 1) st = storeAtL zs now st := by
  have hn := (storeB_iff.1 h).1
  rw [storeAtL, storeAtL, if_pos (set_ok h hg), if_pos h, show min st (now + 1) = st from by omega, show min st now = st from by omega]
  exact liveS_old hs hn.2
theorem set_new {zs : List VerV} {now st : Int} {t : List RowV} (h : storeB zs now = true) (hg : goesB zs now t) (hs : now + 1 ≤ st) : storeAtL (setL zs now t) (now + 1) st = t := by
  have hn := (storeB_iff.1 h).1
  rw [storeAtL, if_pos (set_ok h hg), show min st (now + 1) = now + 1 from by omega]
  exact liveS_new h (by have := hg.2.1; omega) hg.1

theorem StoreOkV (A : Option Addr) (cap : Nat) (zs : List VerV) (now : Int) (w : World) (v : Bool) (hz : VersA w A zs) (hl : zs.length ≤ 1048576) (hs : ShortV zs) (h : storeB zs now = v) :
    Calls Try.prog 50 #[.agg #[.int .i64 now, .slice A zs.length cap]] w fun e w' => e = .returned (.bool v) ∧ Below w.heap.size w w' := by
  subst h; exact StoreOk_any A cap zs now w hz (by omega) hs
theorem sStoreOkV (A : Option Addr) (cap : Nat) (zs : List VerV) (now : Int) (w : World) (v : Bool) (hz : VersA w A zs) (hl : zs.length ≤ 1048576) (hs : ShortV zs) (h : storeB zs now = v) :
    Calls Try.prog 51 #[.agg #[.int .i64 now, .slice A zs.length cap]] w fun e w' => e = .returned (.bool v) ∧ Below w.heap.size w w' := by
  subst h; exact sStoreOk_any A cap zs now w hz hl hs
theorem store_shortV {zs : List VerV} {now : Int} (h : storeB zs now = true) : ShortV zs := fun x hx => by
  have h1 := rowOk_iff.1 (ver_out h hx).1
  have h2 := h1.1
  have h3 := h1.2.1
  simp only [wordB, Bool.and_eq_true, decide_eq_true_eq] at h2 h3
  unfold maxLen
  omega

set_option maxRecDepth 100000 in
set_option maxHeartbeats 8000000 in
theorem FnStoreSet_any (A : Option Addr) (n cap : Nat) (bs : List Int) (w : World) (hz : Bytes w w.heap.size A bs ∧ bs.length = n ∧ n ≤ cap ∧ cap ≤ maxLen) :
    Calls Try.prog 9 #[.slice A n cap] w fun e w' => e = .returned (.bool true) ∧ Below w.heap.size w w' := by
  obtain ⟨hz, rfl, hc, hm⟩ := hz
  have hm' := hm
  unfold maxLen at hm'
  by_cases hl : (1048576 : Int) < bs.length
  · go_enter Try.func9, Try.ntmps9
    go_wp2
    go_ret
    exact ⟨rfl, Below.refl _ _⟩
  go_enter Try.func9, Try.ntmps9
  go_wp2_with fail
  refine (DrawStoreSet_any A cap bs w hz hc hm).mono ?_
  rintro e w1 ⟨zs, now, A2, c2, ts, T, ct, rfl, htl, hts, hto, hzl, hsh, hnow, ho, hb1⟩
  have HS := Lib.hid hsh
  have HTS := Lib.hid hts
  have O1 := Lib.hid ho
  have OT1 := Lib.hid hto
  clear hz hm hm' hc hsh ho hts hto
  obtain ⟨sb, hsb⟩ : ∃ sb, storeB zs now = sb := ⟨_, rfl⟩
  have HSB := Lib.hid hsb
  have hyl := setP_len zs now ts
  obtain ⟨n', ys, ok, hq⟩ : ∃ n' ys ok, setP zs now ts = (n', ys, ok) := ⟨_, _, _, rfl⟩
  have HQ := Lib.hid hq
  rw [hq] at hyl
  replace hyl : ys.length ≤ zs.length + ts.length := hyl
  clear hsb hq
  have B1 := Lib.hid hb1
  have Zs := Lib.hid (show VersA w1 A2 zs from el_of_owns verC_len O1.out)
  have Tt := Lib.hid (show RowsA w1 T ts from el_of_owns rowC_len OT1.out)
  have HA2 := Lib.hid (owns_addrV O1.out)
  have HN2 := Lib.hid (owns_nilcap O1.out)
  clear hb1 O1 OT1
  go_wp2_with fail
  generalize hW : w1.alloc _ = Ws
  have cs0 : Ws.cell? ⟨w1.heap.size, 0, none⟩ = some (.int .i64 now) := by rw [← hW]; simp [go_sem]
  have cs1 : Ws.cell? ⟨w1.heap.size, 1, none⟩ = some (.slice A2 zs.length c2) := by rw [← hW]; simp [go_sem]
  have ls : w1.heap.size < Ws.heap.size := by rw [← hW]; simp
  have hb : Below w1.heap.size w1 Ws := by rw [← hW]; exact (Below.refl _ _).alloc (Nat.le_refl _) _
  have ZWs := Lib.hid (Zs.out.below hb)
  clear Zs
  have TWs := Lib.hid (Tt.out.below hb)
  clear Tt
  have BWs := Lib.hid (B1.out.trans (hb.mono B1.out.size))
  clear hb B1
  generalize w1.heap.size = Gs at *
  clear hW
  refine (StoreSet_any A2 T c2 ct zs now ts _ ZWs.out HA2.out HN2.out TWs.out (by omega) (by omega) HS.out HTS.out).mono ?_
  rw [HQ.out]
  rintro e v1 ⟨AX, cX, rfl, ho, hb⟩
  have Xv1 := Lib.hid (show VersA v1 AX ys from el_of_owns verC_len (show v1.ownsRow _ 74 6 (.slice AX ys.length cX) ys.length (flatOf verC ys) from ho))
  clear ho
  replace cs0 := cellBelow hb ls cs0
  replace cs1 := cellBelow hb ls cs1
  replace ls := Nat.lt_of_lt_of_le ls hb.size
  have Zv1 := Lib.hid (ZWs.out.below hb)
  clear ZWs
  have Tv1 := Lib.hid (TWs.out.below hb)
  clear TWs
  have Bv1 := Lib.hid (BWs.out.trans (hb.mono BWs.out.size))
  clear hb BWs
  go_wp2_with fail
  generalize hW : v1.alloc _ = Wx
  have cx0 : Wx.cell? ⟨v1.heap.size, 0, none⟩ = some (.int .i64 n') := by rw [← hW]; simp [go_sem]
  have cx1 : Wx.cell? ⟨v1.heap.size, 1, none⟩ = some (.slice AX ys.length cX) := by rw [← hW]; simp [go_sem]
  have lx : v1.heap.size < Wx.heap.size := by rw [← hW]; simp
  have hb : Below v1.heap.size v1 Wx := by rw [← hW]; exact (Below.refl _ _).alloc (Nat.le_refl _) _
  replace cs0 := cellBelow hb ls cs0
  replace cs1 := cellBelow hb ls cs1
  replace ls := Nat.lt_of_lt_of_le ls hb.size
  have ZWx := Lib.hid (Zv1.out.below hb)
  clear Zv1
  have TWx := Lib.hid (Tv1.out.below hb)
  clear Tv1
  have XWx := Lib.hid (Xv1.out.below hb)
  clear Xv1
  have BWx := Lib.hid (Bv1.out.trans (hb.mono Bv1.out.size))
  clear hb Bv1
  generalize v1.heap.size = Gx at *
  clear hW
  refine (sStoreSet_any A2 T c2 ct zs now ts _ ZWx.out HA2.out HN2.out TWx.out (by omega) (by omega) HS.out HTS.out).mono ?_
  rw [HQ.out]
  rintro e v2 ⟨AY, cY, rfl, ho, hb⟩
  have Yv2 := Lib.hid (show VersA v2 AY ys from el_of_owns verC_len (show v2.ownsRow _ 74 6 (.slice AY ys.length cY) ys.length (flatOf verC ys) from ho))
  clear ho
  replace cs0 := cellBelow hb ls cs0
  replace cs1 := cellBelow hb ls cs1
  replace ls := Nat.lt_of_lt_of_le ls hb.size
  replace cx0 := cellBelow hb lx cx0
  replace cx1 := cellBelow hb lx cx1
  replace lx := Nat.lt_of_lt_of_le lx hb.size
  have Zv2 := Lib.hid (ZWx.out.below hb)
  clear ZWx
  have Tv2 := Lib.hid (TWx.out.below hb)
  clear TWx
  have Xv2 := Lib.hid (XWx.out.below hb)
  clear XWx
  have Bv2 := Lib.hid (BWx.out.trans (hb.mono BWx.out.size))
  clear hb BWx
  go_wp2_with fail
  generalize hW : v2.alloc _ = Wy
  have cy0 : Wy.cell? ⟨v2.heap.size, 0, none⟩ = some (.int .i64 n') := by rw [← hW]; simp [go_sem]
  have cy1 : Wy.cell? ⟨v2.heap.size, 1, none⟩ = some (.slice AY ys.length cY) := by rw [← hW]; simp [go_sem]
  have ly : v2.heap.size < Wy.heap.size := by rw [← hW]; simp
  have hb : Below v2.heap.size v2 Wy := by rw [← hW]; exact (Below.refl _ _).alloc (Nat.le_refl _) _
  replace cs0 := cellBelow hb ls cs0
  replace cs1 := cellBelow hb ls cs1
  replace ls := Nat.lt_of_lt_of_le ls hb.size
  replace cx0 := cellBelow hb lx cx0
  replace cx1 := cellBelow hb lx cx1
  replace lx := Nat.lt_of_lt_of_le lx hb.size
  have ZWy := Lib.hid (Zv2.out.below hb)
  clear Zv2
  have TWy := Lib.hid (Tv2.out.below hb)
  clear Tv2
  have XWy := Lib.hid (Xv2.out.below hb)
  clear Xv2
  have YWy := Lib.hid (Yv2.out.below hb)
  clear Yv2
  have BWy := Lib.hid (Bv2.out.trans (hb.mono Bv2.out.size))
  clear hb Bv2
  generalize v2.heap.size = Gy at *
  clear hW
  cases sb
  · skip
    obtain rfl : ok = false := by
      have := HQ.out
      rw [setP, if_neg (by rw [HSB.out]; simp)] at this
      injection this with _ b
      injection b with _ c
      exact c.symm
    go_upto_region 6 with fail
    refine wp_region_later (by kernel_rfl) (by kernel_rfl) ?_
    intro f hf1 hf2 hfc
    repeat (go_big_quiet_step (first
      | (go_at_call 49; exact calls_later hf1 hf2 (vaStore_same AX AY cX cY _ _ _ (XWy.out.below (hf1.out _)) (YWy.out.below (hf1.out _)) (by unfold maxLen; omega)))
      | (go_at_call 50; exact calls_later hf1 hf2 (StoreOkV A2 c2 zs now _ false (ZWy.out.below (hf1.out _)) (by omega) HS.out HSB.out))
      | (go_at_call 51; exact calls_later hf1 hf2 (sStoreOkV A2 c2 zs now _ false (ZWy.out.below (hf1.out _)) (by omega) HS.out HSB.out))))
    refine wpQuiet_nil ?_
    rintro _ ⟨vv, rfl⟩
    have hb := hf1.out vv
    clear hfc
    replace cs0 := cellBelow hb ls cs0
    replace cs1 := cellBelow hb ls cs1
    replace ls := Nat.lt_of_lt_of_le ls hb.size
    replace cx0 := cellBelow hb lx cx0
    replace cx1 := cellBelow hb lx cx1
    replace lx := Nat.lt_of_lt_of_le lx hb.size
    replace cy0 := cellBelow hb ly cy0
    replace cy1 := cellBelow hb ly cy1
    replace ly := Nat.lt_of_lt_of_le ly hb.size
    have Zv3 := Lib.hid (ZWy.out.below hb)
    clear ZWy
    have Tv3 := Lib.hid (TWy.out.below hb)
    clear TWy
    have Xv3 := Lib.hid (XWy.out.below hb)
    clear XWy
    have Yv3 := Lib.hid (YWy.out.below hb)
    clear YWy
    have Bv3 := Lib.hid (BWy.out.trans (hb.mono BWy.out.size))
    clear hb BWy hf1 hf2
    generalize f vv = v3 at *
    clear vv f
    go_upto_region 7 with fail
    refine wp_region_later (by kernel_rfl) (by kernel_rfl) ?_
    intro f hf1 hf2 hfc
    repeat (go_big_quiet_step (first
      | (go_at_call 49; exact calls_later hf1 hf2 (vaStore_same AX AY cX cY _ _ _ (Xv3.out.below (hf1.out _)) (Yv3.out.below (hf1.out _)) (by unfold maxLen; omega)))
      | (go_at_call 50; exact calls_later hf1 hf2 (StoreOkV A2 c2 zs now _ false (Zv3.out.below (hf1.out _)) (by omega) HS.out HSB.out))
      | (go_at_call 51; exact calls_later hf1 hf2 (sStoreOkV A2 c2 zs now _ false (Zv3.out.below (hf1.out _)) (by omega) HS.out HSB.out))))
    refine wpQuiet_nil ?_
    rintro _ ⟨vv, rfl⟩
    have hb := hf1.out vv
    clear hfc
    replace cs0 := cellBelow hb ls cs0
    replace cs1 := cellBelow hb ls cs1
    replace ls := Nat.lt_of_lt_of_le ls hb.size
    replace cx0 := cellBelow hb lx cx0
    replace cx1 := cellBelow hb lx cx1
    replace lx := Nat.lt_of_lt_of_le lx hb.size
    replace cy0 := cellBelow hb ly cy0
    replace cy1 := cellBelow hb ly cy1
    replace ly := Nat.lt_of_lt_of_le ly hb.size
    have Zv4 := Lib.hid (Zv3.out.below hb)
    clear Zv3
    have Tv4 := Lib.hid (Tv3.out.below hb)
    clear Tv3
    have Xv4 := Lib.hid (Xv3.out.below hb)
    clear Xv3
    have Yv4 := Lib.hid (Yv3.out.below hb)
    clear Yv3
    have Bv4 := Lib.hid (Bv3.out.trans (hb.mono Bv3.out.size))
    clear hb Bv3 hf1 hf2
    generalize f vv = v4 at *
    clear vv f
    go_wp2
    go_ret
    exact ⟨rfl, Bv4.out⟩
  cases ok
  · skip
    obtain ⟨rfl, rfl⟩ : now = n' ∧ zs = ys := by
      have := HQ.out
      rw [setP, if_pos HSB.out] at this
      split at this
      · injection this with _ b
        injection b with _ c
        cases c
      · injection this with a b
        injection b with b c
        exact ⟨a, b⟩
    go_upto_region 6 with fail
    refine wp_region_later (by kernel_rfl) (by kernel_rfl) ?_
    intro f hf1 hf2 hfc
    repeat (go_big_quiet_step (first
      | (go_at_call 49; exact calls_later hf1 hf2 (vaStore_same AX AY cX cY _ _ _ (XWy.out.below (hf1.out _)) (YWy.out.below (hf1.out _)) (by unfold maxLen; omega)))
      | (go_at_call 50; exact calls_later hf1 hf2 (StoreOkV A2 c2 zs now _ true (ZWy.out.below (hf1.out _)) (by omega) HS.out HSB.out))
      | (go_at_call 51; exact calls_later hf1 hf2 (sStoreOkV A2 c2 zs now _ true (ZWy.out.below (hf1.out _)) (by omega) HS.out HSB.out))))
    refine wpQuiet_nil ?_
    rintro _ ⟨vv, rfl⟩
    have hb := hf1.out vv
    clear hfc
    replace cs0 := cellBelow hb ls cs0
    replace cs1 := cellBelow hb ls cs1
    replace ls := Nat.lt_of_lt_of_le ls hb.size
    replace cx0 := cellBelow hb lx cx0
    replace cx1 := cellBelow hb lx cx1
    replace lx := Nat.lt_of_lt_of_le lx hb.size
    replace cy0 := cellBelow hb ly cy0
    replace cy1 := cellBelow hb ly cy1
    replace ly := Nat.lt_of_lt_of_le ly hb.size
    have Zv5 := Lib.hid (ZWy.out.below hb)
    clear ZWy
    have Tv5 := Lib.hid (TWy.out.below hb)
    clear TWy
    have Xv5 := Lib.hid (XWy.out.below hb)
    clear XWy
    have Yv5 := Lib.hid (YWy.out.below hb)
    clear YWy
    have Bv5 := Lib.hid (BWy.out.trans (hb.mono BWy.out.size))
    clear hb BWy hf1 hf2
    generalize f vv = v5 at *
    clear vv f
    go_wp2_with fail
    refine (vaStore_same AX A2 cX c2 _ _ _ Xv5.out Zv5.out (by unfold maxLen; omega)).mono ?_
    rintro e v6 ⟨rfl, hb⟩
    have BF := Lib.hid (Bv5.out.trans (hb.mono Bv5.out.size))
    clear hb
    go_wp2
    go_ret
    exact ⟨rfl, BF.out⟩
  obtain ⟨hgo, h1, h2⟩ : goesB zs now ts ∧ n' = now + 1 ∧ ys = setL zs now ts := by
    have := HQ.out
    rw [setP, if_pos HSB.out] at this
    split at this
    · rename_i hg
      injection this with a b
      injection b with b c
      exact ⟨hg, a.symm, b.symm⟩
    · injection this with _ b
      injection b with _ c
      cases c
  subst h1
  have HGO := Lib.hid hgo
  have HY := Lib.hid h2
  have HOKY := Lib.hid (show storeB ys (now + 1) = true from by rw [h2]; exact set_ok HSB.out hgo)
  have HYS := Lib.hid (store_shortV HOKY.out)
  have hn30 := (storeB_iff.1 HSB.out).1
  clear hgo h2
  go_upto_region 6 with fail
  refine wp_region_later (by kernel_rfl) (by kernel_rfl) ?_
  intro f hf1 hf2 hfc
  repeat (go_big_quiet_step (first
    | (go_at_call 49; exact calls_later hf1 hf2 (vaStore_same AX AY cX cY _ _ _ (XWy.out.below (hf1.out _)) (YWy.out.below (hf1.out _)) (by unfold maxLen; omega)))
    | (go_at_call 50; exact calls_later hf1 hf2 (StoreOkV A2 c2 zs now _ true (ZWy.out.below (hf1.out _)) (by omega) HS.out HSB.out))
    | (go_at_call 51; exact calls_later hf1 hf2 (sStoreOkV A2 c2 zs now _ true (ZWy.out.below (hf1.out _)) (by omega) HS.out HSB.out))))
  refine wpQuiet_nil ?_
  rintro _ ⟨vv, rfl⟩
  have hb := hf1.out vv
  clear hfc
  replace cs0 := cellBelow hb ls cs0
  replace cs1 := cellBelow hb ls cs1
  replace ls := Nat.lt_of_lt_of_le ls hb.size
  replace cx0 := cellBelow hb lx cx0
  replace cx1 := cellBelow hb lx cx1
  replace lx := Nat.lt_of_lt_of_le lx hb.size
  replace cy0 := cellBelow hb ly cy0
  replace cy1 := cellBelow hb ly cy1
  replace ly := Nat.lt_of_lt_of_le ly hb.size
  have Zv7 := Lib.hid (ZWy.out.below hb)
  clear ZWy
  have Tv7 := Lib.hid (TWy.out.below hb)
  clear TWy
  have Xv7 := Lib.hid (XWy.out.below hb)
  clear XWy
  have Yv7 := Lib.hid (YWy.out.below hb)
  clear YWy
  have Bv7 := Lib.hid (BWy.out.trans (hb.mono BWy.out.size))
  clear hb BWy hf1 hf2
  generalize f vv = v7 at *
  clear vv f
  go_wp2
  have S0 := Lib.hid cs0
  have S1 := Lib.hid cs1
  have X0 := Lib.hid cx0
  have X1 := Lib.hid cx1
  clear cs0 cs1 cx0 cx1 cy0 cy1
  go_loopw [9] (fun i wr => ∃ st : Int, 0 ≤ st ∧ st ≤ now + 1 ∧ i = .int .i64 st ∧ Below v7.heap.size v7 wr) (fun i _ => (now + 1 - intOf i).toNat)
  case atStart => exact ⟨0, Int.le_refl _, by omega, rfl, Below.refl _ _⟩
  case round =>
    obtain ⟨st, hst0, hst1, rfl, hbr⟩ := hrel
    have t0 := cellBelow hbr ls S0.out
    have t1 := cellBelow hbr ls S1.out
    have x0 := cellBelow hbr lx X0.out
    have x1 := cellBelow hbr lx X1.out
    have hsz := hbr.size
    have BW := Lib.hid (Bv7.out.trans (hbr.mono Bv7.out.size))
    have ZW := Lib.hid (Zv7.out.below hbr)
    have XW := Lib.hid (Xv7.out.below hbr)
    have TW := Lib.hid (Tv7.out.below hbr)
    have hGs : Gs < wr.heap.size := by omega
    have hGx : Gx < wr.heap.size := by omega
    by_cases hlt : st ≤ now
    · have HE := Lib.hid (show storeAtL ys (now + 1) st = storeAtL zs now st from by rw [HY.out]; exact set_at HSB.out HGO.out hlt)
      have hal := storeAtL_len zs now st
      obtain ⟨al, hall⟩ : ∃ al, storeAtL zs now st = al := ⟨_, rfl⟩
      have HAL := Lib.hid hall
      rw [hall] at HE hal
      have hq0 : Below wr.heap.size wr wr := Below.refl _ _
      clear hall
      go_upto_region 13 with fail
      go_region_held3 (fun w' => w'.cell? ⟨Gs, 0, none⟩ = some (.int .i64 now) ∧ w'.cell? ⟨Gs, 1, none⟩ = some (.slice A2 zs.length c2) ∧ w'.cell? ⟨Gx, 0, none⟩ = some (.int .i64 (now + 1)) ∧ w'.cell? ⟨Gx, 1, none⟩ = some (.slice AX ys.length cX) ∧ wr.heap.size ≤ w'.heap.size ∧ Below wr.heap.size wr w')
        (((try go_split_ands); refine ⟨?cc90, ?cc91, ?cc92, ?cc93, ?sz9, ?bl9⟩; (case cc90 => (repeat (first | with_reducible assumption | with_reducible refine cell_below hb (by first | omega | (simp; done) | (simp; omega)) ?_ | with_reducible refine cell_set_far (by first | omega | (simp; done) | (simp; omega)) ?_ | with_reducible exact cell_alloc_swap (by with_reducible assumption) (by first | omega | (simp; done) | (simp; omega)) | with_reducible refine cell_alloc_far ?_ | with_reducible refine cell_drew ?_))); (case cc91 => (repeat (first | with_reducible assumption | with_reducible refine cell_below hb (by first | omega | (simp; done) | (simp; omega)) ?_ | with_reducible refine cell_set_far (by first | omega | (simp; done) | (simp; omega)) ?_ | with_reducible exact cell_alloc_swap (by with_reducible assumption) (by first | omega | (simp; done) | (simp; omega)) | with_reducible refine cell_alloc_far ?_ | with_reducible refine cell_drew ?_))); (case cc92 => (repeat (first | with_reducible assumption | with_reducible refine cell_below hb (by first | omega | (simp; done) | (simp; omega)) ?_ | with_reducible refine cell_set_far (by first | omega | (simp; done) | (simp; omega)) ?_ | with_reducible exact cell_alloc_swap (by with_reducible assumption) (by first | omega | (simp; done) | (simp; omega)) | with_reducible refine cell_alloc_far ?_ | with_reducible refine cell_drew ?_))); (case cc93 => (repeat (first | with_reducible assumption | with_reducible refine cell_below hb (by first | omega | (simp; done) | (simp; omega)) ?_ | with_reducible refine cell_set_far (by first | omega | (simp; done) | (simp; omega)) ?_ | with_reducible exact cell_alloc_swap (by with_reducible assumption) (by first | omega | (simp; done) | (simp; omega)) | with_reducible refine cell_alloc_far ?_ | with_reducible refine cell_drew ?_))); (case sz9 => (first | with_reducible assumption | (have := hb.size; omega) | omega | (simp; done) | (simp; omega) | (have := hb.size; simp at this ⊢; omega))); (case bl9 => (repeat (first | with_reducible assumption | with_reducible exact hq0 | with_reducible refine Below.drew ?_ | with_reducible refine Below.trans ?_ (hb.mono (by first | omega | (simp; done) | (simp; omega))) | with_reducible refine Below.setCell ?_ (by first | omega | (simp; done) | (simp; omega)) _ | with_reducible exact below_alloc_swap (by with_reducible assumption) (by first | omega | (simp; done) | (simp; omega)) | with_reducible refine Below.alloc ?_ (by first | omega | (simp; done) | (simp; omega)) _)))))
        (first
          | (go_at_call 43; (try go_split_ands); (with_reducible refine (StoreAt_any AX cX ys (now + 1) st _ (XW.out.below (by (repeat (first | with_reducible assumption | with_reducible exact hq0 | with_reducible refine Below.drew ?_ | with_reducible refine Below.trans ?_ (hb.mono (by first | omega | (simp; done) | (simp; omega))) | with_reducible refine Below.setCell ?_ (by first | omega | (simp; done) | (simp; omega)) _ | with_reducible exact below_alloc_swap (by with_reducible assumption) (by first | omega | (simp; done) | (simp; omega)) | with_reducible refine Below.alloc ?_ (by first | omega | (simp; done) | (simp; omega)) _)))) (by omega) HYS.out).mono ?_); rw [HE.out]; rintro e wA ⟨AA, cA, rfl, ho, hb⟩; have RA := Lib.hid (rowsA_own ho rfl); clear ho; have hsz1 : wr.heap.size ≤ wA.heap.size := (by have := hb.size; first | omega | (simp at this; omega)); obtain ⟨hc, hf, hlb⟩ := bcell3 hb)
          | (go_at_call 43; (try go_split_ands); (with_reducible refine (StoreAt_any A2 c2 zs now st _ (ZW.out.below (by (repeat (first | with_reducible assumption | with_reducible exact hq0 | with_reducible refine Below.drew ?_ | with_reducible refine Below.trans ?_ (hb.mono (by first | omega | (simp; done) | (simp; omega))) | with_reducible refine Below.setCell ?_ (by first | omega | (simp; done) | (simp; omega)) _ | with_reducible exact below_alloc_swap (by with_reducible assumption) (by first | omega | (simp; done) | (simp; omega)) | with_reducible refine Below.alloc ?_ (by first | omega | (simp; done) | (simp; omega)) _)))) (by omega) HS.out).mono ?_); rw [HAL.out]; rintro e wD ⟨AD, cD, rfl, ho, hb⟩; have RD := Lib.hid (rowsA_own ho rfl); have RA2 := Lib.hid (RA.out.below hb); clear ho; have hsz2 : wr.heap.size ≤ wD.heap.size := (by have := hb.size; first | omega | (simp at this; omega)); obtain ⟨hc2, hf2, hlb2⟩ := bcell3 hb)
          | (go_at_call 44; (try go_split_ands); (with_reducible refine (vaRows_same AA AD cA cD al _ RA2.out RD.out (by unfold maxLen; omega)).mono ?_); rintro e wB ⟨rfl, hb⟩; have hsz3 : wr.heap.size ≤ wB.heap.size := (by have := hb.size; first | omega | (simp at this; omega)); obtain ⟨hc3, hf3, hlb3⟩ := bcell3 hb))
      all_goals (rename_i hH; have BV := Lib.hid (hbr.trans (hH.2.2.2.2.2.mono hbr.size)); clear hH)
      all_goals go_wp2
      all_goals go_roundw
      case rel => exact ⟨st + 1, by omega, by omega, by go_num, BV.out⟩
      case measure => simp [intOf]; omega
    · have hdn : decide (st ≤ now) = false := decide_eq_false hlt
      have HN1 := Lib.hid (show storeAtL ys (now + 1) (now + 1) = ts from by rw [HY.out]; exact set_new HSB.out HGO.out (Int.le_refl _))
      have HN6 := Lib.hid (show storeAtL ys (now + 1) (now + 1 + 5) = ts from by rw [HY.out]; exact set_new HSB.out HGO.out (by omega))
      go_wp2_with fail
      refine (StoreOk_any AX cX ys (now + 1) _ XW.out (by omega) HYS.out).mono ?_
      rw [HOKY.out]
      rintro e q1 ⟨rfl, hb⟩
      replace t0 := cellBelow hb hGs t0
      replace x0 := cellBelow hb hGx x0
      replace x1 := cellBelow hb hGx x1
      replace hGs := Nat.lt_of_lt_of_le hGs hb.size
      replace hGx := Nat.lt_of_lt_of_le hGx hb.size
      have XQ1 := Lib.hid (XW.out.below hb)
      have TQ1 := Lib.hid (TW.out.below hb)
      have BQ1 := Lib.hid (BW.out.trans (hb.mono BW.out.size))
      clear hb t1
      go_wp2_with fail
      refine (StoreAt_any AX cX ys (now + 1) (now + 1) _ XQ1.out (by omega) HYS.out).mono ?_
      rw [HN1.out]
      rintro e q2 ⟨AQ, cQ, rfl, ho, hb⟩
      have RQ2 := Lib.hid (rowsA_own ho rfl)
      replace x0 := cellBelow hb hGx x0
      replace x1 := cellBelow hb hGx x1
      replace hGx := Nat.lt_of_lt_of_le hGx hb.size
      have XQ2 := Lib.hid (XQ1.out.below hb)
      have TQ2 := Lib.hid (TQ1.out.below hb)
      have BQ2 := Lib.hid (BQ1.out.trans (hb.mono BQ1.out.size))
      clear hb ho
      go_wp2_with fail
      refine (vaRows_same AQ T cQ ct ts _ RQ2.out TQ2.out (by unfold maxLen; omega)).mono ?_
      rintro e q3 ⟨rfl, hb⟩
      replace x0 := cellBelow hb hGx x0
      replace x1 := cellBelow hb hGx x1
      have XQ3 := Lib.hid (XQ2.out.below hb)
      have TQ3 := Lib.hid (TQ2.out.below hb)
      have BQ3 := Lib.hid (BQ2.out.trans (hb.mono BQ2.out.size))
      clear hb
      go_wp2_with fail
      refine (StoreAt_any AX cX ys (now + 1) (now + 1 + 5) _ XQ3.out (by omega) HYS.out).mono ?_
      rw [HN6.out]
      rintro e q4 ⟨AR, cR, rfl, ho, hb⟩
      have RQ4 := Lib.hid (rowsA_own ho rfl)
      have TQ4 := Lib.hid (TQ3.out.below hb)
      have BQ4 := Lib.hid (BQ3.out.trans (hb.mono BQ3.out.size))
      clear hb ho
      go_wp2_with fail
      refine (vaRows_same AR T cR ct ts _ RQ4.out TQ4.out (by unfold maxLen; omega)).mono ?_
      rintro e q5 ⟨rfl, hb⟩
      have BQ5 := Lib.hid (BQ4.out.trans (hb.mono BQ4.out.size))
      clear hb
      go_wp2
      go_ret
      exact ⟨rfl, BQ5.out⟩
end Go.Proofs.Ytacddgipcafdlaa
