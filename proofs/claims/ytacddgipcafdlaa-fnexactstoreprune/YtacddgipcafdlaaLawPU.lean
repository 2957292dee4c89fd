/-
  The walk of the exact law of StorePrune.
-/
import Derived.Test.YtacddgipcafdlaaVerM
import Derived.Test.YtacddgipcafdlaaPruM
namespace Go.Proofs.Ytacddgipcafdlaa
open Go.RowKit Go.Lib

def AtTStorePrune (W : World) (s1 : Value) (wx : World) : Prop := s1 = .bool false ∧ Below W.heap.size W wx
theorem apartStorePrune {v v' : Value} {a b c d : Nat} (h1 : ∀ k, v.ownBlock = some k → a ≤ k) (h2 : ∀ k, v.ownBlock = some k → k < b) (h3 : ∀ k, v'.ownBlock = some k → c ≤ k) (h4 : ∀ k, v'.ownBlock = some k → k < d) (h : b ≤ c ∨ d ≤ a) : v.ownBlock = none ∨ v.ownBlock ≠ v'.ownBlock := by
  cases e : v.ownBlock with
  | none => exact .inl rfl
  | some k =>
    refine .inr fun e' => ?_
    have i1 := h1 k e
    have i2 := h2 k e
    have i3 := h3 k e'.symm
    have i4 := h4 k e'.symm
    omega

set_option maxRecDepth 100000 in
set_option maxHeartbeats 8000000 in
theorem FnExactStorePrune_any (now : Int) (A : Option Addr) (n cap : Nat) (zs : List VerV) (st : Int) (w : World) (h : VersA w A zs ∧ zs.length = n ∧ n ≤ maxLen ∧ ShortV zs) :
    Calls Try.prog 5 #[.agg #[.int .i64 now, .slice A n cap], .int .i64 st] w fun e w' => e = .returned (.bool true) ∧ Below w.heap.size w w' := by
  obtain ⟨hz, rfl, hm, hs⟩ := h
  have HS := Lib.hid hs
  have HZW := Lib.hid hz
  clear hs hz
  go_enter Try.func5, Try.ntmps5
  go_wp2_with fail
  generalize hW : w.alloc _ = W0
  have cG0 : W0.cell? ⟨w.heap.size, 0, none⟩ = some (.int .i64 now) := by rw [← hW]; simp [go_sem]
  have cG1 : W0.cell? ⟨w.heap.size, 1, none⟩ = some (.slice A zs.length cap) := by rw [← hW]; simp [go_sem]
  have lG : w.heap.size < W0.heap.size := by rw [← hW]; simp
  have BW0 := Lib.hid (show Below w.heap.size w W0 from by rw [← hW]; exact (Below.refl _ _).alloc (Nat.le_refl _) _)
  have ZW0 := Lib.hid (HZW.out.below BW0.out)
  obtain ⟨G, hG⟩ : ∃ G, w.heap.size = G := ⟨_, rfl⟩
  have hGle : w.heap.size ≤ G := Nat.le_of_eq hG
  rw [hG] at cG0 cG1 lG ⊢
  have hlast0 : G + 1 ≤ W0.heap.size := lG
  clear hW hG
  refine (szStore_any A cap zs now _ _ (by omega) (by omega) ZW0.out hm HS.out).mono ?_
  rintro e w1 ⟨v, rfl, hv, hb⟩
  replace cG0 := cellBelow hb lG cG0
  replace cG1 := cellBelow hb lG cG1
  replace lG := Nat.lt_of_lt_of_le lG hb.size
  have Zw1 := Lib.hid (ZW0.out.below hb)
  have Bw1 := Lib.hid (BW0.out.trans (hb.mono BW0.out.size))
  have hlast2 : G + 1 ≤ w1.heap.size := Nat.le_trans hlast0 hb.size
  clear hlast0
  clear ZW0 BW0 hb
  rcases hv with rfl | ⟨hv0, hv1, hv2⟩
  · go_wp2
    go_ret
    exact ⟨rfl, Bw1.out⟩
  · skip
    have hl : zs.length ≤ 1048576 := by omega
    have hd : decide (v < 0) = false := decide_eq_false (by omega)
    have hyl : (pruneP zs now st).2.length ≤ zs.length + zs.length := (by have := prune_len zs now st; omega)
    obtain ⟨pp, hpp⟩ : ∃ pp, pruneP zs now st = pp := ⟨_, rfl⟩
    rw [hpp] at hyl
    obtain ⟨n', ys⟩ := pp
    have HP := Lib.hid hpp
    replace hyl : ys.length ≤ zs.length + zs.length := hyl
    clear hpp
    go_wp2_with fail
    refine (toStore_any A cap zs now _ Zw1.out (by omega)).mono ?_
    rintro e w3 ⟨AS, cS, rfl, ho, hb⟩
    obtain ⟨LoS, hLo⟩ : ∃ L, w1.heap.size = L := ⟨_, rfl⟩
    obtain ⟨HiS, hHi⟩ : ∃ H, w3.heap.size = H := ⟨_, rfl⟩
    have OS := Lib.hid (show w3.ownsRow w1.heap.size 74 6 (.slice AS zs.length cS) zs.length (flatOf verC zs) from ho)
    have loS : ∀ k, (Value.slice AS zs.length cS).ownBlock = some k → LoS ≤ k := fun k e => by rw [← hLo]; exact (OS.out.lt k e).1
    have hiS : ∀ k, (Value.slice AS zs.length cS).ownBlock = some k → k < HiS := fun k e => by rw [← hHi]; exact (OS.out.lt k e).2
    have orS : G + 1 ≤ LoS := by rw [← hLo]; exact hlast2
    have ohS : LoS ≤ HiS := by rw [← hLo, ← hHi]; exact hb.size
    clear ho
    replace cG0 := cellBelow hb lG cG0
    replace cG1 := cellBelow hb lG cG1
    replace lG := Nat.lt_of_lt_of_le lG hb.size
    have Zw3 := Lib.hid (Zw1.out.below hb)
    have Bw3 := Lib.hid (Bw1.out.trans (hb.mono Bw1.out.size))
    have hlast4 : G + 1 ≤ w3.heap.size := Nat.le_trans hlast2 hb.size
    clear hlast2
    clear Zw1 Bw1 hb
    have hlast5 : HiS ≤ w3.heap.size := Nat.le_of_eq hHi.symm
    clear hlast4
    clear hLo hHi
    go_wp2_with fail
    refine (sStorePrune_any AS cS zs now st _ (el_of_owns verC_len OS.out) (owns_addrV OS.out) (owns_nilcap OS.out) hl HS.out).mono ?_
    rw [HP.out]
    rintro e w6 ⟨AW, cW, rfl, ho, hb⟩
    obtain ⟨LoW, hLo⟩ : ∃ L, w3.heap.size = L := ⟨_, rfl⟩
    obtain ⟨HiW, hHi⟩ : ∃ H, w6.heap.size = H := ⟨_, rfl⟩
    have OW := Lib.hid (show w6.ownsRow w3.heap.size 74 6 (.slice AW ys.length cW) ys.length (flatOf verC ys) from ho)
    have loW : ∀ k, (Value.slice AW ys.length cW).ownBlock = some k → LoW ≤ k := fun k e => by rw [← hLo]; exact (OW.out.lt k e).1
    have hiW : ∀ k, (Value.slice AW ys.length cW).ownBlock = some k → k < HiW := fun k e => by rw [← hHi]; exact (OW.out.lt k e).2
    have orW : HiS ≤ LoW := by rw [← hLo]; exact hlast5
    have ohW : LoW ≤ HiW := by rw [← hLo, ← hHi]; exact hb.size
    clear ho
    replace cG0 := cellBelow hb lG cG0
    replace cG1 := cellBelow hb lG cG1
    replace lG := Nat.lt_of_lt_of_le lG hb.size
    have Zw6 := Lib.hid (Zw3.out.below hb)
    have Bw6 := Lib.hid (Bw3.out.trans (hb.mono Bw3.out.size))
    have Kw6S := Lib.hid (ownsKeep OS.out hb)
    clear OS
    have hlast7 : HiS ≤ w6.heap.size := Nat.le_trans hlast5 hb.size
    clear hlast5
    clear Zw3 Bw3 hb
    have hlast8 : HiW ≤ w6.heap.size := Nat.le_of_eq hHi.symm
    clear hlast7
    clear hLo hHi
    clear Kw6S loS hiS
    go_wp2_with fail
    generalize hW : w6.alloc _ = WP
    have cP0 : WP.cell? ⟨w6.heap.size, 0, none⟩ = some (.int .i64 n') := by rw [← hW]; simp [go_sem]
    have cP1 : WP.cell? ⟨w6.heap.size, 1, none⟩ = some (.slice AW ys.length cW) := by rw [← hW]; simp [go_sem]
    have lP : w6.heap.size < WP.heap.size := by rw [← hW]; simp
    have hb : Below w6.heap.size w6 WP := by rw [← hW]; exact (Below.refl _ _).alloc (Nat.le_refl _) _
    obtain ⟨IP, hI⟩ : ∃ I, w6.heap.size = I := ⟨_, rfl⟩
    have orP : HiW ≤ IP := by rw [← hI]; exact hlast8
    clear hW
    replace cG0 := cellBelow hb lG cG0
    replace cG1 := cellBelow hb lG cG1
    replace lG := Nat.lt_of_lt_of_le lG hb.size
    have ZWP := Lib.hid (Zw6.out.below hb)
    have BWP := Lib.hid (Bw6.out.trans (hb.mono Bw6.out.size))
    have KWPW := Lib.hid (ownsKeep OW.out hb)
    clear OW
    have hlast9 : HiW ≤ WP.heap.size := Nat.le_trans hlast8 hb.size
    clear hlast8
    clear Zw6 Bw6 hb
    rw [hI] at cP0 cP1 lP
    try rw [hI]
    clear hI
    have hlast10 : IP + 1 ≤ WP.heap.size := lP
    clear hlast9
    go_wp2_with fail
    refine (toStore_any A cap zs now _ ZWP.out (by omega)).mono ?_
    rintro e w11 ⟨AX, cX, rfl, ho, hb⟩
    obtain ⟨LoX, hLo⟩ : ∃ L, WP.heap.size = L := ⟨_, rfl⟩
    obtain ⟨HiX, hHi⟩ : ∃ H, w11.heap.size = H := ⟨_, rfl⟩
    have OX := Lib.hid (show w11.ownsRow WP.heap.size 74 6 (.slice AX zs.length cX) zs.length (flatOf verC zs) from ho)
    have loX : ∀ k, (Value.slice AX zs.length cX).ownBlock = some k → LoX ≤ k := fun k e => by rw [← hLo]; exact (OX.out.lt k e).1
    have hiX : ∀ k, (Value.slice AX zs.length cX).ownBlock = some k → k < HiX := fun k e => by rw [← hHi]; exact (OX.out.lt k e).2
    have orX : IP + 1 ≤ LoX := by rw [← hLo]; exact hlast10
    have ohX : LoX ≤ HiX := by rw [← hLo, ← hHi]; exact hb.size
    clear ho
    replace cG0 := cellBelow hb lG cG0
    replace cG1 := cellBelow hb lG cG1
    replace lG := Nat.lt_of_lt_of_le lG hb.size
    replace cP0 := cellBelow hb lP cP0
    replace cP1 := cellBelow hb lP cP1
    replace lP := Nat.lt_of_lt_of_le lP hb.size
    have Zw11 := Lib.hid (ZWP.out.below hb)
    have Bw11 := Lib.hid (BWP.out.trans (hb.mono BWP.out.size))
    have Kw11W := Lib.hid (ownsKeep KWPW.out hb)
    clear KWPW
    have hlast12 : IP + 1 ≤ w11.heap.size := Nat.le_trans hlast10 hb.size
    clear hlast10
    clear ZWP BWP hb
    have hlast13 : HiX ≤ w11.heap.size := Nat.le_of_eq hHi.symm
    clear hlast12
    clear hLo hHi
    go_wp2_with fail
    generalize hW : w11.alloc _ = WY
    have cY0 : WY.cell? ⟨w11.heap.size, 0, none⟩ = some (.int .i64 now) := by rw [← hW]; simp [go_sem]
    have cY1 : WY.cell? ⟨w11.heap.size, 1, none⟩ = some (.slice AX zs.length cX) := by rw [← hW]; simp [go_sem]
    have lY : w11.heap.size < WY.heap.size := by rw [← hW]; simp
    have hb : Below w11.heap.size w11 WY := by rw [← hW]; exact (Below.refl _ _).alloc (Nat.le_refl _) _
    obtain ⟨IY, hI⟩ : ∃ I, w11.heap.size = I := ⟨_, rfl⟩
    have orY : HiX ≤ IY := by rw [← hI]; exact hlast13
    clear hW
    replace cG0 := cellBelow hb lG cG0
    replace cG1 := cellBelow hb lG cG1
    replace lG := Nat.lt_of_lt_of_le lG hb.size
    replace cP0 := cellBelow hb lP cP0
    replace cP1 := cellBelow hb lP cP1
    replace lP := Nat.lt_of_lt_of_le lP hb.size
    have ZWY := Lib.hid (Zw11.out.below hb)
    have BWY := Lib.hid (Bw11.out.trans (hb.mono Bw11.out.size))
    have KWYW := Lib.hid (ownsKeep Kw11W.out hb)
    clear Kw11W
    have KWYX := Lib.hid (ownsKeep OX.out hb)
    clear OX
    have hlast14 : HiX ≤ WY.heap.size := Nat.le_trans hlast13 hb.size
    clear hlast13
    clear Zw11 Bw11 hb
    rw [hI] at cY0 cY1 lY
    try rw [hI]
    clear hI
    have hlast15 : IY + 1 ≤ WY.heap.size := lY
    clear hlast14
    go_wp2_with fail
    refine (StorePrune_any AX cX zs now st _ (el_of_owns verC_len KWYX.out) (owns_addrV KWYX.out) (owns_nilcap KWYX.out) hl HS.out).mono ?_
    rw [HP.out]
    rintro e w16 ⟨AV, cV, rfl, ho, hb⟩
    obtain ⟨LoV, hLo⟩ : ∃ L, WY.heap.size = L := ⟨_, rfl⟩
    obtain ⟨HiV, hHi⟩ : ∃ H, w16.heap.size = H := ⟨_, rfl⟩
    have OV := Lib.hid (show w16.ownsRow WY.heap.size 74 6 (.slice AV ys.length cV) ys.length (flatOf verC ys) from ho)
    have loV : ∀ k, (Value.slice AV ys.length cV).ownBlock = some k → LoV ≤ k := fun k e => by rw [← hLo]; exact (OV.out.lt k e).1
    have hiV : ∀ k, (Value.slice AV ys.length cV).ownBlock = some k → k < HiV := fun k e => by rw [← hHi]; exact (OV.out.lt k e).2
    have orV : IY + 1 ≤ LoV := by rw [← hLo]; exact hlast15
    have ohV : LoV ≤ HiV := by rw [← hLo, ← hHi]; exact hb.size
    clear ho
    replace cG0 := cellBelow hb lG cG0
    replace cG1 := cellBelow hb lG cG1
    replace lG := Nat.lt_of_lt_of_le lG hb.size
    replace cP0 := cellBelow hb lP cP0
    replace cP1 := cellBelow hb lP cP1
    replace lP := Nat.lt_of_lt_of_le lP hb.size
    replace cY0 := cellBelow hb lY cY0
    replace cY1 := cellBelow hb lY cY1
    replace lY := Nat.lt_of_lt_of_le lY hb.size
    have Zw16 := Lib.hid (ZWY.out.below hb)
    have Bw16 := Lib.hid (BWY.out.trans (hb.mono BWY.out.size))
    have Kw16W := Lib.hid (ownsKeep KWYW.out hb)
    clear KWYW
    have Kw16X := Lib.hid (ownsKeep KWYX.out hb)
    clear KWYX
    have hlast17 : IY + 1 ≤ w16.heap.size := Nat.le_trans hlast15 hb.size
    clear hlast15
    clear ZWY BWY hb
    have hlast18 : HiV ≤ w16.heap.size := Nat.le_of_eq hHi.symm
    clear hlast17
    clear hLo hHi
    go_wp2_with fail
    generalize hW : w16.alloc _ = WQ
    have cQ0 : WQ.cell? ⟨w16.heap.size, 0, none⟩ = some (.int .i64 n') := by rw [← hW]; simp [go_sem]
    have cQ1 : WQ.cell? ⟨w16.heap.size, 1, none⟩ = some (.slice AV ys.length cV) := by rw [← hW]; simp [go_sem]
    have lQ : w16.heap.size < WQ.heap.size := by rw [← hW]; simp
    have hb : Below w16.heap.size w16 WQ := by rw [← hW]; exact (Below.refl _ _).alloc (Nat.le_refl _) _
    obtain ⟨IQ, hI⟩ : ∃ I, w16.heap.size = I := ⟨_, rfl⟩
    have orQ : HiV ≤ IQ := by rw [← hI]; exact hlast18
    clear hW
    replace cG0 := cellBelow hb lG cG0
    replace cG1 := cellBelow hb lG cG1
    replace lG := Nat.lt_of_lt_of_le lG hb.size
    replace cP0 := cellBelow hb lP cP0
    replace cP1 := cellBelow hb lP cP1
    replace lP := Nat.lt_of_lt_of_le lP hb.size
    replace cY0 := cellBelow hb lY cY0
    replace cY1 := cellBelow hb lY cY1
    replace lY := Nat.lt_of_lt_of_le lY hb.size
    have ZWQ := Lib.hid (Zw16.out.below hb)
    have BWQ := Lib.hid (Bw16.out.trans (hb.mono Bw16.out.size))
    have KWQW := Lib.hid (ownsKeep Kw16W.out hb)
    clear Kw16W
    have KWQX := Lib.hid (ownsKeep Kw16X.out hb)
    clear Kw16X
    have KWQV := Lib.hid (ownsKeep OV.out hb)
    clear OV
    have hlast19 : HiV ≤ WQ.heap.size := Nat.le_trans hlast18 hb.size
    clear hlast18
    clear Zw16 Bw16 hb
    rw [hI] at cQ0 cQ1 lQ
    try rw [hI]
    clear hI
    have hlast20 : IQ + 1 ≤ WQ.heap.size := lQ
    clear hlast19
    go_wp2_with fail
    refine (eqStore_same _ _ _ _ ys n' _ (el_of_owns verC_len KWQV.out) (el_of_owns verC_len KWQW.out) (by unfold maxLen; omega)).mono ?_
    rintro e w21 ⟨rfl, hb⟩
    replace cG0 := cellBelow hb lG cG0
    replace cG1 := cellBelow hb lG cG1
    replace lG := Nat.lt_of_lt_of_le lG hb.size
    replace cP0 := cellBelow hb lP cP0
    replace cP1 := cellBelow hb lP cP1
    replace lP := Nat.lt_of_lt_of_le lP hb.size
    replace cY0 := cellBelow hb lY cY0
    replace cY1 := cellBelow hb lY cY1
    replace lY := Nat.lt_of_lt_of_le lY hb.size
    replace cQ0 := cellBelow hb lQ cQ0
    replace cQ1 := cellBelow hb lQ cQ1
    replace lQ := Nat.lt_of_lt_of_le lQ hb.size
    have Zw21 := Lib.hid (ZWQ.out.below hb)
    have Bw21 := Lib.hid (BWQ.out.trans (hb.mono BWQ.out.size))
    have Kw21W := Lib.hid (ownsKeep KWQW.out hb)
    clear KWQW
    have Kw21X := Lib.hid (ownsKeep KWQX.out hb)
    clear KWQX
    have Kw21V := Lib.hid (ownsKeep KWQV.out hb)
    clear KWQV
    have hlast22 : IQ + 1 ≤ w21.heap.size := Nat.le_trans hlast20 hb.size
    clear hlast20
    clear ZWQ BWQ hb
    have hq0 : Below w21.heap.size w21 w21 := Below.refl _ _
    have VX := Lib.hid (show VersA w21 AX zs from el_of_owns verC_len Kw21X.out)
    go_upto_region 10 with fail
    go_cut [35] (fun s1 wx => AtTStorePrune w21 s1 wx)
    case first =>
      go_region_held3 (fun w' => w'.cell? ⟨G, 0, none⟩ = some (.int .i64 now) ∧ w'.cell? ⟨G, 1, none⟩ = some (.slice A zs.length cap) ∧ w'.cell? ⟨IY, 0, none⟩ = some (.int .i64 now) ∧ w'.cell? ⟨IY, 1, none⟩ = some (.slice AX zs.length cX) ∧ w21.heap.size ≤ w'.heap.size ∧ Below w21.heap.size w21 w')
        (((try go_split_ands); refine ⟨?cc90, ?cc91, ?cc92, ?cc93, ?sz9, ?bl9⟩; (case cc90 => (repeat (first | with_reducible assumption | with_reducible refine cell_below hb (by first | omega | (simp; done) | (simp; omega)) ?_ | with_reducible refine cell_set_far (by first | omega | (simp; done) | (simp; omega)) ?_ | with_reducible exact cell_alloc_swap (by with_reducible assumption) (by first | omega | (simp; done) | (simp; omega)) | with_reducible refine cell_alloc_far ?_ | with_reducible refine cell_drew ?_))); (case cc91 => (repeat (first | with_reducible assumption | with_reducible refine cell_below hb (by first | omega | (simp; done) | (simp; omega)) ?_ | with_reducible refine cell_set_far (by first | omega | (simp; done) | (simp; omega)) ?_ | with_reducible exact cell_alloc_swap (by with_reducible assumption) (by first | omega | (simp; done) | (simp; omega)) | with_reducible refine cell_alloc_far ?_ | with_reducible refine cell_drew ?_))); (case cc92 => (repeat (first | with_reducible assumption | with_reducible refine cell_below hb (by first | omega | (simp; done) | (simp; omega)) ?_ | with_reducible refine cell_set_far (by first | omega | (simp; done) | (simp; omega)) ?_ | with_reducible exact cell_alloc_swap (by with_reducible assumption) (by first | omega | (simp; done) | (simp; omega)) | with_reducible refine cell_alloc_far ?_ | with_reducible refine cell_drew ?_))); (case cc93 => (repeat (first | with_reducible assumption | with_reducible refine cell_below hb (by first | omega | (simp; done) | (simp; omega)) ?_ | with_reducible refine cell_set_far (by first | omega | (simp; done) | (simp; omega)) ?_ | with_reducible exact cell_alloc_swap (by with_reducible assumption) (by first | omega | (simp; done) | (simp; omega)) | with_reducible refine cell_alloc_far ?_ | with_reducible refine cell_drew ?_))); (case sz9 => (first | with_reducible assumption | (have := hb.size; omega) | omega | (simp; done) | (simp; omega) | (have := hb.size; simp at this ⊢; omega))); (case bl9 => (repeat (first | with_reducible assumption | with_reducible exact hq0 | with_reducible refine Below.drew ?_ | with_reducible refine Below.trans ?_ (hb.mono (by first | omega | (simp; done) | (simp; omega))) | with_reducible refine Below.setCell ?_ (by first | omega | (simp; done) | (simp; omega)) _ | with_reducible exact below_alloc_swap (by with_reducible assumption) (by first | omega | (simp; done) | (simp; omega)) | with_reducible refine Below.alloc ?_ (by first | omega | (simp; done) | (simp; omega)) _)))))
        (first
          | (go_at_call 26; (try go_split_ands); refine (toStore_any A cap zs now _ (Zw21.out.below (by (repeat (first | with_reducible assumption | with_reducible exact hq0 | with_reducible refine Below.drew ?_ | with_reducible refine Below.trans ?_ (hb.mono (by first | omega | (simp; done) | (simp; omega))) | with_reducible refine Below.setCell ?_ (by first | omega | (simp; done) | (simp; omega)) _ | with_reducible exact below_alloc_swap (by with_reducible assumption) (by first | omega | (simp; done) | (simp; omega)) | with_reducible refine Below.alloc ?_ (by first | omega | (simp; done) | (simp; omega)) _)))) (by omega)).mono ?_; rintro e wA ⟨AA, cA, rfl, ho, hb⟩; have VA := Lib.hid (show VersA wA AA zs from el_of_owns verC_len ho); clear ho; have hsz : w21.heap.size ≤ wA.heap.size := (by have := hb.size; first | omega | (simp at this; omega)); obtain ⟨hc, hf, hlb⟩ := bcell3 hb)
          | (go_at_call 19; (try go_split_ands); refine (eqStore_same AX AA cX cA zs now _ (VX.out.below (by (repeat (first | with_reducible assumption | with_reducible exact hq0 | with_reducible refine Below.drew ?_ | with_reducible refine Below.trans ?_ (hb.mono (by first | omega | (simp; done) | (simp; omega))) | with_reducible refine Below.setCell ?_ (by first | omega | (simp; done) | (simp; omega)) _ | with_reducible exact below_alloc_swap (by with_reducible assumption) (by first | omega | (simp; done) | (simp; omega)) | with_reducible refine Below.alloc ?_ (by first | omega | (simp; done) | (simp; omega)) _)))) VA.out hm).mono ?_; rintro e wB ⟨rfl, hb⟩; have hsz : w21.heap.size ≤ wB.heap.size := (by have := hb.size; first | omega | (simp at this; omega)); obtain ⟨hc, hf, hlb⟩ := bcell3 hb))
      all_goals (go_wp2_with fail; go_meet; unfold AtTStorePrune; rename_i hH; exact ⟨rfl, hH.2.2.2.2.2⟩)
    case rest =>
      obtain ⟨rfl, hb⟩ := hcut
      clear VX hq0
      replace cG0 := cellBelow hb lG cG0
      replace cG1 := cellBelow hb lG cG1
      replace lG := Nat.lt_of_lt_of_le lG hb.size
      replace cP0 := cellBelow hb lP cP0
      replace cP1 := cellBelow hb lP cP1
      replace lP := Nat.lt_of_lt_of_le lP hb.size
      replace cY0 := cellBelow hb lY cY0
      replace cY1 := cellBelow hb lY cY1
      replace lY := Nat.lt_of_lt_of_le lY hb.size
      replace cQ0 := cellBelow hb lQ cQ0
      replace cQ1 := cellBelow hb lQ cQ1
      replace lQ := Nat.lt_of_lt_of_le lQ hb.size
      have Zwc := Lib.hid (Zw21.out.below hb)
      have Bwc := Lib.hid (Bw21.out.trans (hb.mono Bw21.out.size))
      have KwcW := Lib.hid (ownsKeep Kw21W.out hb)
      clear Kw21W
      have KwcX := Lib.hid (ownsKeep Kw21X.out hb)
      clear Kw21X
      have KwcV := Lib.hid (ownsKeep Kw21V.out hb)
      clear Kw21V
      have hlast23 : IQ + 1 ≤ wc.heap.size := Nat.le_trans hlast22 hb.size
      clear hlast22
      clear Zw21 Bw21 hb
      go_wp2_with fail
      refine (markStore_any _ AX cX now zs 1 _ KwcX.out (by omega) (by omega) (by omega)).mono ?_
      rintro e w24 ⟨rfl, hmk, hg⟩
      replace cG0 : w24.cell? ⟨G, 0, none⟩ = some (.int .i64 now) := (World.cell?_of_block (a := ⟨G, 0, none⟩) (hg.block G lG (fun e => by have := loX _ e.symm; have := hiX _ e.symm; omega))).trans cG0
      replace cG1 : w24.cell? ⟨G, 1, none⟩ = some (.slice A zs.length cap) := (World.cell?_of_block (a := ⟨G, 1, none⟩) (hg.block G lG (fun e => by have := loX _ e.symm; have := hiX _ e.symm; omega))).trans cG1
      replace lG := Nat.lt_of_lt_of_le lG hg.size
      replace cP0 : w24.cell? ⟨IP, 0, none⟩ = some (.int .i64 n') := (World.cell?_of_block (a := ⟨IP, 0, none⟩) (hg.block IP lP (fun e => by have := loX _ e.symm; have := hiX _ e.symm; omega))).trans cP0
      replace cP1 : w24.cell? ⟨IP, 1, none⟩ = some (.slice AW ys.length cW) := (World.cell?_of_block (a := ⟨IP, 1, none⟩) (hg.block IP lP (fun e => by have := loX _ e.symm; have := hiX _ e.symm; omega))).trans cP1
      replace lP := Nat.lt_of_lt_of_le lP hg.size
      replace cY0 : w24.cell? ⟨IY, 0, none⟩ = some (.int .i64 now) := (World.cell?_of_block (a := ⟨IY, 0, none⟩) (hg.block IY lY (fun e => by have := loX _ e.symm; have := hiX _ e.symm; omega))).trans cY0
      replace cY1 : w24.cell? ⟨IY, 1, none⟩ = some (.slice AX zs.length cX) := (World.cell?_of_block (a := ⟨IY, 1, none⟩) (hg.block IY lY (fun e => by have := loX _ e.symm; have := hiX _ e.symm; omega))).trans cY1
      replace lY := Nat.lt_of_lt_of_le lY hg.size
      replace cQ0 : w24.cell? ⟨IQ, 0, none⟩ = some (.int .i64 n') := (World.cell?_of_block (a := ⟨IQ, 0, none⟩) (hg.block IQ lQ (fun e => by have := loX _ e.symm; have := hiX _ e.symm; omega))).trans cQ0
      replace cQ1 : w24.cell? ⟨IQ, 1, none⟩ = some (.slice AV ys.length cV) := (World.cell?_of_block (a := ⟨IQ, 1, none⟩) (hg.block IQ lQ (fun e => by have := loX _ e.symm; have := hiX _ e.symm; omega))).trans cQ1
      replace lQ := Nat.lt_of_lt_of_le lQ hg.size
      have Bw24 := Lib.hid (Bwc.out.grown hg Bwc.out.size (fun k e => by have := loX k e; omega))
      have Zw24 := Lib.hid (HZW.out.below Bw24.out)
      have Kw24W := Lib.hid (KwcW.out.kept hg (apartStorePrune loW hiW loX hiX (by omega)))
      clear KwcW
      have Kw24V := Lib.hid (KwcV.out.kept hg (apartStorePrune loV hiV loX hiX (by omega)))
      clear KwcV
      have hlast25 : IQ + 1 ≤ w24.heap.size := Nat.le_trans hlast23 hg.size
      clear hlast23
      clear KwcX loX hiX
      clear hmk hg Bwc Zwc
      have hk : decide ((1 : Int) + 6 * (zs.length : Int) < 0) = false := decide_eq_false (by omega)
      go_wp2_with fail
      refine (eqStore_same _ _ _ _ ys n' _ (el_of_owns verC_len Kw24V.out) (el_of_owns verC_len Kw24W.out) (by unfold maxLen; omega)).mono ?_
      rintro e w26 ⟨rfl, hb⟩
      replace cG0 := cellBelow hb lG cG0
      replace cG1 := cellBelow hb lG cG1
      replace lG := Nat.lt_of_lt_of_le lG hb.size
      replace cP0 := cellBelow hb lP cP0
      replace cP1 := cellBelow hb lP cP1
      replace lP := Nat.lt_of_lt_of_le lP hb.size
      replace cY0 := cellBelow hb lY cY0
      replace cY1 := cellBelow hb lY cY1
      replace lY := Nat.lt_of_lt_of_le lY hb.size
      replace cQ0 := cellBelow hb lQ cQ0
      replace cQ1 := cellBelow hb lQ cQ1
      replace lQ := Nat.lt_of_lt_of_le lQ hb.size
      have Zw26 := Lib.hid (Zw24.out.below hb)
      have Bw26 := Lib.hid (Bw24.out.trans (hb.mono Bw24.out.size))
      have Kw26W := Lib.hid (ownsKeep Kw24W.out hb)
      clear Kw24W
      have Kw26V := Lib.hid (ownsKeep Kw24V.out hb)
      clear Kw24V
      have hlast27 : IQ + 1 ≤ w26.heap.size := Nat.le_trans hlast25 hb.size
      clear hlast25
      clear Zw24 Bw24 hb
      go_wp2_with fail
      refine (markStore_any _ AV cV n' ys 1 _ Kw26V.out (by omega) (by omega) (by omega)).mono ?_
      rintro e w28 ⟨rfl, hmk, hg⟩
      replace cG0 : w28.cell? ⟨G, 0, none⟩ = some (.int .i64 now) := (World.cell?_of_block (a := ⟨G, 0, none⟩) (hg.block G lG (fun e => by have := loV _ e.symm; have := hiV _ e.symm; omega))).trans cG0
      replace cG1 : w28.cell? ⟨G, 1, none⟩ = some (.slice A zs.length cap) := (World.cell?_of_block (a := ⟨G, 1, none⟩) (hg.block G lG (fun e => by have := loV _ e.symm; have := hiV _ e.symm; omega))).trans cG1
      replace lG := Nat.lt_of_lt_of_le lG hg.size
      replace cP0 : w28.cell? ⟨IP, 0, none⟩ = some (.int .i64 n') := (World.cell?_of_block (a := ⟨IP, 0, none⟩) (hg.block IP lP (fun e => by have := loV _ e.symm; have := hiV _ e.symm; omega))).trans cP0
      replace cP1 : w28.cell? ⟨IP, 1, none⟩ = some (.slice AW ys.length cW) := (World.cell?_of_block (a := ⟨IP, 1, none⟩) (hg.block IP lP (fun e => by have := loV _ e.symm; have := hiV _ e.symm; omega))).trans cP1
      replace lP := Nat.lt_of_lt_of_le lP hg.size
      replace cY0 : w28.cell? ⟨IY, 0, none⟩ = some (.int .i64 now) := (World.cell?_of_block (a := ⟨IY, 0, none⟩) (hg.block IY lY (fun e => by have := loV _ e.symm; have := hiV _ e.symm; omega))).trans cY0
      replace cY1 : w28.cell? ⟨IY, 1, none⟩ = some (.slice AX zs.length cX) := (World.cell?_of_block (a := ⟨IY, 1, none⟩) (hg.block IY lY (fun e => by have := loV _ e.symm; have := hiV _ e.symm; omega))).trans cY1
      replace lY := Nat.lt_of_lt_of_le lY hg.size
      replace cQ0 : w28.cell? ⟨IQ, 0, none⟩ = some (.int .i64 n') := (World.cell?_of_block (a := ⟨IQ, 0, none⟩) (hg.block IQ lQ (fun e => by have := loV _ e.symm; have := hiV _ e.symm; omega))).trans cQ0
      replace cQ1 : w28.cell? ⟨IQ, 1, none⟩ = some (.slice AV ys.length cV) := (World.cell?_of_block (a := ⟨IQ, 1, none⟩) (hg.block IQ lQ (fun e => by have := loV _ e.symm; have := hiV _ e.symm; omega))).trans cQ1
      replace lQ := Nat.lt_of_lt_of_le lQ hg.size
      have Bw28 := Lib.hid (Bw26.out.grown hg Bw26.out.size (fun k e => by have := loV k e; omega))
      have Zw28 := Lib.hid (HZW.out.below Bw28.out)
      have Kw28W := Lib.hid (Kw26W.out.kept hg (apartStorePrune loW hiW loV hiV (by omega)))
      clear Kw26W
      have hlast29 : IQ + 1 ≤ w28.heap.size := Nat.le_trans hlast27 hg.size
      clear hlast27
      have MV := Lib.hid (show w28.ownsRow _ 74 6 (.slice AV (markE verMk 6 1 ys.length).length cV) (markE verMk 6 1 ys.length).length (flatOf verC (markE verMk 6 1 ys.length)) from by rw [markE_length]; exact hmk)
      clear Kw26V
      clear hmk hg Bw26 Zw26
      have hq : decide ((1 : Int) + 6 * (ys.length : Int) < 0) = false := decide_eq_false (by omega)
      go_wp2_with fail
      refine (heldStore_any _ ys.length _ n' 1 _ (el_of_owns verC_len MV.out) (by omega) (by omega) (by omega)).mono ?_
      rintro e w30 ⟨rfl, hb⟩
      replace cG0 := cellBelow hb lG cG0
      replace cG1 := cellBelow hb lG cG1
      replace lG := Nat.lt_of_lt_of_le lG hb.size
      replace cP0 := cellBelow hb lP cP0
      replace cP1 := cellBelow hb lP cP1
      replace lP := Nat.lt_of_lt_of_le lP hb.size
      replace cY0 := cellBelow hb lY cY0
      replace cY1 := cellBelow hb lY cY1
      replace lY := Nat.lt_of_lt_of_le lY hb.size
      replace cQ0 := cellBelow hb lQ cQ0
      replace cQ1 := cellBelow hb lQ cQ1
      replace lQ := Nat.lt_of_lt_of_le lQ hb.size
      have Zw30 := Lib.hid (Zw28.out.below hb)
      have Bw30 := Lib.hid (Bw28.out.trans (hb.mono Bw28.out.size))
      have Kw30W := Lib.hid (ownsKeep Kw28W.out hb)
      clear Kw28W
      have Kw30V := Lib.hid (ownsKeep MV.out hb)
      clear MV
      have hlast31 : IQ + 1 ≤ w30.heap.size := Nat.le_trans hlast29 hb.size
      clear hlast29
      clear Zw28 Bw28 hb
      go_wp2_with fail
      refine (toStore_any A cap zs now _ Zw30.out (by omega)).mono ?_
      rintro e w32 ⟨AE, cE, rfl, ho, hb⟩
      obtain ⟨LoE, hLo⟩ : ∃ L, w30.heap.size = L := ⟨_, rfl⟩
      obtain ⟨HiE, hHi⟩ : ∃ H, w32.heap.size = H := ⟨_, rfl⟩
      have OE := Lib.hid (show w32.ownsRow w30.heap.size 74 6 (.slice AE zs.length cE) zs.length (flatOf verC zs) from ho)
      have loE : ∀ k, (Value.slice AE zs.length cE).ownBlock = some k → LoE ≤ k := fun k e => by rw [← hLo]; exact (OE.out.lt k e).1
      have hiE : ∀ k, (Value.slice AE zs.length cE).ownBlock = some k → k < HiE := fun k e => by rw [← hHi]; exact (OE.out.lt k e).2
      have orE : IQ + 1 ≤ LoE := by rw [← hLo]; exact hlast31
      have ohE : LoE ≤ HiE := by rw [← hLo, ← hHi]; exact hb.size
      clear ho
      replace cG0 := cellBelow hb lG cG0
      replace cG1 := cellBelow hb lG cG1
      replace lG := Nat.lt_of_lt_of_le lG hb.size
      replace cP0 := cellBelow hb lP cP0
      replace cP1 := cellBelow hb lP cP1
      replace lP := Nat.lt_of_lt_of_le lP hb.size
      replace cY0 := cellBelow hb lY cY0
      replace cY1 := cellBelow hb lY cY1
      replace lY := Nat.lt_of_lt_of_le lY hb.size
      replace cQ0 := cellBelow hb lQ cQ0
      replace cQ1 := cellBelow hb lQ cQ1
      replace lQ := Nat.lt_of_lt_of_le lQ hb.size
      have Zw32 := Lib.hid (Zw30.out.below hb)
      have Bw32 := Lib.hid (Bw30.out.trans (hb.mono Bw30.out.size))
      have Kw32W := Lib.hid (ownsKeep Kw30W.out hb)
      clear Kw30W
      have Kw32V := Lib.hid (ownsKeep Kw30V.out hb)
      clear Kw30V
      have hlast33 : IQ + 1 ≤ w32.heap.size := Nat.le_trans hlast31 hb.size
      clear hlast31
      clear Zw30 Bw30 hb
      have hlast34 : HiE ≤ w32.heap.size := Nat.le_of_eq hHi.symm
      clear hlast33
      clear hLo hHi
      go_wp2_with fail
      refine (StorePrune_any AE cE zs now st _ (el_of_owns verC_len OE.out) (owns_addrV OE.out) (owns_nilcap OE.out) hl HS.out).mono ?_
      rw [HP.out]
      rintro e w35 ⟨AH, cH, rfl, ho, hb⟩
      obtain ⟨LoH, hLo⟩ : ∃ L, w32.heap.size = L := ⟨_, rfl⟩
      obtain ⟨HiH, hHi⟩ : ∃ H, w35.heap.size = H := ⟨_, rfl⟩
      have OH := Lib.hid (show w35.ownsRow w32.heap.size 74 6 (.slice AH ys.length cH) ys.length (flatOf verC ys) from ho)
      have loH : ∀ k, (Value.slice AH ys.length cH).ownBlock = some k → LoH ≤ k := fun k e => by rw [← hLo]; exact (OH.out.lt k e).1
      have hiH : ∀ k, (Value.slice AH ys.length cH).ownBlock = some k → k < HiH := fun k e => by rw [← hHi]; exact (OH.out.lt k e).2
      have orH : HiE ≤ LoH := by rw [← hLo]; exact hlast34
      have ohH : LoH ≤ HiH := by rw [← hLo, ← hHi]; exact hb.size
      clear ho
      replace cG0 := cellBelow hb lG cG0
      replace cG1 := cellBelow hb lG cG1
      replace lG := Nat.lt_of_lt_of_le lG hb.size
      replace cP0 := cellBelow hb lP cP0
      replace cP1 := cellBelow hb lP cP1
      replace lP := Nat.lt_of_lt_of_le lP hb.size
      replace cY0 := cellBelow hb lY cY0
      replace cY1 := cellBelow hb lY cY1
      replace lY := Nat.lt_of_lt_of_le lY hb.size
      replace cQ0 := cellBelow hb lQ cQ0
      replace cQ1 := cellBelow hb lQ cQ1
      replace lQ := Nat.lt_of_lt_of_le lQ hb.size
      have Zw35 := Lib.hid (Zw32.out.below hb)
      have Bw35 := Lib.hid (Bw32.out.trans (hb.mono Bw32.out.size))
      have Kw35W := Lib.hid (ownsKeep Kw32W.out hb)
      clear Kw32W
      have Kw35V := Lib.hid (ownsKeep Kw32V.out hb)
      clear Kw32V
      have Kw35E := Lib.hid (ownsKeep OE.out hb)
      clear OE
      have hlast36 : HiE ≤ w35.heap.size := Nat.le_trans hlast34 hb.size
      clear hlast34
      clear Zw32 Bw32 hb
      have hlast37 : HiH ≤ w35.heap.size := Nat.le_of_eq hHi.symm
      clear hlast36
      clear hLo hHi
      clear Kw35E loE hiE
      go_wp2_with fail
      generalize hW : w35.alloc _ = WJ
      have cJ0 : WJ.cell? ⟨w35.heap.size, 0, none⟩ = some (.int .i64 n') := by rw [← hW]; simp [go_sem]
      have cJ1 : WJ.cell? ⟨w35.heap.size, 1, none⟩ = some (.slice AH ys.length cH) := by rw [← hW]; simp [go_sem]
      have lJ : w35.heap.size < WJ.heap.size := by rw [← hW]; simp
      have hb : Below w35.heap.size w35 WJ := by rw [← hW]; exact (Below.refl _ _).alloc (Nat.le_refl _) _
      obtain ⟨IJ, hI⟩ : ∃ I, w35.heap.size = I := ⟨_, rfl⟩
      have orJ : HiH ≤ IJ := by rw [← hI]; exact hlast37
      clear hW
      replace cG0 := cellBelow hb lG cG0
      replace cG1 := cellBelow hb lG cG1
      replace lG := Nat.lt_of_lt_of_le lG hb.size
      replace cP0 := cellBelow hb lP cP0
      replace cP1 := cellBelow hb lP cP1
      replace lP := Nat.lt_of_lt_of_le lP hb.size
      replace cY0 := cellBelow hb lY cY0
      replace cY1 := cellBelow hb lY cY1
      replace lY := Nat.lt_of_lt_of_le lY hb.size
      replace cQ0 := cellBelow hb lQ cQ0
      replace cQ1 := cellBelow hb lQ cQ1
      replace lQ := Nat.lt_of_lt_of_le lQ hb.size
      have ZWJ := Lib.hid (Zw35.out.below hb)
      have BWJ := Lib.hid (Bw35.out.trans (hb.mono Bw35.out.size))
      have KWJW := Lib.hid (ownsKeep Kw35W.out hb)
      clear Kw35W
      have KWJV := Lib.hid (ownsKeep Kw35V.out hb)
      clear Kw35V
      have KWJH := Lib.hid (ownsKeep OH.out hb)
      clear OH
      have hlast38 : HiH ≤ WJ.heap.size := Nat.le_trans hlast37 hb.size
      clear hlast37
      clear Zw35 Bw35 hb
      rw [hI] at cJ0 cJ1 lJ
      try rw [hI]
      clear hI
      have hlast39 : IJ + 1 ≤ WJ.heap.size := lJ
      clear hlast38
      go_wp2_with fail
      refine (eqStore_same _ _ _ _ ys n' _ (el_of_owns verC_len KWJH.out) (el_of_owns verC_len KWJW.out) (by unfold maxLen; omega)).mono ?_
      rintro e w40 ⟨rfl, hb⟩
      replace cG0 := cellBelow hb lG cG0
      replace cG1 := cellBelow hb lG cG1
      replace lG := Nat.lt_of_lt_of_le lG hb.size
      replace cP0 := cellBelow hb lP cP0
      replace cP1 := cellBelow hb lP cP1
      replace lP := Nat.lt_of_lt_of_le lP hb.size
      replace cY0 := cellBelow hb lY cY0
      replace cY1 := cellBelow hb lY cY1
      replace lY := Nat.lt_of_lt_of_le lY hb.size
      replace cQ0 := cellBelow hb lQ cQ0
      replace cQ1 := cellBelow hb lQ cQ1
      replace lQ := Nat.lt_of_lt_of_le lQ hb.size
      replace cJ0 := cellBelow hb lJ cJ0
      replace cJ1 := cellBelow hb lJ cJ1
      replace lJ := Nat.lt_of_lt_of_le lJ hb.size
      have Zw40 := Lib.hid (ZWJ.out.below hb)
      have Bw40 := Lib.hid (BWJ.out.trans (hb.mono BWJ.out.size))
      have Kw40W := Lib.hid (ownsKeep KWJW.out hb)
      clear KWJW
      have Kw40V := Lib.hid (ownsKeep KWJV.out hb)
      clear KWJV
      have Kw40H := Lib.hid (ownsKeep KWJH.out hb)
      clear KWJH
      have hlast41 : IJ + 1 ≤ w40.heap.size := Nat.le_trans hlast39 hb.size
      clear hlast39
      clear ZWJ BWJ hb
      go_wp2_with fail
      refine (heldStore_any _ ys.length _ n' 1 _ (el_of_owns verC_len Kw40V.out) (by omega) (by omega) (by omega)).mono ?_
      rintro e w42 ⟨rfl, hb⟩
      replace cG0 := cellBelow hb lG cG0
      replace cG1 := cellBelow hb lG cG1
      replace lG := Nat.lt_of_lt_of_le lG hb.size
      replace cP0 := cellBelow hb lP cP0
      replace cP1 := cellBelow hb lP cP1
      replace lP := Nat.lt_of_lt_of_le lP hb.size
      replace cY0 := cellBelow hb lY cY0
      replace cY1 := cellBelow hb lY cY1
      replace lY := Nat.lt_of_lt_of_le lY hb.size
      replace cQ0 := cellBelow hb lQ cQ0
      replace cQ1 := cellBelow hb lQ cQ1
      replace lQ := Nat.lt_of_lt_of_le lQ hb.size
      replace cJ0 := cellBelow hb lJ cJ0
      replace cJ1 := cellBelow hb lJ cJ1
      replace lJ := Nat.lt_of_lt_of_le lJ hb.size
      have Zw42 := Lib.hid (Zw40.out.below hb)
      have Bw42 := Lib.hid (Bw40.out.trans (hb.mono Bw40.out.size))
      have Kw42W := Lib.hid (ownsKeep Kw40W.out hb)
      clear Kw40W
      have Kw42V := Lib.hid (ownsKeep Kw40V.out hb)
      clear Kw40V
      have Kw42H := Lib.hid (ownsKeep Kw40H.out hb)
      clear Kw40H
      have hlast43 : IJ + 1 ≤ w42.heap.size := Nat.le_trans hlast41 hb.size
      clear hlast41
      clear Zw40 Bw40 hb
      go_wp2
      go_ret
      exact ⟨rfl, Bw42.out⟩
end Go.Proofs.Ytacddgipcafdlaa
