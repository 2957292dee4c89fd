/-
  The walk of the exact law of StoreSet.
-/
import Derived.Test.YtfolppahdmkaoabStoSe
import Derived.Test.YtfolppahdmkaoabVerM
namespace Go.Proofs.Ytfolppahdmkaoab
open Go.RowKit Go.Lib

def AtTStoreSet (W : World) (s1 : Value) (wx : World) : Prop := s1 = .bool false ∧ Below W.heap.size W wx
theorem owns_addrV {w : World} {base n k cap : Nat} {A : Option Addr} {t : TypeId} {xs : List Value} (h : w.ownsRow base t k (.slice A n cap) n xs) : A = none ∨ ∃ b off, A = some ⟨b, off, none⟩ := by
  rcases h.2 with ⟨e0, _⟩ | ⟨g, c, cur, e0, _⟩
  · injection e0 with e0; exact .inl e0
  · injection e0 with e0; exact .inr ⟨g, 0, e0⟩
theorem apartI {v v' : Value} {a b c d : Nat} (h1 : ∀ k, v.ownBlock = some k → a ≤ k) (h2 : ∀ k, v.ownBlock = some k → k < b) (h3 : ∀ k, v'.ownBlock = some k → c ≤ k) (h4 : ∀ k, v'.ownBlock = some k → k < d) (h : b ≤ c ∨ d ≤ a) : v.ownBlock = none ∨ v.ownBlock ≠ v'.ownBlock := by
  cases e : v.ownBlock with
  | none => exact .inl rfl
  | some k =>
    refine .inr fun e' => ?_
    have i1 := h1 k e
    have i2 := h2 k e
    have i3 := h3 k e'.symm
    have i4 := h4 k e'.symm
    omega

set_option maxRecDepth 100000 in
set_option maxHeartbeats 8000000 in
theorem FnExactStoreSet_any (now : Int) (A : Option Addr) (n cap : Nat) (zs : List VerV) (T : Option Addr) (nt capt : Nat) (t : List RowV) (w : World) (h : VersA w A zs ∧ zs.length = n ∧ n ≤ maxLen ∧ ShortV zs) (h1 : RowsA w T t ∧ t.length = nt ∧ nt ≤ maxLen ∧ ∀ r ∈ t, r.k.size ≤ maxLen ∧ r.t.size ≤ maxLen) :
    Calls Try.prog 5 #[.agg #[.int .i64 now, .slice A n cap], .slice T nt capt] w fun e w' => e = .returned (.bool true) ∧ Below w.heap.size w w' := by
  obtain ⟨hz, rfl, hm, hs⟩ := h
  obtain ⟨ht, rfl, hmt, hts⟩ := h1
  have HS := Lib.hid hs
  have HTS := Lib.hid hts
  have HZW := Lib.hid hz
  have HTW := Lib.hid ht
  clear hs hts hz ht
  go_enter Try.func5, Try.ntmps5
  go_wp2_with fail
  generalize hW : w.alloc _ = W0
  have cG0 : W0.cell? ⟨w.heap.size, 0, none⟩ = some (.int .i64 now) := by rw [← hW]; simp [go_sem]
  have cG1 : W0.cell? ⟨w.heap.size, 1, none⟩ = some (.slice A zs.length cap) := by rw [← hW]; simp [go_sem]
  have lG : w.heap.size < W0.heap.size := by rw [← hW]; simp
  have BW0 := Lib.hid (show Below w.heap.size w W0 from by rw [← hW]; exact (Below.refl _ _).alloc (Nat.le_refl _) _)
  have ZW0 := Lib.hid (HZW.out.below BW0.out)
  have TW0 := Lib.hid (HTW.out.below BW0.out)
  obtain ⟨G, hG⟩ : ∃ G, w.heap.size = G := ⟨_, rfl⟩
  have hGle : w.heap.size ≤ G := Nat.le_of_eq hG
  rw [hG] at cG0 cG1 lG ⊢
  have hlast0 : G + 1 ≤ W0.heap.size := lG
  clear hW hG
  refine (szStore_any A cap zs now _ _ (by omega) (by omega) ZW0.out hm HS.out).mono ?_
  rintro e w1 ⟨v, rfl, hv, hb⟩
  replace cG0 := cellBelow hb lG cG0
  replace cG1 := cellBelow hb lG cG1
  replace lG := Nat.lt_of_lt_of_le lG hb.size
  have Zw1 := Lib.hid (ZW0.out.below hb)
  have Tw1 := Lib.hid (TW0.out.below hb)
  have Bw1 := Lib.hid (BW0.out.trans (hb.mono BW0.out.size))
  have hlast2 : G + 1 ≤ w1.heap.size := Nat.le_trans hlast0 hb.size
  clear hlast0
  clear ZW0 TW0 BW0 hb
  rcases hv with rfl | ⟨hv0, hv1, hv2⟩
  · go_wp2
    go_ret
    exact ⟨rfl, Bw1.out⟩
  · skip
    have hl : zs.length ≤ 1048576 := by omega
    have hd : decide (v < 0) = false := decide_eq_false (by omega)
    go_wp2_with fail
    refine (szRowS_any _ _ _ _ _ (by omega) (by omega) Tw1.out hmt HTS.out).mono ?_
    rintro e w3 ⟨v2, rfl, hv2, hb⟩
    replace cG0 := cellBelow hb lG cG0
    replace cG1 := cellBelow hb lG cG1
    replace lG := Nat.lt_of_lt_of_le lG hb.size
    have Zw3 := Lib.hid (Zw1.out.below hb)
    have Tw3 := Lib.hid (Tw1.out.below hb)
    have Bw3 := Lib.hid (Bw1.out.trans (hb.mono Bw1.out.size))
    have hlast4 : G + 1 ≤ w3.heap.size := Nat.le_trans hlast2 hb.size
    clear hlast2
    clear Zw1 Tw1 Bw1 hb
    rcases hv2 with rfl | ⟨hu0, hu1, hu2⟩
    · go_wp2
      go_ret
      exact ⟨rfl, Bw3.out⟩
    · skip
      have hlt : t.length ≤ 1048577 := by omega
      have hd2 : decide (v2 < 0) = false := decide_eq_false (by omega)
      have hyl := setP_len zs now t
      obtain ⟨pp, hpp⟩ : ∃ pp, setP zs now t = pp := ⟨_, rfl⟩
      rw [hpp] at hyl
      obtain ⟨n', ys, ok⟩ := pp
      have HP := Lib.hid hpp
      replace hyl : ys.length ≤ zs.length + t.length := hyl
      clear hpp
      go_wp2_with fail
      refine (toStore_any A cap zs now _ Zw3.out (by omega)).mono ?_
      rintro e w5 ⟨AS, cS, rfl, ho, hb⟩
      obtain ⟨LoS, hLo⟩ : ∃ L, w3.heap.size = L := ⟨_, rfl⟩
      obtain ⟨HiS, hHi⟩ : ∃ H, w5.heap.size = H := ⟨_, rfl⟩
      have OS := Lib.hid (show w5.ownsRow w3.heap.size 90 6 (.slice AS zs.length cS) zs.length (flatOf verC zs) from ho)
      have loS : ∀ k, (Value.slice AS zs.length cS).ownBlock = some k → LoS ≤ k := fun k e => by rw [← hLo]; exact (OS.out.lt k e).1
      have hiS : ∀ k, (Value.slice AS zs.length cS).ownBlock = some k → k < HiS := fun k e => by rw [← hHi]; exact (OS.out.lt k e).2
      have orS : G + 1 ≤ LoS := by rw [← hLo]; exact hlast4
      have ohS : LoS ≤ HiS := by rw [← hLo, ← hHi]; exact hb.size
      clear ho
      replace cG0 := cellBelow hb lG cG0
      replace cG1 := cellBelow hb lG cG1
      replace lG := Nat.lt_of_lt_of_le lG hb.size
      have Zw5 := Lib.hid (Zw3.out.below hb)
      have Tw5 := Lib.hid (Tw3.out.below hb)
      have Bw5 := Lib.hid (Bw3.out.trans (hb.mono Bw3.out.size))
      have hlast6 : G + 1 ≤ w5.heap.size := Nat.le_trans hlast4 hb.size
      clear hlast4
      clear Zw3 Tw3 Bw3 hb
      have hlast7 : HiS ≤ w5.heap.size := Nat.le_of_eq hHi.symm
      clear hlast6
      clear hLo hHi
      go_wp2_with fail
      refine (toRowS_any _ _ _ _ Tw5.out (by omega)).mono ?_
      rintro e w8 ⟨AU, cU, rfl, ho, hb⟩
      obtain ⟨LoU, hLo⟩ : ∃ L, w5.heap.size = L := ⟨_, rfl⟩
      obtain ⟨HiU, hHi⟩ : ∃ H, w8.heap.size = H := ⟨_, rfl⟩
      have OU := Lib.hid (show w8.ownsRow w5.heap.size 69 4 (.slice AU t.length cU) t.length (flatOf rowC t) from ho)
      have loU : ∀ k, (Value.slice AU t.length cU).ownBlock = some k → LoU ≤ k := fun k e => by rw [← hLo]; exact (OU.out.lt k e).1
      have hiU : ∀ k, (Value.slice AU t.length cU).ownBlock = some k → k < HiU := fun k e => by rw [← hHi]; exact (OU.out.lt k e).2
      have orU : HiS ≤ LoU := by rw [← hLo]; exact hlast7
      have ohU : LoU ≤ HiU := by rw [← hLo, ← hHi]; exact hb.size
      clear ho
      replace cG0 := cellBelow hb lG cG0
      replace cG1 := cellBelow hb lG cG1
      replace lG := Nat.lt_of_lt_of_le lG hb.size
      have Zw8 := Lib.hid (Zw5.out.below hb)
      have Tw8 := Lib.hid (Tw5.out.below hb)
      have Bw8 := Lib.hid (Bw5.out.trans (hb.mono Bw5.out.size))
      have Kw8S := Lib.hid (ownsKeep OS.out hb)
      clear OS
      have hlast9 : HiS ≤ w8.heap.size := Nat.le_trans hlast7 hb.size
      clear hlast7
      clear Zw5 Tw5 Bw5 hb
      have hlast10 : HiU ≤ w8.heap.size := Nat.le_of_eq hHi.symm
      clear hlast9
      clear hLo hHi
      go_wp2_with fail
      refine (sStoreSet_any AS AU cS cU zs now t _ (el_of_owns verC_len Kw8S.out) (owns_addrV Kw8S.out) (owns_nilcap Kw8S.out) (el_of_owns rowC_len OU.out) hl hlt HS.out HTS.out).mono ?_
      rw [HP.out]
      rintro e w11 ⟨AW, cW, rfl, ho, hb⟩
      obtain ⟨LoW, hLo⟩ : ∃ L, w8.heap.size = L := ⟨_, rfl⟩
      obtain ⟨HiW, hHi⟩ : ∃ H, w11.heap.size = H := ⟨_, rfl⟩
      have OW := Lib.hid (show w11.ownsRow w8.heap.size 90 6 (.slice AW ys.length cW) ys.length (flatOf verC ys) from ho)
      have loW : ∀ k, (Value.slice AW ys.length cW).ownBlock = some k → LoW ≤ k := fun k e => by rw [← hLo]; exact (OW.out.lt k e).1
      have hiW : ∀ k, (Value.slice AW ys.length cW).ownBlock = some k → k < HiW := fun k e => by rw [← hHi]; exact (OW.out.lt k e).2
      have orW : HiU ≤ LoW := by rw [← hLo]; exact hlast10
      have ohW : LoW ≤ HiW := by rw [← hLo, ← hHi]; exact hb.size
      clear ho
      replace cG0 := cellBelow hb lG cG0
      replace cG1 := cellBelow hb lG cG1
      replace lG := Nat.lt_of_lt_of_le lG hb.size
      have Zw11 := Lib.hid (Zw8.out.below hb)
      have Tw11 := Lib.hid (Tw8.out.below hb)
      have Bw11 := Lib.hid (Bw8.out.trans (hb.mono Bw8.out.size))
      have Kw11S := Lib.hid (ownsKeep Kw8S.out hb)
      clear Kw8S
      have Kw11U := Lib.hid (ownsKeep OU.out hb)
      clear OU
      have hlast12 : HiU ≤ w11.heap.size := Nat.le_trans hlast10 hb.size
      clear hlast10
      clear Zw8 Tw8 Bw8 hb
      have hlast13 : HiW ≤ w11.heap.size := Nat.le_of_eq hHi.symm
      clear hlast12
      clear hLo hHi
      clear Kw11S loS hiS
      clear Kw11U loU hiU
      go_wp2_with fail
      generalize hW : w11.alloc _ = WP
      have cP0 : WP.cell? ⟨w11.heap.size, 0, none⟩ = some (.int .i64 n') := by rw [← hW]; simp [go_sem]
      have cP1 : WP.cell? ⟨w11.heap.size, 1, none⟩ = some (.slice AW ys.length cW) := by rw [← hW]; simp [go_sem]
      have lP : w11.heap.size < WP.heap.size := by rw [← hW]; simp
      have hb : Below w11.heap.size w11 WP := by rw [← hW]; exact (Below.refl _ _).alloc (Nat.le_refl _) _
      obtain ⟨IP, hI⟩ : ∃ I, w11.heap.size = I := ⟨_, rfl⟩
      have orP : HiW ≤ IP := by rw [← hI]; exact hlast13
      clear hW
      replace cG0 := cellBelow hb lG cG0
      replace cG1 := cellBelow hb lG cG1
      replace lG := Nat.lt_of_lt_of_le lG hb.size
      have ZWP := Lib.hid (Zw11.out.below hb)
      have TWP := Lib.hid (Tw11.out.below hb)
      have BWP := Lib.hid (Bw11.out.trans (hb.mono Bw11.out.size))
      have KWPW := Lib.hid (ownsKeep OW.out hb)
      clear OW
      have hlast14 : HiW ≤ WP.heap.size := Nat.le_trans hlast13 hb.size
      clear hlast13
      clear Zw11 Tw11 Bw11 hb
      rw [hI] at cP0 cP1 lP
      try rw [hI]
      clear hI
      have hlast15 : IP + 1 ≤ WP.heap.size := lP
      clear hlast14
      go_wp2_with fail
      refine (toStore_any A cap zs now _ ZWP.out (by omega)).mono ?_
      rintro e w16 ⟨AX, cX, rfl, ho, hb⟩
      obtain ⟨LoX, hLo⟩ : ∃ L, WP.heap.size = L := ⟨_, rfl⟩
      obtain ⟨HiX, hHi⟩ : ∃ H, w16.heap.size = H := ⟨_, rfl⟩
      have OX := Lib.hid (show w16.ownsRow WP.heap.size 90 6 (.slice AX zs.length cX) zs.length (flatOf verC zs) from ho)
      have loX : ∀ k, (Value.slice AX zs.length cX).ownBlock = some k → LoX ≤ k := fun k e => by rw [← hLo]; exact (OX.out.lt k e).1
      have hiX : ∀ k, (Value.slice AX zs.length cX).ownBlock = some k → k < HiX := fun k e => by rw [← hHi]; exact (OX.out.lt k e).2
      have orX : IP + 1 ≤ LoX := by rw [← hLo]; exact hlast15
      have ohX : LoX ≤ HiX := by rw [← hLo, ← hHi]; exact hb.size
      clear ho
      replace cG0 := cellBelow hb lG cG0
      replace cG1 := cellBelow hb lG cG1
      replace lG := Nat.lt_of_lt_of_le lG hb.size
      replace cP0 := cellBelow hb lP cP0
      replace cP1 := cellBelow hb lP cP1
      replace lP := Nat.lt_of_lt_of_le lP hb.size
      have Zw16 := Lib.hid (ZWP.out.below hb)
      have Tw16 := Lib.hid (TWP.out.below hb)
      have Bw16 := Lib.hid (BWP.out.trans (hb.mono BWP.out.size))
      have Kw16W := Lib.hid (ownsKeep KWPW.out hb)
      clear KWPW
      have hlast17 : IP + 1 ≤ w16.heap.size := Nat.le_trans hlast15 hb.size
      clear hlast15
      clear ZWP TWP BWP hb
      have hlast18 : HiX ≤ w16.heap.size := Nat.le_of_eq hHi.symm
      clear hlast17
      clear hLo hHi
      go_wp2_with fail
      generalize hW : w16.alloc _ = WY
      have cY0 : WY.cell? ⟨w16.heap.size, 0, none⟩ = some (.int .i64 now) := by rw [← hW]; simp [go_sem]
      have cY1 : WY.cell? ⟨w16.heap.size, 1, none⟩ = some (.slice AX zs.length cX) := by rw [← hW]; simp [go_sem]
      have lY : w16.heap.size < WY.heap.size := by rw [← hW]; simp
      have hb : Below w16.heap.size w16 WY := by rw [← hW]; exact (Below.refl _ _).alloc (Nat.le_refl _) _
      obtain ⟨IY, hI⟩ : ∃ I, w16.heap.size = I := ⟨_, rfl⟩
      have orY : HiX ≤ IY := by rw [← hI]; exact hlast18
      clear hW
      replace cG0 := cellBelow hb lG cG0
      replace cG1 := cellBelow hb lG cG1
      replace lG := Nat.lt_of_lt_of_le lG hb.size
      replace cP0 := cellBelow hb lP cP0
      replace cP1 := cellBelow hb lP cP1
      replace lP := Nat.lt_of_lt_of_le lP hb.size
      have ZWY := Lib.hid (Zw16.out.below hb)
      have TWY := Lib.hid (Tw16.out.below hb)
      have BWY := Lib.hid (Bw16.out.trans (hb.mono Bw16.out.size))
      have KWYW := Lib.hid (ownsKeep Kw16W.out hb)
      clear Kw16W
      have KWYX := Lib.hid (ownsKeep OX.out hb)
      clear OX
      have hlast19 : HiX ≤ WY.heap.size := Nat.le_trans hlast18 hb.size
      clear hlast18
      clear Zw16 Tw16 Bw16 hb
      rw [hI] at cY0 cY1 lY
      try rw [hI]
      clear hI
      have hlast20 : IY + 1 ≤ WY.heap.size := lY
      clear hlast19
      go_wp2_with fail
      refine (toRowS_any _ _ _ _ TWY.out (by omega)).mono ?_
      rintro e w21 ⟨AR, cR, rfl, ho, hb⟩
      obtain ⟨LoR, hLo⟩ : ∃ L, WY.heap.size = L := ⟨_, rfl⟩
      obtain ⟨HiR, hHi⟩ : ∃ H, w21.heap.size = H := ⟨_, rfl⟩
      have OR := Lib.hid (show w21.ownsRow WY.heap.size 69 4 (.slice AR t.length cR) t.length (flatOf rowC t) from ho)
      have loR : ∀ k, (Value.slice AR t.length cR).ownBlock = some k → LoR ≤ k := fun k e => by rw [← hLo]; exact (OR.out.lt k e).1
      have hiR : ∀ k, (Value.slice AR t.length cR).ownBlock = some k → k < HiR := fun k e => by rw [← hHi]; exact (OR.out.lt k e).2
      have orR : IY + 1 ≤ LoR := by rw [← hLo]; exact hlast20
      have ohR : LoR ≤ HiR := by rw [← hLo, ← hHi]; exact hb.size
      clear ho
      replace cG0 := cellBelow hb lG cG0
      replace cG1 := cellBelow hb lG cG1
      replace lG := Nat.lt_of_lt_of_le lG hb.size
      replace cP0 := cellBelow hb lP cP0
      replace cP1 := cellBelow hb lP cP1
      replace lP := Nat.lt_of_lt_of_le lP hb.size
      replace cY0 := cellBelow hb lY cY0
      replace cY1 := cellBelow hb lY cY1
      replace lY := Nat.lt_of_lt_of_le lY hb.size
      have Zw21 := Lib.hid (ZWY.out.below hb)
      have Tw21 := Lib.hid (TWY.out.below hb)
      have Bw21 := Lib.hid (BWY.out.trans (hb.mono BWY.out.size))
      have Kw21W := Lib.hid (ownsKeep KWYW.out hb)
      clear KWYW
      have Kw21X := Lib.hid (ownsKeep KWYX.out hb)
      clear KWYX
      have hlast22 : IY + 1 ≤ w21.heap.size := Nat.le_trans hlast20 hb.size
      clear hlast20
      clear ZWY TWY BWY hb
      have hlast23 : HiR ≤ w21.heap.size := Nat.le_of_eq hHi.symm
      clear hlast22
      clear hLo hHi
      go_wp2_with fail
      refine (StoreSet_any AX AR cX cR zs now t _ (el_of_owns verC_len Kw21X.out) (owns_addrV Kw21X.out) (owns_nilcap Kw21X.out) (el_of_owns rowC_len OR.out) hl hlt HS.out HTS.out).mono ?_
      rw [HP.out]
      rintro e w24 ⟨AV, cV, rfl, ho, hb⟩
      obtain ⟨LoV, hLo⟩ : ∃ L, w21.heap.size = L := ⟨_, rfl⟩
      obtain ⟨HiV, hHi⟩ : ∃ H, w24.heap.size = H := ⟨_, rfl⟩
      have OV := Lib.hid (show w24.ownsRow w21.heap.size 90 6 (.slice AV ys.length cV) ys.length (flatOf verC ys) from ho)
      have loV : ∀ k, (Value.slice AV ys.length cV).ownBlock = some k → LoV ≤ k := fun k e => by rw [← hLo]; exact (OV.out.lt k e).1
      have hiV : ∀ k, (Value.slice AV ys.length cV).ownBlock = some k → k < HiV := fun k e => by rw [← hHi]; exact (OV.out.lt k e).2
      have orV : HiR ≤ LoV := by rw [← hLo]; exact hlast23
      have ohV : LoV ≤ HiV := by rw [← hLo, ← hHi]; exact hb.size
      clear ho
      replace cG0 := cellBelow hb lG cG0
      replace cG1 := cellBelow hb lG cG1
      replace lG := Nat.lt_of_lt_of_le lG hb.size
      replace cP0 := cellBelow hb lP cP0
      replace cP1 := cellBelow hb lP cP1
      replace lP := Nat.lt_of_lt_of_le lP hb.size
      replace cY0 := cellBelow hb lY cY0
      replace cY1 := cellBelow hb lY cY1
      replace lY := Nat.lt_of_lt_of_le lY hb.size
      have Zw24 := Lib.hid (Zw21.out.below hb)
      have Tw24 := Lib.hid (Tw21.out.below hb)
      have Bw24 := Lib.hid (Bw21.out.trans (hb.mono Bw21.out.size))
      have Kw24W := Lib.hid (ownsKeep Kw21W.out hb)
      clear Kw21W
      have Kw24X := Lib.hid (ownsKeep Kw21X.out hb)
      clear Kw21X
      have Kw24R := Lib.hid (ownsKeep OR.out hb)
      clear OR
      have hlast25 : HiR ≤ w24.heap.size := Nat.le_trans hlast23 hb.size
      clear hlast23
      clear Zw21 Tw21 Bw21 hb
      have hlast26 : HiV ≤ w24.heap.size := Nat.le_of_eq hHi.symm
      clear hlast25
      clear hLo hHi
      go_wp2_with fail
      generalize hW : w24.alloc _ = WQ
      have cQ0 : WQ.cell? ⟨w24.heap.size, 0, none⟩ = some (.int .i64 n') := by rw [← hW]; simp [go_sem]
      have cQ1 : WQ.cell? ⟨w24.heap.size, 1, none⟩ = some (.slice AV ys.length cV) := by rw [← hW]; simp [go_sem]
      have lQ : w24.heap.size < WQ.heap.size := by rw [← hW]; simp
      have hb : Below w24.heap.size w24 WQ := by rw [← hW]; exact (Below.refl _ _).alloc (Nat.le_refl _) _
      obtain ⟨IQ, hI⟩ : ∃ I, w24.heap.size = I := ⟨_, rfl⟩
      have orQ : HiV ≤ IQ := by rw [← hI]; exact hlast26
      clear hW
      replace cG0 := cellBelow hb lG cG0
      replace cG1 := cellBelow hb lG cG1
      replace lG := Nat.lt_of_lt_of_le lG hb.size
      replace cP0 := cellBelow hb lP cP0
      replace cP1 := cellBelow hb lP cP1
      replace lP := Nat.lt_of_lt_of_le lP hb.size
      replace cY0 := cellBelow hb lY cY0
      replace cY1 := cellBelow hb lY cY1
      replace lY := Nat.lt_of_lt_of_le lY hb.size
      have ZWQ := Lib.hid (Zw24.out.below hb)
      have TWQ := Lib.hid (Tw24.out.below hb)
      have BWQ := Lib.hid (Bw24.out.trans (hb.mono Bw24.out.size))
      have KWQW := Lib.hid (ownsKeep Kw24W.out hb)
      clear Kw24W
      have KWQX := Lib.hid (ownsKeep Kw24X.out hb)
      clear Kw24X
      have KWQR := Lib.hid (ownsKeep Kw24R.out hb)
      clear Kw24R
      have KWQV := Lib.hid (ownsKeep OV.out hb)
      clear OV
      have hlast27 : HiV ≤ WQ.heap.size := Nat.le_trans hlast26 hb.size
      clear hlast26
      clear Zw24 Tw24 Bw24 hb
      rw [hI] at cQ0 cQ1 lQ
      try rw [hI]
      clear hI
      have hlast28 : IQ + 1 ≤ WQ.heap.size := lQ
      clear hlast27
      go_wp2_with fail
      refine (eqStore_same _ _ _ _ ys n' _ (el_of_owns verC_len KWQV.out) (el_of_owns verC_len KWQW.out) (by unfold maxLen; omega)).mono ?_
      rintro e w29 ⟨rfl, hb⟩
      replace cG0 := cellBelow hb lG cG0
      replace cG1 := cellBelow hb lG cG1
      replace lG := Nat.lt_of_lt_of_le lG hb.size
      replace cP0 := cellBelow hb lP cP0
      replace cP1 := cellBelow hb lP cP1
      replace lP := Nat.lt_of_lt_of_le lP hb.size
      replace cY0 := cellBelow hb lY cY0
      replace cY1 := cellBelow hb lY cY1
      replace lY := Nat.lt_of_lt_of_le lY hb.size
      replace cQ0 := cellBelow hb lQ cQ0
      replace cQ1 := cellBelow hb lQ cQ1
      replace lQ := Nat.lt_of_lt_of_le lQ hb.size
      have Zw29 := Lib.hid (ZWQ.out.below hb)
      have Tw29 := Lib.hid (TWQ.out.below hb)
      have Bw29 := Lib.hid (BWQ.out.trans (hb.mono BWQ.out.size))
      have Kw29W := Lib.hid (ownsKeep KWQW.out hb)
      clear KWQW
      have Kw29X := Lib.hid (ownsKeep KWQX.out hb)
      clear KWQX
      have Kw29R := Lib.hid (ownsKeep KWQR.out hb)
      clear KWQR
      have Kw29V := Lib.hid (ownsKeep KWQV.out hb)
      clear KWQV
      have hlast30 : IQ + 1 ≤ w29.heap.size := Nat.le_trans hlast28 hb.size
      clear hlast28
      clear ZWQ TWQ BWQ hb
      have hq0 : Below w29.heap.size w29 w29 := Below.refl _ _
      have VX := Lib.hid (show VersA w29 AX zs from el_of_owns verC_len Kw29X.out)
      go_upto_region 14 with fail
      go_cut [58] (fun s1 wx => AtTStoreSet w29 s1 wx)
      case first =>
        go_region_held3 (fun w' => w'.cell? ⟨G, 0, none⟩ = some (.int .i64 now) ∧ w'.cell? ⟨G, 1, none⟩ = some (.slice A zs.length cap) ∧ w'.cell? ⟨IY, 0, none⟩ = some (.int .i64 now) ∧ w'.cell? ⟨IY, 1, none⟩ = some (.slice AX zs.length cX) ∧ w29.heap.size ≤ w'.heap.size ∧ Below w29.heap.size w29 w')
          (((try go_split_ands); refine ⟨?cc90, ?cc91, ?cc92, ?cc93, ?sz9, ?bl9⟩; (case cc90 => (repeat (first | with_reducible assumption | with_reducible refine cell_below hb (by first | omega | (simp; done) | (simp; omega)) ?_ | with_reducible refine cell_set_far (by first | omega | (simp; done) | (simp; omega)) ?_ | with_reducible exact cell_alloc_swap (by with_reducible assumption) (by first | omega | (simp; done) | (simp; omega)) | with_reducible refine cell_alloc_far ?_ | with_reducible refine cell_drew ?_))); (case cc91 => (repeat (first | with_reducible assumption | with_reducible refine cell_below hb (by first | omega | (simp; done) | (simp; omega)) ?_ | with_reducible refine cell_set_far (by first | omega | (simp; done) | (simp; omega)) ?_ | with_reducible exact cell_alloc_swap (by with_reducible assumption) (by first | omega | (simp; done) | (simp; omega)) | with_reducible refine cell_alloc_far ?_ | with_reducible refine cell_drew ?_))); (case cc92 => (repeat (first | with_reducible assumption | with_reducible refine cell_below hb (by first | omega | (simp; done) | (simp; omega)) ?_ | with_reducible refine cell_set_far (by first | omega | (simp; done) | (simp; omega)) ?_ | with_reducible exact cell_alloc_swap (by with_reducible assumption) (by first | omega | (simp; done) | (simp; omega)) | with_reducible refine cell_alloc_far ?_ | with_reducible refine cell_drew ?_))); (case cc93 => (repeat (first | with_reducible assumption | with_reducible refine cell_below hb (by first | omega | (simp; done) | (simp; omega)) ?_ | with_reducible refine cell_set_far (by first | omega | (simp; done) | (simp; omega)) ?_ | with_reducible exact cell_alloc_swap (by with_reducible assumption) (by first | omega | (simp; done) | (simp; omega)) | with_reducible refine cell_alloc_far ?_ | with_reducible refine cell_drew ?_))); (case sz9 => (first | with_reducible assumption | (have := hb.size; omega) | omega | (simp; done) | (simp; omega) | (have := hb.size; simp at this ⊢; omega))); (case bl9 => (repeat (first | with_reducible assumption | with_reducible exact hq0 | with_reducible refine Below.drew ?_ | with_reducible refine Below.trans ?_ (hb.mono (by first | omega | (simp; done) | (simp; omega))) | with_reducible refine Below.setCell ?_ (by first | omega | (simp; done) | (simp; omega)) _ | with_reducible exact below_alloc_swap (by with_reducible assumption) (by first | omega | (simp; done) | (simp; omega)) | with_reducible refine Below.alloc ?_ (by first | omega | (simp; done) | (simp; omega)) _)))))
          (first
            | (go_at_call 10; (try go_split_ands); refine (toStore_any A cap zs now _ (Zw29.out.below (by (repeat (first | with_reducible assumption | with_reducible exact hq0 | with_reducible refine Below.drew ?_ | with_reducible refine Below.trans ?_ (hb.mono (by first | omega | (simp; done) | (simp; omega))) | with_reducible refine Below.setCell ?_ (by first | omega | (simp; done) | (simp; omega)) _ | with_reducible exact below_alloc_swap (by with_reducible assumption) (by first | omega | (simp; done) | (simp; omega)) | with_reducible refine Below.alloc ?_ (by first | omega | (simp; done) | (simp; omega)) _)))) (by omega)).mono ?_; rintro e wA ⟨AA, cA, rfl, ho, hb⟩; have VA := Lib.hid (show VersA wA AA zs from el_of_owns verC_len ho); clear ho; have hsz : w29.heap.size ≤ wA.heap.size := (by have := hb.size; first | omega | (simp at this; omega)); obtain ⟨hc, hf, hlb⟩ := bcell3 hb)
            | (go_at_call 13; (try go_split_ands); refine (eqStore_same AX AA cX cA zs now _ (VX.out.below (by (repeat (first | with_reducible assumption | with_reducible exact hq0 | with_reducible refine Below.drew ?_ | with_reducible refine Below.trans ?_ (hb.mono (by first | omega | (simp; done) | (simp; omega))) | with_reducible refine Below.setCell ?_ (by first | omega | (simp; done) | (simp; omega)) _ | with_reducible exact below_alloc_swap (by with_reducible assumption) (by first | omega | (simp; done) | (simp; omega)) | with_reducible refine Below.alloc ?_ (by first | omega | (simp; done) | (simp; omega)) _)))) VA.out hm).mono ?_; rintro e wB ⟨rfl, hb⟩; have hsz : w29.heap.size ≤ wB.heap.size := (by have := hb.size; first | omega | (simp at this; omega)); obtain ⟨hc, hf, hlb⟩ := bcell3 hb))
        all_goals (go_wp2_with fail; go_meet; unfold AtTStoreSet; rename_i hH; exact ⟨rfl, hH.2.2.2.2.2⟩)
      case rest =>
        obtain ⟨rfl, hb⟩ := hcut
        clear VX hq0
        replace cG0 := cellBelow hb lG cG0
        replace cG1 := cellBelow hb lG cG1
        replace lG := Nat.lt_of_lt_of_le lG hb.size
        replace cP0 := cellBelow hb lP cP0
        replace cP1 := cellBelow hb lP cP1
        replace lP := Nat.lt_of_lt_of_le lP hb.size
        replace cY0 := cellBelow hb lY cY0
        replace cY1 := cellBelow hb lY cY1
        replace lY := Nat.lt_of_lt_of_le lY hb.size
        replace cQ0 := cellBelow hb lQ cQ0
        replace cQ1 := cellBelow hb lQ cQ1
        replace lQ := Nat.lt_of_lt_of_le lQ hb.size
        have Zwc := Lib.hid (Zw29.out.below hb)
        have Twc := Lib.hid (Tw29.out.below hb)
        have Bwc := Lib.hid (Bw29.out.trans (hb.mono Bw29.out.size))
        have KwcW := Lib.hid (ownsKeep Kw29W.out hb)
        clear Kw29W
        have KwcX := Lib.hid (ownsKeep Kw29X.out hb)
        clear Kw29X
        have KwcR := Lib.hid (ownsKeep Kw29R.out hb)
        clear Kw29R
        have KwcV := Lib.hid (ownsKeep Kw29V.out hb)
        clear Kw29V
        have hlast31 : IQ + 1 ≤ wc.heap.size := Nat.le_trans hlast30 hb.size
        clear hlast30
        clear Zw29 Tw29 Bw29 hb
        go_wp2_with fail
        refine (toRowS_any _ _ _ _ Twc.out (by omega)).mono ?_
        rintro e w32 ⟨AD, cD, rfl, ho, hb⟩
        obtain ⟨LoD, hLo⟩ : ∃ L, wc.heap.size = L := ⟨_, rfl⟩
        obtain ⟨HiD, hHi⟩ : ∃ H, w32.heap.size = H := ⟨_, rfl⟩
        have OD := Lib.hid (show w32.ownsRow wc.heap.size 69 4 (.slice AD t.length cD) t.length (flatOf rowC t) from ho)
        have loD : ∀ k, (Value.slice AD t.length cD).ownBlock = some k → LoD ≤ k := fun k e => by rw [← hLo]; exact (OD.out.lt k e).1
        have hiD : ∀ k, (Value.slice AD t.length cD).ownBlock = some k → k < HiD := fun k e => by rw [← hHi]; exact (OD.out.lt k e).2
        have orD : IQ + 1 ≤ LoD := by rw [← hLo]; exact hlast31
        have ohD : LoD ≤ HiD := by rw [← hLo, ← hHi]; exact hb.size
        clear ho
        replace cG0 := cellBelow hb lG cG0
        replace cG1 := cellBelow hb lG cG1
        replace lG := Nat.lt_of_lt_of_le lG hb.size
        replace cP0 := cellBelow hb lP cP0
        replace cP1 := cellBelow hb lP cP1
        replace lP := Nat.lt_of_lt_of_le lP hb.size
        replace cY0 := cellBelow hb lY cY0
        replace cY1 := cellBelow hb lY cY1
        replace lY := Nat.lt_of_lt_of_le lY hb.size
        replace cQ0 := cellBelow hb lQ cQ0
        replace cQ1 := cellBelow hb lQ cQ1
        replace lQ := Nat.lt_of_lt_of_le lQ hb.size
        have Zw32 := Lib.hid (Zwc.out.below hb)
        have Tw32 := Lib.hid (Twc.out.below hb)
        have Bw32 := Lib.hid (Bwc.out.trans (hb.mono Bwc.out.size))
        have Kw32W := Lib.hid (ownsKeep KwcW.out hb)
        clear KwcW
        have Kw32X := Lib.hid (ownsKeep KwcX.out hb)
        clear KwcX
        have Kw32R := Lib.hid (ownsKeep KwcR.out hb)
        clear KwcR
        have Kw32V := Lib.hid (ownsKeep KwcV.out hb)
        clear KwcV
        have hlast33 : IQ + 1 ≤ w32.heap.size := Nat.le_trans hlast31 hb.size
        clear hlast31
        clear Zwc Twc Bwc hb
        have hlast34 : HiD ≤ w32.heap.size := Nat.le_of_eq hHi.symm
        clear hlast33
        clear hLo hHi
        go_wp2_with fail
        refine (eqRowS_same _ _ _ _ _ _ (el_of_owns rowC_len Kw32R.out) (el_of_owns rowC_len OD.out) hmt).mono ?_
        rintro e w35 ⟨rfl, hb⟩
        replace cG0 := cellBelow hb lG cG0
        replace cG1 := cellBelow hb lG cG1
        replace lG := Nat.lt_of_lt_of_le lG hb.size
        replace cP0 := cellBelow hb lP cP0
        replace cP1 := cellBelow hb lP cP1
        replace lP := Nat.lt_of_lt_of_le lP hb.size
        replace cY0 := cellBelow hb lY cY0
        replace cY1 := cellBelow hb lY cY1
        replace lY := Nat.lt_of_lt_of_le lY hb.size
        replace cQ0 := cellBelow hb lQ cQ0
        replace cQ1 := cellBelow hb lQ cQ1
        replace lQ := Nat.lt_of_lt_of_le lQ hb.size
        have Zw35 := Lib.hid (Zw32.out.below hb)
        have Tw35 := Lib.hid (Tw32.out.below hb)
        have Bw35 := Lib.hid (Bw32.out.trans (hb.mono Bw32.out.size))
        have Kw35W := Lib.hid (ownsKeep Kw32W.out hb)
        clear Kw32W
        have Kw35X := Lib.hid (ownsKeep Kw32X.out hb)
        clear Kw32X
        have Kw35R := Lib.hid (ownsKeep Kw32R.out hb)
        clear Kw32R
        have Kw35V := Lib.hid (ownsKeep Kw32V.out hb)
        clear Kw32V
        have Kw35D := Lib.hid (ownsKeep OD.out hb)
        clear OD
        have hlast36 : HiD ≤ w35.heap.size := Nat.le_trans hlast34 hb.size
        clear hlast34
        clear Zw32 Tw32 Bw32 hb
        clear Kw35D loD hiD
        go_wp2_with fail
        refine (markStore_any _ AX cX now zs 1 _ Kw35X.out (by omega) (by omega) (by omega)).mono ?_
        rintro e w37 ⟨rfl, hmk, hg⟩
        replace cG0 : w37.cell? ⟨G, 0, none⟩ = some (.int .i64 now) := (World.cell?_of_block (a := ⟨G, 0, none⟩) (hg.block G lG (fun e => by have := loX _ e.symm; have := hiX _ e.symm; omega))).trans cG0
        replace cG1 : w37.cell? ⟨G, 1, none⟩ = some (.slice A zs.length cap) := (World.cell?_of_block (a := ⟨G, 1, none⟩) (hg.block G lG (fun e => by have := loX _ e.symm; have := hiX _ e.symm; omega))).trans cG1
        replace lG := Nat.lt_of_lt_of_le lG hg.size
        replace cP0 : w37.cell? ⟨IP, 0, none⟩ = some (.int .i64 n') := (World.cell?_of_block (a := ⟨IP, 0, none⟩) (hg.block IP lP (fun e => by have := loX _ e.symm; have := hiX _ e.symm; omega))).trans cP0
        replace cP1 : w37.cell? ⟨IP, 1, none⟩ = some (.slice AW ys.length cW) := (World.cell?_of_block (a := ⟨IP, 1, none⟩) (hg.block IP lP (fun e => by have := loX _ e.symm; have := hiX _ e.symm; omega))).trans cP1
        replace lP := Nat.lt_of_lt_of_le lP hg.size
        replace cY0 : w37.cell? ⟨IY, 0, none⟩ = some (.int .i64 now) := (World.cell?_of_block (a := ⟨IY, 0, none⟩) (hg.block IY lY (fun e => by have := loX _ e.symm; have := hiX _ e.symm; omega))).trans cY0
        replace cY1 : w37.cell? ⟨IY, 1, none⟩ = some (.slice AX zs.length cX) := (World.cell?_of_block (a := ⟨IY, 1, none⟩) (hg.block IY lY (fun e => by have := loX _ e.symm; have := hiX _ e.symm; omega))).trans cY1
        replace lY := Nat.lt_of_lt_of_le lY hg.size
        replace cQ0 : w37.cell? ⟨IQ, 0, none⟩ = some (.int .i64 n') := (World.cell?_of_block (a := ⟨IQ, 0, none⟩) (hg.block IQ lQ (fun e => by have := loX _ e.symm; have := hiX _ e.symm; omega))).trans cQ0
        replace cQ1 : w37.cell? ⟨IQ, 1, none⟩ = some (.slice AV ys.length cV) := (World.cell?_of_block (a := ⟨IQ, 1, none⟩) (hg.block IQ lQ (fun e => by have := loX _ e.symm; have := hiX _ e.symm; omega))).trans cQ1
        replace lQ := Nat.lt_of_lt_of_le lQ hg.size
        have Bw37 := Lib.hid (Bw35.out.grown hg Bw35.out.size (fun k e => by have := loX k e; omega))
        have Zw37 := Lib.hid (HZW.out.below Bw37.out)
        have Tw37 := Lib.hid (HTW.out.below Bw37.out)
        have Kw37W := Lib.hid (Kw35W.out.kept hg (apartI loW hiW loX hiX (by omega)))
        clear Kw35W
        have Kw37R := Lib.hid (Kw35R.out.kept hg (apartI loR hiR loX hiX (by omega)))
        clear Kw35R
        have Kw37V := Lib.hid (Kw35V.out.kept hg (apartI loV hiV loX hiX (by omega)))
        clear Kw35V
        have hlast38 : HiD ≤ w37.heap.size := Nat.le_trans hlast36 hg.size
        clear hlast36
        clear Kw35X loX hiX
        clear hmk hg Bw35 Zw35 Tw35
        go_wp2_with fail
        refine (markRowS_any _ _ t (1 + 6 * (zs.length : Int)) _ Kw37R.out (by omega) (by omega) (by omega)).mono ?_
        rintro e w39 ⟨rfl, hmk, hg⟩
        replace cG0 : w39.cell? ⟨G, 0, none⟩ = some (.int .i64 now) := (World.cell?_of_block (a := ⟨G, 0, none⟩) (hg.block G lG (fun e => by have := loR _ e.symm; have := hiR _ e.symm; omega))).trans cG0
        replace cG1 : w39.cell? ⟨G, 1, none⟩ = some (.slice A zs.length cap) := (World.cell?_of_block (a := ⟨G, 1, none⟩) (hg.block G lG (fun e => by have := loR _ e.symm; have := hiR _ e.symm; omega))).trans cG1
        replace lG := Nat.lt_of_lt_of_le lG hg.size
        replace cP0 : w39.cell? ⟨IP, 0, none⟩ = some (.int .i64 n') := (World.cell?_of_block (a := ⟨IP, 0, none⟩) (hg.block IP lP (fun e => by have := loR _ e.symm; have := hiR _ e.symm; omega))).trans cP0
        replace cP1 : w39.cell? ⟨IP, 1, none⟩ = some (.slice AW ys.length cW) := (World.cell?_of_block (a := ⟨IP, 1, none⟩) (hg.block IP lP (fun e => by have := loR _ e.symm; have := hiR _ e.symm; omega))).trans cP1
        replace lP := Nat.lt_of_lt_of_le lP hg.size
        replace cY0 : w39.cell? ⟨IY, 0, none⟩ = some (.int .i64 now) := (World.cell?_of_block (a := ⟨IY, 0, none⟩) (hg.block IY lY (fun e => by have := loR _ e.symm; have := hiR _ e.symm; omega))).trans cY0
        replace cY1 : w39.cell? ⟨IY, 1, none⟩ = some (.slice AX zs.length cX) := (World.cell?_of_block (a := ⟨IY, 1, none⟩) (hg.block IY lY (fun e => by have := loR _ e.symm; have := hiR _ e.symm; omega))).trans cY1
        replace lY := Nat.lt_of_lt_of_le lY hg.size
        replace cQ0 : w39.cell? ⟨IQ, 0, none⟩ = some (.int .i64 n') := (World.cell?_of_block (a := ⟨IQ, 0, none⟩) (hg.block IQ lQ (fun e => by have := loR _ e.symm; have := hiR _ e.symm; omega))).trans cQ0
        replace cQ1 : w39.cell? ⟨IQ, 1, none⟩ = some (.slice AV ys.length cV) := (World.cell?_of_block (a := ⟨IQ, 1, none⟩) (hg.block IQ lQ (fun e => by have := loR _ e.symm; have := hiR _ e.symm; omega))).trans cQ1
        replace lQ := Nat.lt_of_lt_of_le lQ hg.size
        have Bw39 := Lib.hid (Bw37.out.grown hg Bw37.out.size (fun k e => by have := loR k e; omega))
        have Zw39 := Lib.hid (HZW.out.below Bw39.out)
        have Tw39 := Lib.hid (HTW.out.below Bw39.out)
        have Kw39W := Lib.hid (Kw37W.out.kept hg (apartI loW hiW loR hiR (by omega)))
        clear Kw37W
        have Kw39V := Lib.hid (Kw37V.out.kept hg (apartI loV hiV loR hiR (by omega)))
        clear Kw37V
        have hlast40 : HiD ≤ w39.heap.size := Nat.le_trans hlast38 hg.size
        clear hlast38
        clear Kw37R loR hiR
        clear hmk hg Bw37 Zw37 Tw37
        have hk : decide ((1 : Int) + 6 * (zs.length : Int) + 4 * (t.length : Int) < 0) = false := decide_eq_false (by omega)
        go_wp2_with fail
        refine (eqStore_same _ _ _ _ ys n' _ (el_of_owns verC_len Kw39V.out) (el_of_owns verC_len Kw39W.out) (by unfold maxLen; omega)).mono ?_
        rintro e w41 ⟨rfl, hb⟩
        replace cG0 := cellBelow hb lG cG0
        replace cG1 := cellBelow hb lG cG1
        replace lG := Nat.lt_of_lt_of_le lG hb.size
        replace cP0 := cellBelow hb lP cP0
        replace cP1 := cellBelow hb lP cP1
        replace lP := Nat.lt_of_lt_of_le lP hb.size
        replace cY0 := cellBelow hb lY cY0
        replace cY1 := cellBelow hb lY cY1
        replace lY := Nat.lt_of_lt_of_le lY hb.size
        replace cQ0 := cellBelow hb lQ cQ0
        replace cQ1 := cellBelow hb lQ cQ1
        replace lQ := Nat.lt_of_lt_of_le lQ hb.size
        have Zw41 := Lib.hid (Zw39.out.below hb)
        have Tw41 := Lib.hid (Tw39.out.below hb)
        have Bw41 := Lib.hid (Bw39.out.trans (hb.mono Bw39.out.size))
        have Kw41W := Lib.hid (ownsKeep Kw39W.out hb)
        clear Kw39W
        have Kw41V := Lib.hid (ownsKeep Kw39V.out hb)
        clear Kw39V
        have hlast42 : HiD ≤ w41.heap.size := Nat.le_trans hlast40 hb.size
        clear hlast40
        clear Zw39 Tw39 Bw39 hb
        go_wp2_with fail
        refine (markStore_any _ AV cV n' ys 1 _ Kw41V.out (by omega) (by omega) (by omega)).mono ?_
        rintro e w43 ⟨rfl, hmk, hg⟩
        replace cG0 : w43.cell? ⟨G, 0, none⟩ = some (.int .i64 now) := (World.cell?_of_block (a := ⟨G, 0, none⟩) (hg.block G lG (fun e => by have := loV _ e.symm; have := hiV _ e.symm; omega))).trans cG0
        replace cG1 : w43.cell? ⟨G, 1, none⟩ = some (.slice A zs.length cap) := (World.cell?_of_block (a := ⟨G, 1, none⟩) (hg.block G lG (fun e => by have := loV _ e.symm; have := hiV _ e.symm; omega))).trans cG1
        replace lG := Nat.lt_of_lt_of_le lG hg.size
        replace cP0 : w43.cell? ⟨IP, 0, none⟩ = some (.int .i64 n') := (World.cell?_of_block (a := ⟨IP, 0, none⟩) (hg.block IP lP (fun e => by have := loV _ e.symm; have := hiV _ e.symm; omega))).trans cP0
        replace cP1 : w43.cell? ⟨IP, 1, none⟩ = some (.slice AW ys.length cW) := (World.cell?_of_block (a := ⟨IP, 1, none⟩) (hg.block IP lP (fun e => by have := loV _ e.symm; have := hiV _ e.symm; omega))).trans cP1
        replace lP := Nat.lt_of_lt_of_le lP hg.size
        replace cY0 : w43.cell? ⟨IY, 0, none⟩ = some (.int .i64 now) := (World.cell?_of_block (a := ⟨IY, 0, none⟩) (hg.block IY lY (fun e => by have := loV _ e.symm; have := hiV _ e.symm; omega))).trans cY0
        replace cY1 : w43.cell? ⟨IY, 1, none⟩ = some (.slice AX zs.length cX) := (World.cell?_of_block (a := ⟨IY, 1, none⟩) (hg.block IY lY (fun e => by have := loV _ e.symm; have := hiV _ e.symm; omega))).trans cY1
        replace lY := Nat.lt_of_lt_of_le lY hg.size
        replace cQ0 : w43.cell? ⟨IQ, 0, none⟩ = some (.int .i64 n') := (World.cell?_of_block (a := ⟨IQ, 0, none⟩) (hg.block IQ lQ (fun e => by have := loV _ e.symm; have := hiV _ e.symm; omega))).trans cQ0
        replace cQ1 : w43.cell? ⟨IQ, 1, none⟩ = some (.slice AV ys.length cV) := (World.cell?_of_block (a := ⟨IQ, 1, none⟩) (hg.block IQ lQ (fun e => by have := loV _ e.symm; have := hiV _ e.symm; omega))).trans cQ1
        replace lQ := Nat.lt_of_lt_of_le lQ hg.size
        have Bw43 := Lib.hid (Bw41.out.grown hg Bw41.out.size (fun k e => by have := loV k e; omega))
        have Zw43 := Lib.hid (HZW.out.below Bw43.out)
        have Tw43 := Lib.hid (HTW.out.below Bw43.out)
        have Kw43W := Lib.hid (Kw41W.out.kept hg (apartI loW hiW loV hiV (by omega)))
        clear Kw41W
        have hlast44 : HiD ≤ w43.heap.size := Nat.le_trans hlast42 hg.size
        clear hlast42
        have MV := Lib.hid (show w43.ownsRow _ 90 6 (.slice AV (markE verMk 6 1 ys.length).length cV) (markE verMk 6 1 ys.length).length (flatOf verC (markE verMk 6 1 ys.length)) from by rw [markE_length]; exact hmk)
        clear Kw41V
        clear hmk hg Bw41 Zw41 Tw41
        have hq : decide ((1 : Int) + 6 * (ys.length : Int) < 0) = false := decide_eq_false (by omega)
        go_wp2_with fail
        refine (heldStore_any _ ys.length _ n' 1 _ (el_of_owns verC_len MV.out) (by omega) (by omega) (by omega)).mono ?_
        rintro e w45 ⟨rfl, hb⟩
        replace cG0 := cellBelow hb lG cG0
        replace cG1 := cellBelow hb lG cG1
        replace lG := Nat.lt_of_lt_of_le lG hb.size
        replace cP0 := cellBelow hb lP cP0
        replace cP1 := cellBelow hb lP cP1
        replace lP := Nat.lt_of_lt_of_le lP hb.size
        replace cY0 := cellBelow hb lY cY0
        replace cY1 := cellBelow hb lY cY1
        replace lY := Nat.lt_of_lt_of_le lY hb.size
        replace cQ0 := cellBelow hb lQ cQ0
        replace cQ1 := cellBelow hb lQ cQ1
        replace lQ := Nat.lt_of_lt_of_le lQ hb.size
        have Zw45 := Lib.hid (Zw43.out.below hb)
        have Tw45 := Lib.hid (Tw43.out.below hb)
        have Bw45 := Lib.hid (Bw43.out.trans (hb.mono Bw43.out.size))
        have Kw45W := Lib.hid (ownsKeep Kw43W.out hb)
        clear Kw43W
        have Kw45V := Lib.hid (ownsKeep MV.out hb)
        clear MV
        have hlast46 : HiD ≤ w45.heap.size := Nat.le_trans hlast44 hb.size
        clear hlast44
        clear Zw43 Tw43 Bw43 hb
        go_wp2_with fail
        refine (toStore_any A cap zs now _ Zw45.out (by omega)).mono ?_
        rintro e w47 ⟨AE, cE, rfl, ho, hb⟩
        obtain ⟨LoE, hLo⟩ : ∃ L, w45.heap.size = L := ⟨_, rfl⟩
        obtain ⟨HiE, hHi⟩ : ∃ H, w47.heap.size = H := ⟨_, rfl⟩
        have OE := Lib.hid (show w47.ownsRow w45.heap.size 90 6 (.slice AE zs.length cE) zs.length (flatOf verC zs) from ho)
        have loE : ∀ k, (Value.slice AE zs.length cE).ownBlock = some k → LoE ≤ k := fun k e => by rw [← hLo]; exact (OE.out.lt k e).1
        have hiE : ∀ k, (Value.slice AE zs.length cE).ownBlock = some k → k < HiE := fun k e => by rw [← hHi]; exact (OE.out.lt k e).2
        have orE : HiD ≤ LoE := by rw [← hLo]; exact hlast46
        have ohE : LoE ≤ HiE := by rw [← hLo, ← hHi]; exact hb.size
        clear ho
        replace cG0 := cellBelow hb lG cG0
        replace cG1 := cellBelow hb lG cG1
        replace lG := Nat.lt_of_lt_of_le lG hb.size
        replace cP0 := cellBelow hb lP cP0
        replace cP1 := cellBelow hb lP cP1
        replace lP := Nat.lt_of_lt_of_le lP hb.size
        replace cY0 := cellBelow hb lY cY0
        replace cY1 := cellBelow hb lY cY1
        replace lY := Nat.lt_of_lt_of_le lY hb.size
        replace cQ0 := cellBelow hb lQ cQ0
        replace cQ1 := cellBelow hb lQ cQ1
        replace lQ := Nat.lt_of_lt_of_le lQ hb.size
        have Zw47 := Lib.hid (Zw45.out.below hb)
        have Tw47 := Lib.hid (Tw45.out.below hb)
        have Bw47 := Lib.hid (Bw45.out.trans (hb.mono Bw45.out.size))
        have Kw47W := Lib.hid (ownsKeep Kw45W.out hb)
        clear Kw45W
        have Kw47V := Lib.hid (ownsKeep Kw45V.out hb)
        clear Kw45V
        have hlast48 : HiD ≤ w47.heap.size := Nat.le_trans hlast46 hb.size
        clear hlast46
        clear Zw45 Tw45 Bw45 hb
        have hlast49 : HiE ≤ w47.heap.size := Nat.le_of_eq hHi.symm
        clear hlast48
        clear hLo hHi
        go_wp2_with fail
        refine (toRowS_any _ _ _ _ Tw47.out (by omega)).mono ?_
        rintro e w50 ⟨AF, cF, rfl, ho, hb⟩
        obtain ⟨LoF, hLo⟩ : ∃ L, w47.heap.size = L := ⟨_, rfl⟩
        obtain ⟨HiF, hHi⟩ : ∃ H, w50.heap.size = H := ⟨_, rfl⟩
        have OF := Lib.hid (show w50.ownsRow w47.heap.size 69 4 (.slice AF t.length cF) t.length (flatOf rowC t) from ho)
        have loF : ∀ k, (Value.slice AF t.length cF).ownBlock = some k → LoF ≤ k := fun k e => by rw [← hLo]; exact (OF.out.lt k e).1
        have hiF : ∀ k, (Value.slice AF t.length cF).ownBlock = some k → k < HiF := fun k e => by rw [← hHi]; exact (OF.out.lt k e).2
        have orF : HiE ≤ LoF := by rw [← hLo]; exact hlast49
        have ohF : LoF ≤ HiF := by rw [← hLo, ← hHi]; exact hb.size
        clear ho
        replace cG0 := cellBelow hb lG cG0
        replace cG1 := cellBelow hb lG cG1
        replace lG := Nat.lt_of_lt_of_le lG hb.size
        replace cP0 := cellBelow hb lP cP0
        replace cP1 := cellBelow hb lP cP1
        replace lP := Nat.lt_of_lt_of_le lP hb.size
        replace cY0 := cellBelow hb lY cY0
        replace cY1 := cellBelow hb lY cY1
        replace lY := Nat.lt_of_lt_of_le lY hb.size
        replace cQ0 := cellBelow hb lQ cQ0
        replace cQ1 := cellBelow hb lQ cQ1
        replace lQ := Nat.lt_of_lt_of_le lQ hb.size
        have Zw50 := Lib.hid (Zw47.out.below hb)
        have Tw50 := Lib.hid (Tw47.out.below hb)
        have Bw50 := Lib.hid (Bw47.out.trans (hb.mono Bw47.out.size))
        have Kw50W := Lib.hid (ownsKeep Kw47W.out hb)
        clear Kw47W
        have Kw50V := Lib.hid (ownsKeep Kw47V.out hb)
        clear Kw47V
        have Kw50E := Lib.hid (ownsKeep OE.out hb)
        clear OE
        have hlast51 : HiE ≤ w50.heap.size := Nat.le_trans hlast49 hb.size
        clear hlast49
        clear Zw47 Tw47 Bw47 hb
        have hlast52 : HiF ≤ w50.heap.size := Nat.le_of_eq hHi.symm
        clear hlast51
        clear hLo hHi
        go_wp2_with fail
        refine (StoreSet_any AE AF cE cF zs now t _ (el_of_owns verC_len Kw50E.out) (owns_addrV Kw50E.out) (owns_nilcap Kw50E.out) (el_of_owns rowC_len OF.out) hl hlt HS.out HTS.out).mono ?_
        rw [HP.out]
        rintro e w53 ⟨AH, cH, rfl, ho, hb⟩
        obtain ⟨LoH, hLo⟩ : ∃ L, w50.heap.size = L := ⟨_, rfl⟩
        obtain ⟨HiH, hHi⟩ : ∃ H, w53.heap.size = H := ⟨_, rfl⟩
        have OH := Lib.hid (show w53.ownsRow w50.heap.size 90 6 (.slice AH ys.length cH) ys.length (flatOf verC ys) from ho)
        have loH : ∀ k, (Value.slice AH ys.length cH).ownBlock = some k → LoH ≤ k := fun k e => by rw [← hLo]; exact (OH.out.lt k e).1
        have hiH : ∀ k, (Value.slice AH ys.length cH).ownBlock = some k → k < HiH := fun k e => by rw [← hHi]; exact (OH.out.lt k e).2
        have orH : HiF ≤ LoH := by rw [← hLo]; exact hlast52
        have ohH : LoH ≤ HiH := by rw [← hLo, ← hHi]; exact hb.size
        clear ho
        replace cG0 := cellBelow hb lG cG0
        replace cG1 := cellBelow hb lG cG1
        replace lG := Nat.lt_of_lt_of_le lG hb.size
        replace cP0 := cellBelow hb lP cP0
        replace cP1 := cellBelow hb lP cP1
        replace lP := Nat.lt_of_lt_of_le lP hb.size
        replace cY0 := cellBelow hb lY cY0
        replace cY1 := cellBelow hb lY cY1
        replace lY := Nat.lt_of_lt_of_le lY hb.size
        replace cQ0 := cellBelow hb lQ cQ0
        replace cQ1 := cellBelow hb lQ cQ1
        replace lQ := Nat.lt_of_lt_of_le lQ hb.size
        have Zw53 := Lib.hid (Zw50.out.below hb)
        have Tw53 := Lib.hid (Tw50.out.below hb)
        have Bw53 := Lib.hid (Bw50.out.trans (hb.mono Bw50.out.size))
        have Kw53W := Lib.hid (ownsKeep Kw50W.out hb)
        clear Kw50W
        have Kw53V := Lib.hid (ownsKeep Kw50V.out hb)
        clear Kw50V
        have Kw53E := Lib.hid (ownsKeep Kw50E.out hb)
        clear Kw50E
        have Kw53F := Lib.hid (ownsKeep OF.out hb)
        clear OF
        have hlast54 : HiF ≤ w53.heap.size := Nat.le_trans hlast52 hb.size
        clear hlast52
        clear Zw50 Tw50 Bw50 hb
        have hlast55 : HiH ≤ w53.heap.size := Nat.le_of_eq hHi.symm
        clear hlast54
        clear hLo hHi
        clear Kw53E loE hiE
        clear Kw53F loF hiF
        go_wp2_with fail
        generalize hW : w53.alloc _ = WJ
        have cJ0 : WJ.cell? ⟨w53.heap.size, 0, none⟩ = some (.int .i64 n') := by rw [← hW]; simp [go_sem]
        have cJ1 : WJ.cell? ⟨w53.heap.size, 1, none⟩ = some (.slice AH ys.length cH) := by rw [← hW]; simp [go_sem]
        have lJ : w53.heap.size < WJ.heap.size := by rw [← hW]; simp
        have hb : Below w53.heap.size w53 WJ := by rw [← hW]; exact (Below.refl _ _).alloc (Nat.le_refl _) _
        obtain ⟨IJ, hI⟩ : ∃ I, w53.heap.size = I := ⟨_, rfl⟩
        have orJ : HiH ≤ IJ := by rw [← hI]; exact hlast55
        clear hW
        replace cG0 := cellBelow hb lG cG0
        replace cG1 := cellBelow hb lG cG1
        replace lG := Nat.lt_of_lt_of_le lG hb.size
        replace cP0 := cellBelow hb lP cP0
        replace cP1 := cellBelow hb lP cP1
        replace lP := Nat.lt_of_lt_of_le lP hb.size
        replace cY0 := cellBelow hb lY cY0
        replace cY1 := cellBelow hb lY cY1
        replace lY := Nat.lt_of_lt_of_le lY hb.size
        replace cQ0 := cellBelow hb lQ cQ0
        replace cQ1 := cellBelow hb lQ cQ1
        replace lQ := Nat.lt_of_lt_of_le lQ hb.size
        have ZWJ := Lib.hid (Zw53.out.below hb)
        have TWJ := Lib.hid (Tw53.out.below hb)
        have BWJ := Lib.hid (Bw53.out.trans (hb.mono Bw53.out.size))
        have KWJW := Lib.hid (ownsKeep Kw53W.out hb)
        clear Kw53W
        have KWJV := Lib.hid (ownsKeep Kw53V.out hb)
        clear Kw53V
        have KWJH := Lib.hid (ownsKeep OH.out hb)
        clear OH
        have hlast56 : HiH ≤ WJ.heap.size := Nat.le_trans hlast55 hb.size
        clear hlast55
        clear Zw53 Tw53 Bw53 hb
        rw [hI] at cJ0 cJ1 lJ
        try rw [hI]
        clear hI
        have hlast57 : IJ + 1 ≤ WJ.heap.size := lJ
        clear hlast56
        go_wp2_with fail
        refine (eqStore_same _ _ _ _ ys n' _ (el_of_owns verC_len KWJH.out) (el_of_owns verC_len KWJW.out) (by unfold maxLen; omega)).mono ?_
        rintro e w58 ⟨rfl, hb⟩
        replace cG0 := cellBelow hb lG cG0
        replace cG1 := cellBelow hb lG cG1
        replace lG := Nat.lt_of_lt_of_le lG hb.size
        replace cP0 := cellBelow hb lP cP0
        replace cP1 := cellBelow hb lP cP1
        replace lP := Nat.lt_of_lt_of_le lP hb.size
        replace cY0 := cellBelow hb lY cY0
        replace cY1 := cellBelow hb lY cY1
        replace lY := Nat.lt_of_lt_of_le lY hb.size
        replace cQ0 := cellBelow hb lQ cQ0
        replace cQ1 := cellBelow hb lQ cQ1
        replace lQ := Nat.lt_of_lt_of_le lQ hb.size
        replace cJ0 := cellBelow hb lJ cJ0
        replace cJ1 := cellBelow hb lJ cJ1
        replace lJ := Nat.lt_of_lt_of_le lJ hb.size
        have Zw58 := Lib.hid (ZWJ.out.below hb)
        have Tw58 := Lib.hid (TWJ.out.below hb)
        have Bw58 := Lib.hid (BWJ.out.trans (hb.mono BWJ.out.size))
        have Kw58W := Lib.hid (ownsKeep KWJW.out hb)
        clear KWJW
        have Kw58V := Lib.hid (ownsKeep KWJV.out hb)
        clear KWJV
        have Kw58H := Lib.hid (ownsKeep KWJH.out hb)
        clear KWJH
        have hlast59 : IJ + 1 ≤ w58.heap.size := Nat.le_trans hlast57 hb.size
        clear hlast57
        clear ZWJ TWJ BWJ hb
        go_wp2_with fail
        refine (heldStore_any _ ys.length _ n' 1 _ (el_of_owns verC_len Kw58V.out) (by omega) (by omega) (by omega)).mono ?_
        rintro e w60 ⟨rfl, hb⟩
        replace cG0 := cellBelow hb lG cG0
        replace cG1 := cellBelow hb lG cG1
        replace lG := Nat.lt_of_lt_of_le lG hb.size
        replace cP0 := cellBelow hb lP cP0
        replace cP1 := cellBelow hb lP cP1
        replace lP := Nat.lt_of_lt_of_le lP hb.size
        replace cY0 := cellBelow hb lY cY0
        replace cY1 := cellBelow hb lY cY1
        replace lY := Nat.lt_of_lt_of_le lY hb.size
        replace cQ0 := cellBelow hb lQ cQ0
        replace cQ1 := cellBelow hb lQ cQ1
        replace lQ := Nat.lt_of_lt_of_le lQ hb.size
        replace cJ0 := cellBelow hb lJ cJ0
        replace cJ1 := cellBelow hb lJ cJ1
        replace lJ := Nat.lt_of_lt_of_le lJ hb.size
        have Zw60 := Lib.hid (Zw58.out.below hb)
        have Tw60 := Lib.hid (Tw58.out.below hb)
        have Bw60 := Lib.hid (Bw58.out.trans (hb.mono Bw58.out.size))
        have Kw60W := Lib.hid (ownsKeep Kw58W.out hb)
        clear Kw58W
        have Kw60V := Lib.hid (ownsKeep Kw58V.out hb)
        clear Kw58V
        have Kw60H := Lib.hid (ownsKeep Kw58H.out hb)
        clear Kw58H
        have hlast61 : IJ + 1 ≤ w60.heap.size := Nat.le_trans hlast59 hb.size
        clear hlast59
        clear Zw58 Tw58 Bw58 hb
        go_wp2
        go_ret
        exact ⟨rfl, Bw60.out⟩
end Go.Proofs.Ytfolppahdmkaoab
