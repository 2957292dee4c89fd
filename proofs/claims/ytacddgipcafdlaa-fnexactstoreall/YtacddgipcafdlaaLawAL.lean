/-
  The walk of the exact law of StoreAll.
-/
import Derived.Test.YtacddgipcafdlaaVerM
import Derived.Test.YtacddgipcafdlaaRowSM
import Derived.Test.YtacddgipcafdlaaStoAs
namespace Go.Proofs.Ytacddgipcafdlaa
open Go.RowKit Go.Lib

theorem all_len : ∀ (l : List (List RowV)) (now : Int) (zs : List VerV), zs.length ≤ 120 → (allFrom now zs l).2.1.length ≤ 120
  | [], _, _, h => h
  | t :: l, now, zs, h => by
    unfold allFrom
    by_cases hg : goesB zs now t
    · rw [if_pos hg]; exact all_len l _ _ hg.2.2
    · rw [if_neg hg]; exact Nat.zero_le _
theorem owns_frame {lo hi : Nat} {w w' : World} {base n k : Nat} {v : Value} {xs : List Value} {t : TypeId} (h : w.ownsRow base t k v n xs) (hf : FrameI lo hi w w') (ho : ∀ b, v.ownBlock = some b → b < lo ∨ hi ≤ b) : w'.ownsRow base t k v n xs := by
  refine ⟨h.1, ?_⟩
  rcases h.2 with hn | ⟨g, c, cur, hv, hb, hg, rest⟩
  · exact .inl hn
  · subst hv
    exact .inr ⟨g, c, cur, rfl, hb, (hf.same g (Array.getElem?_eq_some_iff.1 hg).1 (ho g rfl)).trans hg, rest⟩
theorem apartAll {v v' : Value} {a b c d : Nat} (h1 : ∀ k, v.ownBlock = some k → a ≤ k) (h2 : ∀ k, v.ownBlock = some k → k < b) (h3 : ∀ k, v'.ownBlock = some k → c ≤ k) (h4 : ∀ k, v'.ownBlock = some k → k < d) (h : b ≤ c ∨ d ≤ a) : v.ownBlock = none ∨ v.ownBlock ≠ v'.ownBlock := by
  cases e : v.ownBlock with
  | none => exact .inl rfl
  | some k =>
    refine .inr fun e' => ?_
    have i1 := h1 k e
    have i2 := h2 k e
    have i3 := h3 k e'.symm
    have i4 := h4 k e'.symm
    omega

set_option maxRecDepth 100000 in
set_option maxHeartbeats 8000000 in
theorem FnExactStoreAll_any (A : Option Addr) (n cap : Nat) (tts : List (List RowV)) (w : World) (h : TabsA w A tts ∧ tts.length = n ∧ n ≤ maxLen ∧ ∀ t ∈ tts, t.length ≤ maxLen ∧ ∀ r ∈ t, r.k.size ≤ maxLen ∧ r.t.size ≤ maxLen) :
    Calls Try.prog 3 #[.slice A n cap] w fun e w' => e = .returned (.bool true) ∧ Below w.heap.size w w' := by
  obtain ⟨hz, rfl, hm, hs⟩ := h
  have HS := Lib.hid hs
  have HZW := Lib.hid hz
  have Z0 := Lib.hid hz
  have B0 := Lib.hid (Below.refl w.heap.size w)
  obtain ⟨G, hG⟩ : ∃ G, w.heap.size = G := ⟨_, rfl⟩
  have hGle : w.heap.size ≤ G := Nat.le_of_eq hG
  have hlast0 : G ≤ w.heap.size := Nat.le_of_eq hG.symm
  clear hs hz hG
  go_enter Try.func3, Try.ntmps3
  go_wp2_with fail
  refine (szRowSS_any A cap tts _ _ (by omega) (by omega) Z0.out hm HS.out).mono ?_
  rintro e w1 ⟨v, rfl, hv, hb⟩
  have Zw1 := Lib.hid (Z0.out.below hb)
  have Bw1 := Lib.hid (B0.out.trans (hb.mono B0.out.size))
  have hlast2 : G ≤ w1.heap.size := Nat.le_trans hlast0 hb.size
  clear hlast0
  clear Z0 B0 hb
  rcases hv with rfl | ⟨hv0, hv1⟩
  · go_wp2
    go_ret
    exact ⟨rfl, Bw1.out⟩
  · skip
    have hl : tts.length ≤ 1048576 := by omega
    have hrs : rowsSum tts ≤ 1048576 := by omega
    have hd : decide (v < 0) = false := decide_eq_false (by omega)
    have HL := Lib.hid (show ∀ t ∈ tts, t.length ≤ 1048577 from fun t ht => by
      obtain ⟨k, hk, e⟩ := List.mem_iff_getElem.1 ht
      have := rowsSum_mem (tts := tts) (k := k) (t := t) (by rw [← e]; exact List.getElem?_eq_getElem hk)
      omega)
    have hyl := all_len tts 0 [] (by simp)
    obtain ⟨pp, hpp⟩ : ∃ pp, allFrom 0 [] tts = pp := ⟨_, rfl⟩
    rw [hpp] at hyl
    obtain ⟨n', ys, ok⟩ := pp
    have HP := Lib.hid hpp
    replace hyl : ys.length ≤ 120 := hyl
    clear hpp
    go_wp2_with fail
    refine (toRowSS_any A cap tts _ Zw1.out (by omega) (fun t ht => (HL.out t ht))).mono ?_
    rintro e w3 ⟨rfl, hto, hb⟩
    obtain ⟨LoS, hLo⟩ : ∃ L, w1.heap.size = L := ⟨_, rfl⟩
    obtain ⟨HiS, hHi⟩ : ∃ H, w3.heap.size = H := ⟨_, rfl⟩
    have orS : G ≤ LoS := by rw [← hLo]; exact hlast2
    have ohS : LoS ≤ HiS := by rw [← hLo, ← hHi]; exact hb.size
    have TS := Lib.hid hto
    clear hto
    rw [hLo, hHi] at TS
    try rw [hLo]
    have Zw3 := Lib.hid (Zw1.out.below hb)
    have Bw3 := Lib.hid (Bw1.out.trans (hb.mono Bw1.out.size))
    have hlast4 : G ≤ w3.heap.size := Nat.le_trans hlast2 hb.size
    clear hlast2
    clear Zw1 Bw1 hb
    have hlast5 : HiS ≤ w3.heap.size := Nat.le_of_eq hHi.symm
    clear hlast4
    clear hLo hHi
    go_wp2_with fail
    refine (sStoreAll_any (some ⟨LoS, 0, none⟩) tts.length tts _ TS.out.tabs (by omega) (fun t ht => ⟨HL.out t ht, (HS.out t ht).2⟩)).mono ?_
    rw [HP.out]
    rintro e w6 ⟨AW, cW, rfl, ho, hb⟩
    obtain ⟨LoW, hLo⟩ : ∃ L, w3.heap.size = L := ⟨_, rfl⟩
    obtain ⟨HiW, hHi⟩ : ∃ H, w6.heap.size = H := ⟨_, rfl⟩
    have orW : HiS ≤ LoW := by rw [← hLo]; exact hlast5
    have ohW : LoW ≤ HiW := by rw [← hLo, ← hHi]; exact hb.size
    have OW := Lib.hid (show w6.ownsRow w3.heap.size 74 6 (.slice AW ys.length cW) ys.length (flatOf verC ys) from ho)
    have loW : ∀ k, (Value.slice AW ys.length cW).ownBlock = some k → LoW ≤ k := fun k e => by rw [← hLo]; exact (OW.out.lt k e).1
    have hiW : ∀ k, (Value.slice AW ys.length cW).ownBlock = some k → k < HiW := fun k e => by rw [← hHi]; exact (OW.out.lt k e).2
    clear ho
    have Zw6 := Lib.hid (Zw3.out.below hb)
    have Bw6 := Lib.hid (Bw3.out.trans (hb.mono Bw3.out.size))
    have Kw6S := Lib.hid (TS.out.keep hb)
    clear TS
    have hlast7 : HiS ≤ w6.heap.size := Nat.le_trans hlast5 hb.size
    clear hlast5
    clear Zw3 Bw3 hb
    have hlast8 : HiW ≤ w6.heap.size := Nat.le_of_eq hHi.symm
    clear hlast7
    clear hLo hHi
    clear Kw6S
    go_wp2_with fail
    generalize hW : w6.alloc _ = WP
    have cP0 : WP.cell? ⟨w6.heap.size, 0, none⟩ = some (.int .i64 n') := by rw [← hW]; simp [go_sem]
    have cP1 : WP.cell? ⟨w6.heap.size, 1, none⟩ = some (.slice AW ys.length cW) := by rw [← hW]; simp [go_sem]
    have lP : w6.heap.size < WP.heap.size := by rw [← hW]; simp
    have hb : Below w6.heap.size w6 WP := by rw [← hW]; exact (Below.refl _ _).alloc (Nat.le_refl _) _
    obtain ⟨IP, hI⟩ : ∃ I, w6.heap.size = I := ⟨_, rfl⟩
    have orP : HiW ≤ IP := by rw [← hI]; exact hlast8
    clear hW
    have ZWP := Lib.hid (Zw6.out.below hb)
    have BWP := Lib.hid (Bw6.out.trans (hb.mono Bw6.out.size))
    have KWPW := Lib.hid (ownsKeep OW.out hb)
    clear OW
    have hlast9 : HiW ≤ WP.heap.size := Nat.le_trans hlast8 hb.size
    clear hlast8
    clear Zw6 Bw6 hb
    rw [hI] at cP0 cP1 lP
    try rw [hI]
    clear hI
    have hlast10 : IP + 1 ≤ WP.heap.size := lP
    clear hlast9
    go_wp2_with fail
    refine (toRowSS_any A cap tts _ ZWP.out (by omega) (fun t ht => (HL.out t ht))).mono ?_
    rintro e w11 ⟨rfl, hto, hb⟩
    obtain ⟨LoX, hLo⟩ : ∃ L, WP.heap.size = L := ⟨_, rfl⟩
    obtain ⟨HiX, hHi⟩ : ∃ H, w11.heap.size = H := ⟨_, rfl⟩
    have orX : IP + 1 ≤ LoX := by rw [← hLo]; exact hlast10
    have ohX : LoX ≤ HiX := by rw [← hLo, ← hHi]; exact hb.size
    have TX := Lib.hid hto
    clear hto
    rw [hLo, hHi] at TX
    try rw [hLo]
    replace cP0 := cellBelow hb lP cP0
    replace cP1 := cellBelow hb lP cP1
    replace lP := Nat.lt_of_lt_of_le lP hb.size
    have Zw11 := Lib.hid (ZWP.out.below hb)
    have Bw11 := Lib.hid (BWP.out.trans (hb.mono BWP.out.size))
    have Kw11W := Lib.hid (ownsKeep KWPW.out hb)
    clear KWPW
    have hlast12 : IP + 1 ≤ w11.heap.size := Nat.le_trans hlast10 hb.size
    clear hlast10
    clear ZWP BWP hb
    have hlast13 : HiX ≤ w11.heap.size := Nat.le_of_eq hHi.symm
    clear hlast12
    clear hLo hHi
    go_wp2_with fail
    refine (StoreAll_any (some ⟨LoX, 0, none⟩) tts.length tts _ TX.out.tabs (by omega) (fun t ht => ⟨HL.out t ht, (HS.out t ht).2⟩)).mono ?_
    rw [HP.out]
    rintro e w14 ⟨AV, cV, rfl, ho, hb⟩
    obtain ⟨LoV, hLo⟩ : ∃ L, w11.heap.size = L := ⟨_, rfl⟩
    obtain ⟨HiV, hHi⟩ : ∃ H, w14.heap.size = H := ⟨_, rfl⟩
    have orV : HiX ≤ LoV := by rw [← hLo]; exact hlast13
    have ohV : LoV ≤ HiV := by rw [← hLo, ← hHi]; exact hb.size
    have OV := Lib.hid (show w14.ownsRow w11.heap.size 74 6 (.slice AV ys.length cV) ys.length (flatOf verC ys) from ho)
    have loV : ∀ k, (Value.slice AV ys.length cV).ownBlock = some k → LoV ≤ k := fun k e => by rw [← hLo]; exact (OV.out.lt k e).1
    have hiV : ∀ k, (Value.slice AV ys.length cV).ownBlock = some k → k < HiV := fun k e => by rw [← hHi]; exact (OV.out.lt k e).2
    clear ho
    replace cP0 := cellBelow hb lP cP0
    replace cP1 := cellBelow hb lP cP1
    replace lP := Nat.lt_of_lt_of_le lP hb.size
    have Zw14 := Lib.hid (Zw11.out.below hb)
    have Bw14 := Lib.hid (Bw11.out.trans (hb.mono Bw11.out.size))
    have Kw14W := Lib.hid (ownsKeep Kw11W.out hb)
    clear Kw11W
    have Kw14X := Lib.hid (TX.out.keep hb)
    clear TX
    have hlast15 : HiX ≤ w14.heap.size := Nat.le_trans hlast13 hb.size
    clear hlast13
    clear Zw11 Bw11 hb
    have hlast16 : HiV ≤ w14.heap.size := Nat.le_of_eq hHi.symm
    clear hlast15
    clear hLo hHi
    go_wp2_with fail
    generalize hW : w14.alloc _ = WQ
    have cQ0 : WQ.cell? ⟨w14.heap.size, 0, none⟩ = some (.int .i64 n') := by rw [← hW]; simp [go_sem]
    have cQ1 : WQ.cell? ⟨w14.heap.size, 1, none⟩ = some (.slice AV ys.length cV) := by rw [← hW]; simp [go_sem]
    have lQ : w14.heap.size < WQ.heap.size := by rw [← hW]; simp
    have hb : Below w14.heap.size w14 WQ := by rw [← hW]; exact (Below.refl _ _).alloc (Nat.le_refl _) _
    obtain ⟨IQ, hI⟩ : ∃ I, w14.heap.size = I := ⟨_, rfl⟩
    have orQ : HiV ≤ IQ := by rw [← hI]; exact hlast16
    clear hW
    replace cP0 := cellBelow hb lP cP0
    replace cP1 := cellBelow hb lP cP1
    replace lP := Nat.lt_of_lt_of_le lP hb.size
    have ZWQ := Lib.hid (Zw14.out.below hb)
    have BWQ := Lib.hid (Bw14.out.trans (hb.mono Bw14.out.size))
    have KWQW := Lib.hid (ownsKeep Kw14W.out hb)
    clear Kw14W
    have KWQV := Lib.hid (ownsKeep OV.out hb)
    clear OV
    have KWQX := Lib.hid (Kw14X.out.keep hb)
    clear Kw14X
    have hlast17 : HiV ≤ WQ.heap.size := Nat.le_trans hlast16 hb.size
    clear hlast16
    clear Zw14 Bw14 hb
    rw [hI] at cQ0 cQ1 lQ
    try rw [hI]
    clear hI
    have hlast18 : IQ + 1 ≤ WQ.heap.size := lQ
    clear hlast17
    go_wp2_with fail
    refine (eqStore_same _ _ _ _ ys n' _ (el_of_owns verC_len KWQV.out) (el_of_owns verC_len KWQW.out) (by unfold maxLen; omega)).mono ?_
    rintro e w19 ⟨rfl, hb⟩
    replace cP0 := cellBelow hb lP cP0
    replace cP1 := cellBelow hb lP cP1
    replace lP := Nat.lt_of_lt_of_le lP hb.size
    replace cQ0 := cellBelow hb lQ cQ0
    replace cQ1 := cellBelow hb lQ cQ1
    replace lQ := Nat.lt_of_lt_of_le lQ hb.size
    have Zw19 := Lib.hid (ZWQ.out.below hb)
    have Bw19 := Lib.hid (BWQ.out.trans (hb.mono BWQ.out.size))
    have Kw19W := Lib.hid (ownsKeep KWQW.out hb)
    clear KWQW
    have Kw19V := Lib.hid (ownsKeep KWQV.out hb)
    clear KWQV
    have Kw19X := Lib.hid (KWQX.out.keep hb)
    clear KWQX
    have hlast20 : IQ + 1 ≤ w19.heap.size := Nat.le_trans hlast18 hb.size
    clear hlast18
    clear ZWQ BWQ hb
    go_wp2_with fail
    refine (toRowSS_any A cap tts _ Zw19.out (by omega) (fun t ht => (HL.out t ht))).mono ?_
    rintro e w21 ⟨rfl, hto, hb⟩
    obtain ⟨LoY, hLo⟩ : ∃ L, w19.heap.size = L := ⟨_, rfl⟩
    obtain ⟨HiY, hHi⟩ : ∃ H, w21.heap.size = H := ⟨_, rfl⟩
    have orY : IQ + 1 ≤ LoY := by rw [← hLo]; exact hlast20
    have ohY : LoY ≤ HiY := by rw [← hLo, ← hHi]; exact hb.size
    have TY := Lib.hid hto
    clear hto
    rw [hLo, hHi] at TY
    try rw [hLo]
    replace cP0 := cellBelow hb lP cP0
    replace cP1 := cellBelow hb lP cP1
    replace lP := Nat.lt_of_lt_of_le lP hb.size
    replace cQ0 := cellBelow hb lQ cQ0
    replace cQ1 := cellBelow hb lQ cQ1
    replace lQ := Nat.lt_of_lt_of_le lQ hb.size
    have Zw21 := Lib.hid (Zw19.out.below hb)
    have Bw21 := Lib.hid (Bw19.out.trans (hb.mono Bw19.out.size))
    have Kw21W := Lib.hid (ownsKeep Kw19W.out hb)
    clear Kw19W
    have Kw21V := Lib.hid (ownsKeep Kw19V.out hb)
    clear Kw19V
    have Kw21X := Lib.hid (Kw19X.out.keep hb)
    clear Kw19X
    have hlast22 : IQ + 1 ≤ w21.heap.size := Nat.le_trans hlast20 hb.size
    clear hlast20
    clear Zw19 Bw19 hb
    have hlast23 : HiY ≤ w21.heap.size := Nat.le_of_eq hHi.symm
    clear hlast22
    clear hLo hHi
    go_wp2_with fail
    refine (eqRowSS_same _ _ _ _ tts _ Kw21X.out.tabs TY.out.tabs hm (fun t ht => (HS.out t ht).1)).mono ?_
    rintro e w24 ⟨rfl, hb⟩
    replace cP0 := cellBelow hb lP cP0
    replace cP1 := cellBelow hb lP cP1
    replace lP := Nat.lt_of_lt_of_le lP hb.size
    replace cQ0 := cellBelow hb lQ cQ0
    replace cQ1 := cellBelow hb lQ cQ1
    replace lQ := Nat.lt_of_lt_of_le lQ hb.size
    have Zw24 := Lib.hid (Zw21.out.below hb)
    have Bw24 := Lib.hid (Bw21.out.trans (hb.mono Bw21.out.size))
    have Kw24W := Lib.hid (ownsKeep Kw21W.out hb)
    clear Kw21W
    have Kw24V := Lib.hid (ownsKeep Kw21V.out hb)
    clear Kw21V
    have Kw24X := Lib.hid (Kw21X.out.keep hb)
    clear Kw21X
    have Kw24Y := Lib.hid (TY.out.keep hb)
    clear TY
    have hlast25 : HiY ≤ w24.heap.size := Nat.le_trans hlast23 hb.size
    clear hlast23
    clear Zw21 Bw21 hb
    clear Kw24Y
    go_wp2_with fail
    refine (markRowSS_any LoX HiX tts 1 _ Kw24X.out (by omega) (by omega) (by omega) (fun t ht => by have := HL.out t ht; omega)).mono ?_
    rintro e w26 ⟨rfl, hf⟩
    have hszX : LoX ≤ w24.heap.size := by have := hlast25; omega
    replace cP0 : w26.cell? ⟨IP, 0, none⟩ = some (.int .i64 n') := (World.cell?_of_block (a := ⟨IP, 0, none⟩) (hf.same IP lP (by omega))).trans cP0
    replace cP1 : w26.cell? ⟨IP, 1, none⟩ = some (.slice AW ys.length cW) := (World.cell?_of_block (a := ⟨IP, 1, none⟩) (hf.same IP lP (by omega))).trans cP1
    replace lP := Nat.lt_of_lt_of_le lP hf.size
    replace cQ0 : w26.cell? ⟨IQ, 0, none⟩ = some (.int .i64 n') := (World.cell?_of_block (a := ⟨IQ, 0, none⟩) (hf.same IQ lQ (by omega))).trans cQ0
    replace cQ1 : w26.cell? ⟨IQ, 1, none⟩ = some (.slice AV ys.length cV) := (World.cell?_of_block (a := ⟨IQ, 1, none⟩) (hf.same IQ lQ (by omega))).trans cQ1
    replace lQ := Nat.lt_of_lt_of_le lQ hf.size
    have Bw26 := Lib.hid (Bw24.out.trans ((hf.below hszX).mono (by omega)))
    have Zw26 := Lib.hid (HZW.out.below Bw26.out)
    have Kw26W := Lib.hid (owns_frame Kw24W.out hf (fun k e => by have := loW k e; have := hiW k e; omega))
    clear Kw24W
    have Kw26V := Lib.hid (owns_frame Kw24V.out hf (fun k e => by have := loV k e; have := hiV k e; omega))
    clear Kw24V
    have hlast27 : HiY ≤ w26.heap.size := Nat.le_trans hlast25 hf.size
    clear hlast25
    clear Kw24X
    clear hf Bw24 Zw24 hszX
    have hk : decide ((1 : Int) + 4 * (rowsSum tts : Int) < 0) = false := decide_eq_false (by omega)
    go_wp2_with fail
    refine (eqStore_same _ _ _ _ ys n' _ (el_of_owns verC_len Kw26V.out) (el_of_owns verC_len Kw26W.out) (by unfold maxLen; omega)).mono ?_
    rintro e w28 ⟨rfl, hb⟩
    replace cP0 := cellBelow hb lP cP0
    replace cP1 := cellBelow hb lP cP1
    replace lP := Nat.lt_of_lt_of_le lP hb.size
    replace cQ0 := cellBelow hb lQ cQ0
    replace cQ1 := cellBelow hb lQ cQ1
    replace lQ := Nat.lt_of_lt_of_le lQ hb.size
    have Zw28 := Lib.hid (Zw26.out.below hb)
    have Bw28 := Lib.hid (Bw26.out.trans (hb.mono Bw26.out.size))
    have Kw28W := Lib.hid (ownsKeep Kw26W.out hb)
    clear Kw26W
    have Kw28V := Lib.hid (ownsKeep Kw26V.out hb)
    clear Kw26V
    have hlast29 : HiY ≤ w28.heap.size := Nat.le_trans hlast27 hb.size
    clear hlast27
    clear Zw26 Bw26 hb
    go_wp2_with fail
    refine (markStore_any _ AV cV n' ys 1 _ Kw28V.out (by omega) (by omega) (by omega)).mono ?_
    rintro e w30 ⟨rfl, hmk, hg⟩
    replace cP0 : w30.cell? ⟨IP, 0, none⟩ = some (.int .i64 n') := (World.cell?_of_block (a := ⟨IP, 0, none⟩) (hg.block IP lP (fun e => by have := loV _ e.symm; have := hiV _ e.symm; omega))).trans cP0
    replace cP1 : w30.cell? ⟨IP, 1, none⟩ = some (.slice AW ys.length cW) := (World.cell?_of_block (a := ⟨IP, 1, none⟩) (hg.block IP lP (fun e => by have := loV _ e.symm; have := hiV _ e.symm; omega))).trans cP1
    replace lP := Nat.lt_of_lt_of_le lP hg.size
    replace cQ0 : w30.cell? ⟨IQ, 0, none⟩ = some (.int .i64 n') := (World.cell?_of_block (a := ⟨IQ, 0, none⟩) (hg.block IQ lQ (fun e => by have := loV _ e.symm; have := hiV _ e.symm; omega))).trans cQ0
    replace cQ1 : w30.cell? ⟨IQ, 1, none⟩ = some (.slice AV ys.length cV) := (World.cell?_of_block (a := ⟨IQ, 1, none⟩) (hg.block IQ lQ (fun e => by have := loV _ e.symm; have := hiV _ e.symm; omega))).trans cQ1
    replace lQ := Nat.lt_of_lt_of_le lQ hg.size
    have Bw30 := Lib.hid (Bw28.out.grown hg Bw28.out.size (fun k e => by have := loV k e; omega))
    have Zw30 := Lib.hid (HZW.out.below Bw30.out)
    have Kw30W := Lib.hid (Kw28W.out.kept hg (apartAll loW hiW loV hiV (by omega)))
    clear Kw28W
    have hlast31 : HiY ≤ w30.heap.size := Nat.le_trans hlast29 hg.size
    clear hlast29
    have MV := Lib.hid (show w30.ownsRow _ 74 6 (.slice AV (markE verMk 6 1 ys.length).length cV) (markE verMk 6 1 ys.length).length (flatOf verC (markE verMk 6 1 ys.length)) from by rw [markE_length]; exact hmk)
    clear Kw28V
    clear hmk hg Bw28 Zw28
    have hq : decide ((1 : Int) + 6 * (ys.length : Int) < 0) = false := decide_eq_false (by omega)
    go_wp2_with fail
    refine (heldStore_any _ ys.length _ n' 1 _ (el_of_owns verC_len MV.out) (by omega) (by omega) (by omega)).mono ?_
    rintro e w32 ⟨rfl, hb⟩
    replace cP0 := cellBelow hb lP cP0
    replace cP1 := cellBelow hb lP cP1
    replace lP := Nat.lt_of_lt_of_le lP hb.size
    replace cQ0 := cellBelow hb lQ cQ0
    replace cQ1 := cellBelow hb lQ cQ1
    replace lQ := Nat.lt_of_lt_of_le lQ hb.size
    have Zw32 := Lib.hid (Zw30.out.below hb)
    have Bw32 := Lib.hid (Bw30.out.trans (hb.mono Bw30.out.size))
    have Kw32W := Lib.hid (ownsKeep Kw30W.out hb)
    clear Kw30W
    have Kw32V := Lib.hid (ownsKeep MV.out hb)
    clear MV
    have hlast33 : HiY ≤ w32.heap.size := Nat.le_trans hlast31 hb.size
    clear hlast31
    clear Zw30 Bw30 hb
    go_wp2_with fail
    refine (toRowSS_any A cap tts _ Zw32.out (by omega) (fun t ht => (HL.out t ht))).mono ?_
    rintro e w34 ⟨rfl, hto, hb⟩
    obtain ⟨LoE, hLo⟩ : ∃ L, w32.heap.size = L := ⟨_, rfl⟩
    obtain ⟨HiE, hHi⟩ : ∃ H, w34.heap.size = H := ⟨_, rfl⟩
    have orE : HiY ≤ LoE := by rw [← hLo]; exact hlast33
    have ohE : LoE ≤ HiE := by rw [← hLo, ← hHi]; exact hb.size
    have TE := Lib.hid hto
    clear hto
    rw [hLo, hHi] at TE
    try rw [hLo]
    replace cP0 := cellBelow hb lP cP0
    replace cP1 := cellBelow hb lP cP1
    replace lP := Nat.lt_of_lt_of_le lP hb.size
    replace cQ0 := cellBelow hb lQ cQ0
    replace cQ1 := cellBelow hb lQ cQ1
    replace lQ := Nat.lt_of_lt_of_le lQ hb.size
    have Zw34 := Lib.hid (Zw32.out.below hb)
    have Bw34 := Lib.hid (Bw32.out.trans (hb.mono Bw32.out.size))
    have Kw34W := Lib.hid (ownsKeep Kw32W.out hb)
    clear Kw32W
    have Kw34V := Lib.hid (ownsKeep Kw32V.out hb)
    clear Kw32V
    have hlast35 : HiY ≤ w34.heap.size := Nat.le_trans hlast33 hb.size
    clear hlast33
    clear Zw32 Bw32 hb
    have hlast36 : HiE ≤ w34.heap.size := Nat.le_of_eq hHi.symm
    clear hlast35
    clear hLo hHi
    go_wp2_with fail
    refine (StoreAll_any (some ⟨LoE, 0, none⟩) tts.length tts _ TE.out.tabs (by omega) (fun t ht => ⟨HL.out t ht, (HS.out t ht).2⟩)).mono ?_
    rw [HP.out]
    rintro e w37 ⟨AH, cH, rfl, ho, hb⟩
    obtain ⟨LoH, hLo⟩ : ∃ L, w34.heap.size = L := ⟨_, rfl⟩
    obtain ⟨HiH, hHi⟩ : ∃ H, w37.heap.size = H := ⟨_, rfl⟩
    have orH : HiE ≤ LoH := by rw [← hLo]; exact hlast36
    have ohH : LoH ≤ HiH := by rw [← hLo, ← hHi]; exact hb.size
    have OH := Lib.hid (show w37.ownsRow w34.heap.size 74 6 (.slice AH ys.length cH) ys.length (flatOf verC ys) from ho)
    have loH : ∀ k, (Value.slice AH ys.length cH).ownBlock = some k → LoH ≤ k := fun k e => by rw [← hLo]; exact (OH.out.lt k e).1
    have hiH : ∀ k, (Value.slice AH ys.length cH).ownBlock = some k → k < HiH := fun k e => by rw [← hHi]; exact (OH.out.lt k e).2
    clear ho
    replace cP0 := cellBelow hb lP cP0
    replace cP1 := cellBelow hb lP cP1
    replace lP := Nat.lt_of_lt_of_le lP hb.size
    replace cQ0 := cellBelow hb lQ cQ0
    replace cQ1 := cellBelow hb lQ cQ1
    replace lQ := Nat.lt_of_lt_of_le lQ hb.size
    have Zw37 := Lib.hid (Zw34.out.below hb)
    have Bw37 := Lib.hid (Bw34.out.trans (hb.mono Bw34.out.size))
    have Kw37W := Lib.hid (ownsKeep Kw34W.out hb)
    clear Kw34W
    have Kw37V := Lib.hid (ownsKeep Kw34V.out hb)
    clear Kw34V
    have Kw37E := Lib.hid (TE.out.keep hb)
    clear TE
    have hlast38 : HiE ≤ w37.heap.size := Nat.le_trans hlast36 hb.size
    clear hlast36
    clear Zw34 Bw34 hb
    have hlast39 : HiH ≤ w37.heap.size := Nat.le_of_eq hHi.symm
    clear hlast38
    clear hLo hHi
    clear Kw37E
    go_wp2_with fail
    generalize hW : w37.alloc _ = WJ
    have cJ0 : WJ.cell? ⟨w37.heap.size, 0, none⟩ = some (.int .i64 n') := by rw [← hW]; simp [go_sem]
    have cJ1 : WJ.cell? ⟨w37.heap.size, 1, none⟩ = some (.slice AH ys.length cH) := by rw [← hW]; simp [go_sem]
    have lJ : w37.heap.size < WJ.heap.size := by rw [← hW]; simp
    have hb : Below w37.heap.size w37 WJ := by rw [← hW]; exact (Below.refl _ _).alloc (Nat.le_refl _) _
    obtain ⟨IJ, hI⟩ : ∃ I, w37.heap.size = I := ⟨_, rfl⟩
    have orJ : HiH ≤ IJ := by rw [← hI]; exact hlast39
    clear hW
    replace cP0 := cellBelow hb lP cP0
    replace cP1 := cellBelow hb lP cP1
    replace lP := Nat.lt_of_lt_of_le lP hb.size
    replace cQ0 := cellBelow hb lQ cQ0
    replace cQ1 := cellBelow hb lQ cQ1
    replace lQ := Nat.lt_of_lt_of_le lQ hb.size
    have ZWJ := Lib.hid (Zw37.out.below hb)
    have BWJ := Lib.hid (Bw37.out.trans (hb.mono Bw37.out.size))
    have KWJW := Lib.hid (ownsKeep Kw37W.out hb)
    clear Kw37W
    have KWJV := Lib.hid (ownsKeep Kw37V.out hb)
    clear Kw37V
    have KWJH := Lib.hid (ownsKeep OH.out hb)
    clear OH
    have hlast40 : HiH ≤ WJ.heap.size := Nat.le_trans hlast39 hb.size
    clear hlast39
    clear Zw37 Bw37 hb
    rw [hI] at cJ0 cJ1 lJ
    try rw [hI]
    clear hI
    have hlast41 : IJ + 1 ≤ WJ.heap.size := lJ
    clear hlast40
    go_wp2_with fail
    refine (eqStore_same _ _ _ _ ys n' _ (el_of_owns verC_len KWJH.out) (el_of_owns verC_len KWJW.out) (by unfold maxLen; omega)).mono ?_
    rintro e w42 ⟨rfl, hb⟩
    replace cP0 := cellBelow hb lP cP0
    replace cP1 := cellBelow hb lP cP1
    replace lP := Nat.lt_of_lt_of_le lP hb.size
    replace cQ0 := cellBelow hb lQ cQ0
    replace cQ1 := cellBelow hb lQ cQ1
    replace lQ := Nat.lt_of_lt_of_le lQ hb.size
    replace cJ0 := cellBelow hb lJ cJ0
    replace cJ1 := cellBelow hb lJ cJ1
    replace lJ := Nat.lt_of_lt_of_le lJ hb.size
    have Zw42 := Lib.hid (ZWJ.out.below hb)
    have Bw42 := Lib.hid (BWJ.out.trans (hb.mono BWJ.out.size))
    have Kw42W := Lib.hid (ownsKeep KWJW.out hb)
    clear KWJW
    have Kw42V := Lib.hid (ownsKeep KWJV.out hb)
    clear KWJV
    have Kw42H := Lib.hid (ownsKeep KWJH.out hb)
    clear KWJH
    have hlast43 : IJ + 1 ≤ w42.heap.size := Nat.le_trans hlast41 hb.size
    clear hlast41
    clear ZWJ BWJ hb
    go_wp2_with fail
    refine (heldStore_any _ ys.length _ n' 1 _ (el_of_owns verC_len Kw42V.out) (by omega) (by omega) (by omega)).mono ?_
    rintro e w44 ⟨rfl, hb⟩
    replace cP0 := cellBelow hb lP cP0
    replace cP1 := cellBelow hb lP cP1
    replace lP := Nat.lt_of_lt_of_le lP hb.size
    replace cQ0 := cellBelow hb lQ cQ0
    replace cQ1 := cellBelow hb lQ cQ1
    replace lQ := Nat.lt_of_lt_of_le lQ hb.size
    replace cJ0 := cellBelow hb lJ cJ0
    replace cJ1 := cellBelow hb lJ cJ1
    replace lJ := Nat.lt_of_lt_of_le lJ hb.size
    have Zw44 := Lib.hid (Zw42.out.below hb)
    have Bw44 := Lib.hid (Bw42.out.trans (hb.mono Bw42.out.size))
    have Kw44W := Lib.hid (ownsKeep Kw42W.out hb)
    clear Kw42W
    have Kw44V := Lib.hid (ownsKeep Kw42V.out hb)
    clear Kw42V
    have Kw44H := Lib.hid (ownsKeep Kw42H.out hb)
    clear Kw42H
    have hlast45 : IJ + 1 ≤ w44.heap.size := Nat.le_trans hlast43 hb.size
    clear hlast43
    clear Zw42 Bw42 hb
    go_wp2
    go_ret
    exact ⟨rfl, Bw44.out⟩
end Go.Proofs.Ytacddgipcafdlaa
