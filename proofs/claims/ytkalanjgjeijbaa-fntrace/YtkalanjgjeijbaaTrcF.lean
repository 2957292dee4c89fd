/-
  Walks: what was known of a key at a point, stamp by stamp: the model's.
-/
import Derived.Test.YtkalanjgjeijbaaTrcE
import Derived.Test.YtkalanjgjeijbaaStoreM
namespace Go.Proofs.Ytkalanjgjeijbaa
open Go.Shelf Go.RowKit Go.Lib Go.Sort

set_option maxRecDepth 100000 in
set_option maxHeartbeats 8000000 in
theorem l11Of_any (A : Option Addr) (cap : Nat) (zs : List VerV) (now : Int) (key : ByteArray) (c : Int) (w : World) (hz : VersA w A zs) (hl : zs.length ≤ 1048576) (h : storeB zs now = true) :
    Calls Try.prog 33 #[.agg #[.int .i64 now, .slice A zs.length cap], .string key, .int .i64 c] w (GetsT w (trUp (fun n => getT n key c zs) now.toNat)) := by
  obtain ⟨i0, hi, hz0, hz1, hz2⟩ := info_parts Try.infoR40
  have Hi := Lib.hid hi
  have Hz0 := Lib.hid hz0
  have Hz1 := Lib.hid hz1
  have Hz2 := Lib.hid hz2
  clear hi hz0 hz1 hz2
  have HST := Lib.hid h
  have hn30 := (storeB_iff.1 h).1
  clear h
  have HF := Lib.hid (fun (n : Nat) (hn : (n : Int) ≤ now) => getT_store (key := key) (c := c) HST.out hn)
  obtain ⟨f, hf⟩ : ∃ f : Nat → ByteArray, (fun n : Nat => getT n key c zs) = f := ⟨_, rfl⟩
  have HFD := Lib.hid hf
  rw [hf]
  clear hf
  go_enter Try.func33, Try.ntmps33
  go_wp2
  generalize hW : (w.alloc _).alloc _ = W0
  have s0 : W0.cell? ⟨w.heap.size, 0, none⟩ = some (.int .i64 now) := by rw [← hW]; simp [go_sem]
  have s1 : W0.cell? ⟨w.heap.size, 1, none⟩ = some (.slice A zs.length cap) := by rw [← hW]; simp [go_sem]
  have ls : w.heap.size < W0.heap.size := by rw [← hW]; simp; omega
  have hq0 : Below w.heap.size w W0 := by rw [← hW]; exact ((Below.refl _ _).alloc (Nat.le_refl _) _).alloc (by simp) _
  have OL : W0.ownsRow (w.heap.size + 1) 40 2 (.slice (some ⟨w.heap.size + 1, 0, none⟩) 0 0) 0 [] := by
    rw [← hW]
    have := World.ownsRow_lit (base := w.heap.size + 1) (e := 40) (size := 2) (w.alloc (.cells #[.int .i64 now, .slice A zs.length cap] 25)) #[] 0 (by simp) (by simp [maxLen]) (by simp)
    simpa using this
  have HZ := Lib.hid hz
  have B0 := Lib.hid hq0
  obtain ⟨G, hG⟩ : ∃ G, w.heap.size = G := ⟨_, rfl⟩
  have HG := Lib.hid hG
  rw [hG] at s0 s1 ls OL ⊢
  have hwG : w.heap.size ≤ G + 1 := by omega
  clear hW hz hq0 hG
  have S0 := Lib.hid s0
  have S1 := Lib.hid s1
  clear s0 s1
  go_loopw [7, 8, 9] (fun v u i wr => ∃ (n : Nat) (A5 : Option Addr) (c5 : Nat), (n : Int) ≤ now ∧ i = .int .i64 ((n : Int) + 1) ∧ u = .string (lastF f n) ∧ v = .slice A5 (trUp f n).length c5 ∧ wr.ownsRow (G + 1) 40 2 (.slice A5 (trUp f n).length c5) (trUp f n).length (flatOf traC (trUp f n)) ∧ Below (G + 1) W0 wr) (fun _ _ i _ => (now + 1 - intOf i).toNat)
  case atStart => exact ⟨0, some ⟨G + 1, 0, none⟩, 0, by omega, by go_num, rfl, rfl, OL, Below.refl _ _⟩
  case round =>
    obtain ⟨n, A5, c5, hn, rfl, rfl, rfl, hown, hbr⟩ := hrel
    have g0 : wr.cell? ⟨G, 0, none⟩ = some (.int .i64 now) := (hbr.cell (p := ⟨G, 0, none⟩) (by show G < G + 1; omega)).trans S0.out
    have g1 : wr.cell? ⟨G, 1, none⟩ = some (.slice A zs.length cap) := (hbr.cell (p := ⟨G, 1, none⟩) (by show G < G + 1; omega)).trans S1.out
    have hul := trUp_len f n
    have HNX := Lib.hid (trUp_next f n)
    obtain ⟨l, hl'⟩ : ∃ l, trUp f n = l := ⟨_, rfl⟩
    obtain ⟨u, hu⟩ : ∃ u, lastF f n = u := ⟨_, rfl⟩
    rw [hl'] at hown hul HNX
    rw [hu] at HNX
    have HL' := Lib.hid hl'
    have HU := Lib.hid hu
    rw [hl', hu]
    have Hown := Lib.hid hown
    have BR := Lib.hid hbr
    have hw1 := hbr.size
    have hG1 : G < wr.heap.size := by omega
    have ZR := Lib.hid (HZ.out.below (B0.out.trans (BR.out.mono hwG)))
    clear hown hbr hl' hu
    by_cases hlt : (n : Int) + 1 ≤ now
    · have hdn : decide ((n : Int) + 1 ≤ now) = true := decide_eq_true hlt
      have hft : getR key c (liveS zs ((n : Int) + 1)) = f (n + 1) := by
        have := HF.out (n + 1) (by omega)
        rw [show ((n + 1 : Nat) : Int) = (n : Int) + 1 from by omega] at this
        rw [this, ← HFD.out]
        rfl
      have hll := liveS_len zs ((n : Int) + 1)
      obtain ⟨lv, hlv⟩ : ∃ lv, liveS zs ((n : Int) + 1) = lv := ⟨_, rfl⟩
      obtain ⟨t, ht⟩ : ∃ t, f (n + 1) = t := ⟨_, rfl⟩
      have HT := Lib.hid ht
      have HLV := Lib.hid hlv
      rw [ht] at HNX hft
      rw [hlv] at hft hll
      have HFT := Lib.hid hft
      clear ht hlv hft
      go_wp2_with fail
      refine (l5Live_any A cap zs ((n : Int) + 1) wr ZR.out hl).mono ?_
      rw [HLV.out]
      rintro e w2 ⟨A1, c1, rfl, ho, hb⟩
      have RO := Lib.hid (show RowsA w2 A1 lv from el_of_owns rowC_len ho)
      have O2 := Lib.hid (ownsKeep Hown.out hb)
      have B2 := Lib.hid (BR.out.trans (hb.mono (by omega)))
      clear ho hb Hown BR ZR g0 g1
      go_wp2_with fail
      refine (l2Get_any A1 c1 lv key c w2 RO.out (by omega)).mono ?_
      rw [HFT.out]
      rintro e w3 ⟨rfl, hb⟩
      have O3 := Lib.hid (ownsKeep O2.out hb)
      have hw2 : G + 1 ≤ w2.heap.size := by have := B2.out.size; omega
      have B3 := Lib.hid (B2.out.trans (hb.mono hw2))
      have hw3 : G + 1 ≤ w3.heap.size := by have := hb.size; omega
      clear hb O2 B2
      cases hq : (t.toList == u.toList)
      · rw [if_neg (by rw [hq]; simp)] at HNX
        go_wp2_with (at_builtin; refine wpList_append_own _ rfl _ _ 37 rfl (G + 1) 40 i0 _ 2 24 Try.underlying37 Hi.out Hz0.out Hz1.out Hz2.out rfl (by decide) _ l.length (flatOf traC l) rfl (O3.out.alloc _) ⟨w3.heap.size, 0, none⟩ 1 1 [.int .i64 ((n : Int) + 1), .string t] rfl rfl (newsTr (by simp) (by simp)) (by simp [Value.oneCell']) (by unfold maxLen; omega) (by omega) (by simp; omega) ?_; intro v' w4 hown' hgrow hnil; obtain ⟨A6, c6, rfl⟩ := owns_formN hown'; have O4 := Lib.hid hown'; have B4 := Lib.hid ((B3.out.alloc hw3 _).grown hgrow (by simp; omega) (fun i e => (O3.out.lt i e).1)); clear hown' hgrow hnil)
        go_roundw
        case rel =>
          refine ⟨n + 1, A6, c6, by omega, by go_num, by rw [lastF, HT.out], by rw [HNX.out]; simp, ?_, B4.out⟩
          rw [HNX.out, List.length_append, flatOf_append]
          exact O4.out
        case measure => simp [intOf]; omega
      · rw [if_pos hq] at HNX
        have hut : u = t := (same_key.1 hq).symm
        go_wp2
        go_roundw
        case rel => exact ⟨n + 1, A5, c5, by omega, by go_num, by rw [lastF, HT.out], by rw [HNX.out], by rw [HNX.out]; exact O3.out, B3.out⟩
        case measure => simp [intOf]; omega
    · have e : now.toNat = n := by omega
      have hdn : decide ((n : Int) + 1 ≤ now) = false := decide_eq_false hlt
      go_wp2
      go_ret
      rw [HL'.out]
      exact ⟨A5, c5, rfl, ownsBase (base := G + 1) Hown.out hwG, B0.out.trans (BR.out.mono (by omega))⟩

set_option maxRecDepth 100000 in
set_option maxHeartbeats 4000000 in
theorem sTraceOf_any (A : Option Addr) (cap : Nat) (zs : List VerV) (now : Int) (key : ByteArray) (c : Int) (w : World) (hz : VersA w A zs) (hl : zs.length ≤ 1048576) (hs : ShortV zs) :
    Calls Try.prog 14 #[.agg #[.int .i64 now, .slice A zs.length cap], .string key, .int .i64 c] w (GetsT w (traceL zs now key c)) := by
  have HS := Lib.hid hs
  clear hs
  obtain ⟨sb, hsb⟩ : ∃ sb, storeB zs now = sb := ⟨_, rfl⟩
  have HSB := Lib.hid hsb
  clear hsb
  obtain ⟨p, hp⟩ : ∃ p, traceL zs now key c = p := ⟨_, rfl⟩
  have HPP := Lib.hid hp
  rw [hp]
  clear hp
  go_enter Try.func14, Try.ntmps14
  go_wp2_with fail
  generalize hW : w.alloc _ = W0
  have s0 : W0.cell? ⟨w.heap.size, 0, none⟩ = some (.int .i64 now) := by rw [← hW]; simp [go_sem]
  have s1 : W0.cell? ⟨w.heap.size, 1, none⟩ = some (.slice A zs.length cap) := by rw [← hW]; simp [go_sem]
  have ls : w.heap.size < W0.heap.size := by rw [← hW]; simp
  have hq0 : Below w.heap.size w W0 := by rw [← hW]; exact (Below.refl _ _).alloc (Nat.le_refl _) _
  have Z0 := Lib.hid (hz.below hq0)
  have B0 := Lib.hid hq0
  obtain ⟨G, hG⟩ : ∃ G, w.heap.size = G := ⟨_, rfl⟩
  rw [hG] at s0 s1 ls ⊢
  clear hW hz hq0
  refine (l5Ok_any A cap zs now W0 Z0.out hl HS.out).mono ?_
  rw [HSB.out]
  rintro e w1 ⟨rfl, hb⟩
  replace s0 := cellBelow hb ls s0
  replace s1 := cellBelow hb ls s1
  have Z1 := Lib.hid (Z0.out.below hb)
  have B1 := Lib.hid (B0.out.trans (hb.mono B0.out.size))
  clear hb Z0 B0 ls
  cases sb
  · have e : p = [] := HPP.out.symm.trans (if_neg (by rw [HSB.out]; simp))
    subst e
    go_wp2
    go_ret
    exact ⟨none, 0, rfl, World.ownsRow_nil _ _ _ _, B1.out⟩
  · have e : p = trUp (fun n => getT n key c zs) now.toNat := HPP.out.symm.trans (if_pos HSB.out)
    subst e
    clear HPP
    go_wp2_with fail
    refine (l11Of_any A cap zs now key c w1 Z1.out hl HSB.out).mono ?_
    rintro e w2 ⟨A1, c1, rfl, ho, hb⟩
    have O2 := Lib.hid (ownsBase ho B1.out.size)
    have B2 := Lib.hid (B1.out.trans (hb.mono B1.out.size))
    clear ho hb
    go_wp2
    go_ret
    exact ⟨A1, c1, rfl, O2.out, B2.out⟩
end Go.Proofs.Ytkalanjgjeijbaa
