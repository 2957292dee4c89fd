/-
  Walks: the model's table of rows in any order.
-/
import Derived.Test.YtfolppahdmkaoaaHoldS
namespace Go.Proofs.Ytfolppahdmkaoaa
open Go.Shelf Go.RowKit Go.Lib Go.Sort

theorem l2Holds_val (A : Option Addr) (cap : Nat) (zs : List RowV) (key : ByteArray) (a b : Int) (w : World) (v : Bool) (hz : RowsA w A zs) (hl : zs.length ≤ 1048577) (h : holdsS zs key a b = v) :
    Calls Try.prog 54 #[.slice A zs.length cap, .string key, .agg #[.int .i64 a, .int .i64 b]] w fun e w' => e = .returned (.bool v) ∧ Below w.heap.size w w' := by
  subst h; exact l2Holds_any A cap zs key a b w hz hl
theorem lay_step {out : List RowV} {x : RowV} (h1 : rowOk x = true) (h2 : holdsR out x = false) (l : List RowV) : layAll out (x :: l) = layAll (putR out x) l := by
  rw [layAll, if_neg (by simp [h1, h2])]
theorem lay_bad {out : List RowV} {x : RowV} (h : rowOk x = false ∨ holdsR out x = true) (l : List RowV) : layAll out (x :: l) = none := by
  rw [layAll, if_pos h]
theorem drop_atR {zs : List RowV} {k : Nat} {x : RowV} (h : zs[k]? = some x) : zs.drop k = x :: zs.drop (k + 1) := by
  obtain ⟨hk, hx⟩ := List.getElem?_eq_some_iff.1 h
  rw [← hx]
  exact List.drop_eq_getElem_cons hk
theorem putR_length (l : List RowV) (r : RowV) : (putR l r).length = l.length + 1 := by
  have := (putR_perm l r).length_eq
  simpa using this
theorem relOf_none {zs : List RowV} (h : layAll [] zs = none) : relOfL zs = [] := by unfold relOfL; rw [h]
theorem relOf_some {zs m : List RowV} (h : layAll [] zs = some m) : relOfL zs = if (joinRows m).length ≤ 24 then joinRows m else [] := by unfold relOfL; rw [h]

set_option maxRecDepth 100000 in
set_option maxHeartbeats 4000000 in
theorem sRelOf_any (A : Option Addr) (cap : Nat) (zs : List RowV) (w : World) (hz : RowsA w A zs) (hl : zs.length ≤ 1048577) (hs : Short zs) :
    Calls Try.prog 28 #[.slice A zs.length cap] w (GetsE rowC 4 45 w (relOfL zs)) := by
  have HZ := Lib.hid hz
  have HS := Lib.hid hs
  clear hz hs
  go_enter Try.func28, Try.ntmps28
  go_wp2
  go_loopw [3, 4] (fun v i wr => ∃ (k : Nat) (out : List RowV), k ≤ zs.length ∧ i = .int .i64 k ∧ out.length = k ∧ layAll [] zs = layAll out (zs.drop k) ∧ wr.ownsRow w.heap.size 45 4 v out.length (flatOf rowC out) ∧ Below w.heap.size w wr) (fun _ i _ => zs.length - (intOf i).toNat)
  case atStart =>
    refine ⟨0, [], Nat.zero_le _, rfl, rfl, rfl, ?_, (Below.refl _ _).alloc (Nat.le_refl _) _⟩
    have := World.ownsRow_lit (base := w.heap.size) (e := 45) (size := 4) w #[] 0 (by simp) (by simp [maxLen]) (by simp)
    simpa [flatOf] using this
  case round =>
    obtain ⟨k, out, hk, rfl, hlen, hlay, hown, hbr⟩ := hrel
    have Hown := Lib.hid hown
    have HLen := Lib.hid hlen
    have HLay := Lib.hid hlay
    clear hown hlen hlay
    have hs5 := hbr.size
    obtain ⟨A5, c5, rfl⟩ := owns_sliceE Hown.out
    have HOut := Lib.hid (rowsA_own Hown.out rfl)
    have hol : out.length ≤ 1048577 := by rw [HLen.out]; omega
    by_cases hlt : k < zs.length
    · obtain ⟨b, off, x, rfl, hb, hx, q0, q1, q2, q3⟩ := (HZ.out.below hbr).at_ hlt
      have HD := Lib.hid (drop_atR hx)
      have hm := HS.out x (List.mem_of_getElem? hx)
      have hkz : (k : Int) < (zs.length : Int) := by omega
      clear hx
      rw [HD.out] at HLay
      cases h1 : rowOk x
      · have H1 := Lib.hid h1
        have HN := Lib.hid (relOf_none (HLay.out.trans (lay_bad (.inl h1) _)))
        clear h1
        go_wp2_with fail
        refine wp_region_later (by kernel_rfl) (by kernel_rfl) ?_
        intro f hf1 hf2 hfc
        repeat (go_big_quiet_step ((go_at_call 53; exact calls_later hf1 hf2 (l2RowOk_val _ _ _ hm.1 hm.2 H1.out))))
        refine wpQuiet_nil ?_
        rintro _ ⟨v, rfl⟩
        have BW := Lib.hid (hbr.trans ((hf1.out v).mono hbr.size))
        clear hfc hf1 hf2 hbr q0 q1 q2 q3 hb
        generalize f v = W at *
        go_wp2
        go_ret
        rw [HN.out]
        exact getsE_nil _ _ _ BW.out
      · have H1 := Lib.hid h1
        clear h1
        obtain ⟨hv, hhv⟩ : ∃ hv, holdsS out x.k x.f x.e = hv := ⟨_, rfl⟩
        have HV := Lib.hid hhv
        clear hhv
        go_wp2_with fail
        refine wp_region_later (by kernel_rfl) (by kernel_rfl) ?_
        intro f hf1 hf2 hfc
        repeat (go_big_quiet_step (first | (go_at_call 53; exact calls_later hf1 hf2 (l2RowOk_val _ _ _ hm.1 hm.2 H1.out)) | (go_at_call 54; exact calls_later hf1 hf2 (l2Holds_val A5 c5 out _ _ _ _ hv (HOut.out.below (hf1.out _)) hol HV.out))))
        refine wpQuiet_nil ?_
        rintro _ ⟨v, rfl⟩
        have hbf := hf1.out v
        replace q0 := cellBelow hbf hb q0
        replace q1 := cellBelow hbf hb q1
        replace q2 := cellBelow hbf hb q2
        replace q3 := cellBelow hbf hb q3
        have BW := Lib.hid (hbr.trans (hbf.mono hbr.size))
        have OW := Lib.hid (ownsKeep Hown.out hbf)
        clear hbf hfc hf1 hf2 hbr hb
        generalize f v = W at *
        cases hv
        · have HN := Lib.hid (HLay.out.trans (lay_step H1.out (by rw [← holdsS_R]; exact HV.out) _))
          have hsw := BW.out.size
          have hpl := putR_length out x
          go_wp2_with fail
          refine (l2Put_any A5 c5 out x W (rowsA_own OW.out rfl) (owns_nilcap OW.out) (owns_cap OW.out) hol).mono ?_
          rintro e w3 ⟨A6, c6, rfl, ho6, hb6⟩
          have O6 := Lib.hid (owns_baseE ho6 hsw)
          have B6 := Lib.hid (BW.out.trans (hb6.mono hsw))
          clear ho6 hb6 OW HOut
          generalize putR out x = po at *
          have HPL := Lib.hid hpl
          clear hpl
          go_wp2
          go_roundw
          case rel => exact ⟨k + 1, po, by omega, by go_num, by rw [HPL.out, HLen.out], HN.out, O6.out, B6.out⟩
          case measure => simp [intOf]; omega
        · have HN := Lib.hid (relOf_none (HLay.out.trans (lay_bad (.inr (by rw [← holdsS_R]; exact HV.out)) _)))
          go_wp2
          go_ret
          rw [HN.out]
          exact getsE_nil _ _ _ BW.out
    · obtain rfl : k = zs.length := by omega
      rw [List.drop_length] at HLay
      have HR := Lib.hid (relOf_some HLay.out)
      go_wp2_with fail
      refine (l2Join_any A5 c5 out wr HOut.out hol).mono ?_
      rintro e w2 ⟨A6, c6, rfl, ho6, hb6⟩
      have O6 := Lib.hid ho6
      have B6 := Lib.hid (hbr.trans (hb6.mono hbr.size))
      clear ho6 hb6
      generalize joinRows out = js at *
      by_cases h24 : js.length ≤ 24
      · rw [if_pos h24] at HR
        go_wp2
        go_ret
        rw [HR.out]
        exact ⟨A6, c6, rfl, owns_baseE O6.out hs5, B6.out⟩
      · rw [if_neg h24] at HR
        go_wp2
        go_ret
        rw [HR.out]
        exact getsE_nil _ _ _ B6.out
end Go.Proofs.Ytfolppahdmkaoaa
