/-
  Walks: what was known of a key at a point, stamp by stamp: the program's loops.
-/
import Derived.Test.YtkalanjgjeijbaaTrcD
import Derived.WalkMore
namespace Go.Proofs.Ytkalanjgjeijbaa
open Go.Shelf Go.RowKit Go.Lib Go.Sort

/-- A list of traces that the call owns. -/
def GetsT (w : World) (l : List TraV) (e : Ending) (w' : World) : Prop :=
  ∃ (A : Option Addr) (cap : Nat), e = .returned (.slice A l.length cap) ∧ w'.ownsRow w.heap.size 40 2 (.slice A l.length cap) l.length (flatOf traC l) ∧ Below w.heap.size w w'
theorem trUp_note {zs : List VerV} {key : ByteArray} {c : Int} {n : Nat} {t : ByteArray} (h : getT ((n + 1 : Nat) : Int) key c zs = t) : noteL (trUp (fun n => getT n key c zs) n) ⟨(n : Int) + 1, t⟩ = trUp (fun n => getT n key c zs) (n + 1) := by
  rw [trUp, ← h]
  rfl

set_option maxRecDepth 100000 in
set_option maxHeartbeats 8000000 in
theorem TraceOf_any (A : Option Addr) (cap : Nat) (zs : List VerV) (now : Int) (key : ByteArray) (c : Int) (w : World) (hz : VersA w A zs) (hl : zs.length ≤ 1048576) (hs : ShortV zs) :
    Calls Try.prog 13 #[.agg #[.int .i64 now, .slice A zs.length cap], .string key, .int .i64 c] w (GetsT w (traceL zs now key c)) := by
  have HS := Lib.hid hs
  clear hs
  obtain ⟨sb, hsb⟩ : ∃ sb, storeB zs now = sb := ⟨_, rfl⟩
  have HSB := Lib.hid hsb
  clear hsb
  obtain ⟨p, hp⟩ : ∃ p, traceL zs now key c = p := ⟨_, rfl⟩
  have HPP := Lib.hid hp
  rw [hp]
  clear hp
  go_enter Try.func13, Try.ntmps13
  go_wp2
  go_step3
  go_wp2_with fail
  generalize hW : w.alloc _ = W0
  have s0 : W0.cell? ⟨w.heap.size, 0, none⟩ = some (.int .i64 now) := by rw [← hW]; simp [go_sem]
  have s1 : W0.cell? ⟨w.heap.size, 1, none⟩ = some (.slice A zs.length cap) := by rw [← hW]; simp [go_sem]
  have ls : w.heap.size < W0.heap.size := by rw [← hW]; simp
  have hq0 : Below w.heap.size w W0 := by rw [← hW]; exact (Below.refl _ _).alloc (Nat.le_refl _) _
  have Z0 := Lib.hid (hz.below hq0)
  have B0 := Lib.hid hq0
  obtain ⟨G, hG⟩ : ∃ G, w.heap.size = G := ⟨_, rfl⟩
  have HG := Lib.hid hG
  rw [hG] at s0 s1 ls ⊢
  clear hW hz hq0 hG
  refine (StoreOk_any A cap zs now W0 Z0.out (by omega) HS.out).mono ?_
  rw [HSB.out]
  rintro e w1 ⟨rfl, hb⟩
  have S0 := Lib.hid (cellBelow hb ls s0)
  have S1 := Lib.hid (cellBelow hb ls s1)
  replace ls := Nat.lt_of_lt_of_le ls hb.size
  have Z1 := Lib.hid (Z0.out.below hb)
  have B1 := Lib.hid (B0.out.trans (hb.mono B0.out.size))
  clear hb Z0 B0 s0 s1
  cases sb
  · have e : p = [] := HPP.out.symm.trans (if_neg (by rw [HSB.out]; simp))
    subst e
    have g0 := S0.out
    have g1 := S1.out
    go_wp2
    rw [Exit.noGoto_ret]
    go_ret
    exact ⟨none, 0, rfl, World.ownsRow_nil _ _ _ _, B1.out⟩
  · have e : p = trUp (fun n => getT n key c zs) now.toNat := HPP.out.symm.trans (if_pos HSB.out)
    subst e
    have hn30 := (storeB_iff.1 HSB.out).1
    clear HPP
    have g0 := S0.out
    have g1 := S1.out
    go_wp2
    go_step3
    go_wp2
    clear g0 g1
    go_loopw [7, 8] (fun v i wr => ∃ (n : Nat) (A5 : Option Addr) (c5 : Nat), (n : Int) ≤ now ∧ i = .int .i64 ((n : Int) + 1) ∧ v = .slice A5 (trUp (fun n => getT n key c zs) n).length c5 ∧ wr.ownsRow w1.heap.size 40 2 (.slice A5 (trUp (fun n => getT n key c zs) n).length c5) (trUp (fun n => getT n key c zs) n).length (flatOf traC (trUp (fun n => getT n key c zs) n)) ∧ Below w1.heap.size w1 wr) (fun _ i _ => (now + 1 - intOf i).toNat)
    case atStart => exact ⟨0, none, 0, by omega, by go_num, rfl, World.ownsRow_nil _ _ _ _, Below.refl _ _⟩
    case round =>
      obtain ⟨n, A5, c5, hn, rfl, rfl, hown, hbr⟩ := hrel
      have g0 := cellBelow hbr ls S0.out
      have g1 := cellBelow hbr ls S1.out
      have hul := trUp_len (fun n => getT n key c zs) n
      have HNX := Lib.hid (fun t => @trUp_note zs key c n t)
      obtain ⟨l, hl'⟩ : ∃ l, trUp (fun n => getT n key c zs) n = l := ⟨_, rfl⟩
      rw [hl'] at hown hul HNX
      have Hown := Lib.hid hown
      have BR := Lib.hid hbr
      have hG1 : G < wr.heap.size := by have := hbr.size; omega
      have hw1 : w1.heap.size ≤ wr.heap.size := hbr.size
      clear hown hbr
      by_cases hlt : (n : Int) + 1 ≤ now
      · have hdn : decide ((n : Int) + 1 ≤ now) = true := decide_eq_true hlt
        rw [hl']
        go_wp2
        clear g0 g1
        generalize hwo : wr = wo at *
        clear hwo
        go_loopw [7, 23] (fun v q wi => ∃ k : Nat, k ≤ zs.length ∧ q = .int .i64 k ∧ v = .slice A5 l.length c5 ∧ (∀ (q : Nat) (y : VerV), q < k → zs[q]? = some y → tellB ((n + 1 : Nat) : Int) key c y = false) ∧ Below wo.heap.size wo wi) (fun _ q _ => zs.length - (intOf q).toNat)
        case atStart => exact ⟨0, Nat.zero_le _, rfl, rfl, fun q y h => absurd h (Nat.not_lt_zero _), Below.refl _ _⟩
        case round =>
          obtain ⟨k, hk, rfl, rfl, hf, hbi⟩ := hrel
          have HF := Lib.hid hf
          have BI := Lib.hid hbi
          have hwi : wo.heap.size ≤ wr.heap.size := hbi.size
          have Oi := Lib.hid (ownsKeep Hown.out hbi)
          clear hf
          by_cases hk2 : k < zs.length
          · obtain ⟨b, off, x, rfl, hb, hx, c0, c1, c2, c3, c4, c5'⟩ := (Z1.out.below ((BR.out.trans (hbi.mono hw1)))).at_ hk2
            have HX := Lib.hid hx
            have hkz : (k : Int) < (zs.length : Int) := by omega
            have hkz0 : (0 : Int) ≤ (k : Int) := by omega
            clear hx hbi
            obtain ⟨tb, htb⟩ : ∃ tb, tellB ((n + 1 : Nat) : Int) key c x = tb := ⟨_, rfl⟩
            have HTB := Lib.hid htb
            clear htb
            go_wp2_with fail
            generalize hW : wr.alloc _ = W2
            have v1 : W2.cell? ⟨wr.heap.size, 1, none⟩ = some (.string x.r.t) := by rw [← hW]; simp [go_sem]
            have lW : wr.heap.size < W2.heap.size := by rw [← hW]; simp
            have hbW : Below wr.heap.size wr W2 := by rw [← hW]; exact (Below.refl _ _).alloc (Nat.le_refl _) _
            clear hW c0 c1 c2 c3 c4 c5'
            refine (show Calls _ _ _ _ (fun e w' => e = .returned (.bool tb) ∧ Below W2.heap.size W2 w') from by
              have := tells_any x ((n + 1 : Nat) : Int) key c W2
              rw [HTB.out] at this
              exact this).mono ?_
            rintro e w3 ⟨rfl, hb3⟩
            replace v1 := cellBelow hb3 lW v1
            have hb4 := hbW.trans (hb3.mono hbW.size)
            have O3 := Lib.hid (ownsKeep Oi.out hb4)
            have BI3 := Lib.hid (BI.out.trans (hb4.mono hwi))
            clear hbW hb3 hb4 lW Oi
            cases tb
            · go_wp2
              go_roundw
              case rel =>
                refine ⟨k + 1, by omega, by go_num, rfl, fun q y hq hy => ?_, BI3.out⟩
                by_cases h : q < k
                · exact HF.out q y h hy
                · obtain rfl : q = k := by omega
                  rw [HX.out] at hy
                  injection hy with hy
                  rw [← hy]; exact HTB.out
              case measure => simp [intOf]; omega
            · have HG2 := Lib.hid (HNX.out x.r.t (getT_hit HX.out HTB.out HF.out))
              go_wp2_with fail
              refine (noted_any w1.heap.size A5 c5 l ⟨(n : Int) + 1, x.r.t⟩ w3 O3.out (by have := BI3.out.size; omega) (by omega)).mono ?_
              rw [HG2.out]
              rintro e w4 ⟨A6, c6, rfl, ho4, hg4⟩
              have O4 := Lib.hid ho4
              have B4 := Lib.hid ((BR.out.trans (BI3.out.mono hw1)).grown hg4 (by have := BI3.out.size; omega) (fun i e => (O3.out.lt i e).1))
              clear ho4 hg4
              go_wp2
              go_roundw
              case rel => exact ⟨n + 1, A6, c6, by omega, by go_num, rfl, O4.out, B4.out⟩
              case measure => simp [intOf]; omega
          · obtain rfl : k = zs.length := by omega
            have HG2 := Lib.hid (HNX.out ⟨#[]⟩ (getT_none fun q y hq => HF.out q y (List.getElem?_eq_some_iff.1 hq).1 hq))
            clear hbi
            go_wp2_with fail
            refine (noted_any w1.heap.size A5 c5 l ⟨(n : Int) + 1, ⟨#[]⟩⟩ wr Oi.out (by omega) (by omega)).mono ?_
            rw [HG2.out]
            rintro e w4 ⟨A6, c6, rfl, ho4, hg4⟩
            have O4 := Lib.hid ho4
            have B4 := Lib.hid ((BR.out.trans (BI.out.mono hw1)).grown hg4 (by omega) (fun i e => (Oi.out.lt i e).1))
            clear ho4 hg4
            go_wp2
            go_roundw
            case rel => exact ⟨n + 1, A6, c6, by omega, by go_num, rfl, O4.out, B4.out⟩
            case measure => simp [intOf]; omega
      · have e : now.toNat = n := by omega
        have hdn : decide ((n : Int) + 1 ≤ now) = false := decide_eq_false hlt
        have HL := Lib.hid (show trUp (fun n => getT n key c zs) now.toNat = l from by rw [e]; exact hl')
        rw [hl']
        have BW := Lib.hid (B1.out.trans (BR.out.mono B1.out.size))
        go_wp2
        go_ret
        exact ⟨A5, c5, rfl, ownsBase (base := w1.heap.size) Hown.out B1.out.size, BW.out⟩
end Go.Proofs.Ytkalanjgjeijbaa
