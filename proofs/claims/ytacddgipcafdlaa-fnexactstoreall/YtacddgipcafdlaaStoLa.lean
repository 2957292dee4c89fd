/-
  Walks: the last stamp at which anything of a key came or went.
-/
import Derived.Test.YtacddgipcafdlaaStoreM
import Derived.Test.YtacddgipcafdlaaStoreO
namespace Go.Proofs.Ytacddgipcafdlaa
open Go.Shelf Go.RowKit Go.Lib Go.Sort

def chgL (x : VerV) : Int := if x.o = 999 then x.i else x.o
def stepL (key : ByteArray) (a : Int) (x : VerV) : Int := if (x.r.k.toList == key.toList) = true then max a (chgL x) else a
def lastTo (zs : List VerV) (key : ByteArray) (k : Nat) : Int := (zs.take k).foldl (stepL key) 0
def storeLastL (zs : List VerV) (now : Int) (key : ByteArray) : Int := if storeB zs now = true then lastTo zs key zs.length else -1
theorem lastTo_succ {zs : List VerV} {key : ByteArray} {k : Nat} {x : VerV} (hx : zs[k]? = some x) : lastTo zs key (k + 1) = stepL key (lastTo zs key k) x := by
  obtain ⟨hk, rfl⟩ := List.getElem?_eq_some_iff.1 hx
  unfold lastTo
  rw [List.take_succ_eq_append_getElem hk, List.foldl_append]
  rfl
theorem ver_in {zs : List VerV} {now : Int} (h : storeB zs now = true) {x : VerV} (hx : x ∈ zs) : 1 ≤ x.i ∧ x.i ≤ 30 ∧ x.i < x.o ∧ x.o ≤ 999 := by
  obtain ⟨h0, h1, _⟩ := storeB_iff.1 h
  obtain ⟨k, hk, rfl⟩ := List.mem_iff_getElem.1 hx
  simp only [versB, Bool.and_eq_true] at h1
  have h2 := List.all_eq_true.1 h1.2 k (by simpa using hk)
  rw [verAt, getV_of (List.getElem?_eq_getElem hk), Bool.and_eq_true] at h2
  have h3 := h2.1
  simp only [verB, Bool.and_eq_true, decide_eq_true_eq] at h3
  omega
theorem last_bd {zs : List VerV} {now : Int} (key : ByteArray) (h : storeB zs now = true) : ∀ k, 0 ≤ lastTo zs key k ∧ lastTo zs key k ≤ 999
  | 0 => by simp [lastTo]
  | k + 1 => by
    have ih := last_bd key h k
    by_cases hk : k < zs.length
    · rw [lastTo_succ (List.getElem?_eq_getElem hk), stepL]
      have := ver_in h (List.getElem_mem hk)
      unfold chgL
      split
      · split <;> omega
      · exact ih
    · have : lastTo zs key (k + 1) = lastTo zs key k := by
        unfold lastTo
        rw [List.take_of_length_le (by omega), List.take_of_length_le (by omega)]
      rw [this]; exact ih

set_option maxHeartbeats 1000000 in
theorem changed_any (x : VerV) (w : World) : Calls Try.prog 87 #[.agg #[.string x.r.k, .string x.r.t, .int .i64 x.r.f, .int .i64 x.r.e, .int .i64 x.i, .int .i64 x.o]] w fun e w' => e = .returned (.int .i64 (chgL x)) ∧ Below w.heap.size w w' := by
  obtain ⟨c, hc⟩ : ∃ c, chgL x = c := ⟨_, rfl⟩
  have HC := Lib.hid hc
  rw [hc]
  clear hc
  go_enter Try.func87, Try.ntmps87
  go_wp2_with fail
  generalize hW : w.alloc _ = W0
  have a4 : W0.cell? ⟨w.heap.size, 4, none⟩ = some (.int .i64 x.i) := by rw [← hW]; simp [go_sem]
  have a5 : W0.cell? ⟨w.heap.size, 5, none⟩ = some (.int .i64 x.o) := by rw [← hW]; simp [go_sem]
  have hs : w.heap.size < W0.heap.size := by rw [← hW]; simp
  have B0 := Lib.hid (show Below w.heap.size w W0 from by rw [← hW]; exact (Below.refl _ _).alloc (Nat.le_refl _) _)
  clear hW
  refine (current_any x _).mono ?_
  rintro e w1 ⟨rfl, hb⟩
  replace a4 := cellBelow hb hs a4
  replace a5 := cellBelow hb hs a5
  have B1 := Lib.hid (B0.out.trans (hb.mono B0.out.size))
  clear hb B0
  by_cases h9 : x.o = 999
  · have HE := Lib.hid (show c = x.i from by rw [← HC.out, chgL, if_pos h9])
    rw [decide_eq_true h9]
    clear h9
    go_wp2
    go_ret
    exact ⟨by rw [HE.out]; rfl, B1.out⟩
  · have HE := Lib.hid (show c = x.o from by rw [← HC.out, chgL, if_neg h9])
    rw [decide_eq_false h9]
    clear h9
    go_wp2
    go_ret
    exact ⟨by rw [HE.out]; rfl, B1.out⟩

set_option maxRecDepth 100000 in
set_option maxHeartbeats 4000000 in
theorem StoreLast_any (A : Option Addr) (cap : Nat) (zs : List VerV) (now : Int) (key : ByteArray) (w : World) (hz : VersA w A zs) (hl : zs.length ≤ 1048577) (hs : ShortV zs) :
    Calls Try.prog 41 #[.agg #[.int .i64 now, .slice A zs.length cap], .string key] w fun e w' => e = .returned (.int .i64 (storeLastL zs now key)) ∧ Below w.heap.size w w' := by
  have HS := Lib.hid hs
  clear hs
  obtain ⟨sb, hsb⟩ : ∃ sb, storeB zs now = sb := ⟨_, rfl⟩
  have HSB := Lib.hid hsb
  obtain ⟨r, hr⟩ : ∃ r, storeLastL zs now key = r := ⟨_, rfl⟩
  have HR := Lib.hid hr
  rw [hr]
  clear hsb hr
  go_enter Try.func41, Try.ntmps41
  go_wp2_with fail
  generalize hW : w.alloc _ = W0
  have s0 : W0.cell? ⟨w.heap.size, 0, none⟩ = some (.int .i64 now) := by rw [← hW]; simp [go_sem]
  have s1 : W0.cell? ⟨w.heap.size, 1, none⟩ = some (.slice A zs.length cap) := by rw [← hW]; simp [go_sem]
  have ls : w.heap.size < W0.heap.size := by rw [← hW]; simp
  have B0 := Lib.hid (show Below w.heap.size w W0 from by rw [← hW]; exact (Below.refl _ _).alloc (Nat.le_refl _) _)
  have HZ := Lib.hid (hz.below B0.out)
  obtain ⟨G, hG⟩ : ∃ G, w.heap.size = G := ⟨_, rfl⟩
  rw [hG] at s0 s1 ls ⊢
  clear hW hG hz
  refine (StoreOk_any A cap zs now _ HZ.out hl HS.out).mono ?_
  rw [HSB.out]
  rintro e w1 ⟨rfl, hb⟩
  replace s0 := cellBelow hb ls s0
  replace s1 := cellBelow hb ls s1
  have Z1 := Lib.hid (HZ.out.below hb)
  have B1 := Lib.hid (B0.out.trans (hb.mono B0.out.size))
  clear hb HZ B0 ls
  cases sb
  · have HE := Lib.hid (show r = -1 from by rw [← HR.out, storeLastL, if_neg (by rw [HSB.out]; simp)])
    go_wp2
    go_ret
    exact ⟨by rw [HE.out]; rfl, B1.out⟩
  · have HE := Lib.hid (show r = lastTo zs key zs.length from by rw [← HR.out, storeLastL, if_pos HSB.out])
    go_wp2
    clear s0 s1
    go_loopw [5, 14] (fun a i wr => ∃ k : Nat, k ≤ zs.length ∧ i = .int .i64 k ∧ a = .int .i64 (lastTo zs key k) ∧ Below w1.heap.size w1 wr) (fun _ i _ => zs.length - (intOf i).toNat)
    case atStart => exact ⟨0, Nat.zero_le _, rfl, rfl, Below.refl _ _⟩
    case round =>
      obtain ⟨k, hk, rfl, rfl, hbr⟩ := hrel
      by_cases hlt : k < zs.length
      · obtain ⟨b, off, x, rfl, hb, hx, c0, c1, c2, c3, c4, c5⟩ := (Z1.out.below hbr).at_ hlt
        have HT := Lib.hid (lastTo_succ (key := key) hx)
        have hbd := last_bd key HSB.out k
        have hvi := ver_in HSB.out (List.mem_of_getElem? hx)
        obtain ⟨a, ha⟩ : ∃ a, lastTo zs key k = a := ⟨_, rfl⟩
        rw [ha] at HT hbd ⊢
        have hkz : (k : Int) < (zs.length : Int) := by omega
        have hkz0 : (0 : Int) ≤ (k : Int) := by omega
        have hs5 := hbr.size
        clear hx ha
        cases hkk : (x.r.k.toList == key.toList)
        · rw [stepL, hkk, if_neg (by simp)] at HT
          have B2 := Lib.hid (hbr.alloc hs5 (Obj.cells #[.string x.r.k, .string x.r.t, .int .i64 x.r.f, .int .i64 x.r.e, .int .i64 x.i, .int .i64 x.o] 74))
          go_wp2
          go_roundw
          case rel => exact ⟨k + 1, by omega, by go_num, by rw [HT.out], B2.out⟩
          case measure => simp [intOf]; omega
        · rw [stepL, hkk, if_pos rfl] at HT
          go_wp2_with fail
          generalize hW1 : wr.alloc _ = W1
          have hBW : Below wr.heap.size wr W1 := by rw [← hW1]; exact (Below.refl _ _).alloc (Nat.le_refl _) _
          refine (changed_any x _).mono ?_
          rintro e w2 ⟨rfl, hb2⟩
          have B2 := Lib.hid (hbr.trans ((hBW.trans (hb2.mono hBW.size)).mono hbr.size))
          clear hW1 hBW hb2 hbr c0 c1 c2 c3 c4 c5
          obtain ⟨q, hq⟩ : ∃ q, chgL x = q := ⟨_, rfl⟩
          have hqb : 0 ≤ q ∧ q ≤ 999 := by rw [← hq]; unfold chgL; split <;> omega
          rw [hq] at HT ⊢
          clear hq
          by_cases haq : a ≤ q
          · go_wp2
            go_roundw
            case rel => exact ⟨k + 1, by omega, by go_num, by rw [HT.out], B2.out⟩
            case measure => simp [intOf]; omega
          · have haq' : q < a := by omega
            go_wp2
            go_roundw
            case rel => exact ⟨k + 1, by omega, by go_num, by rw [HT.out], B2.out⟩
            case measure => simp [intOf]; omega
      · obtain rfl : k = zs.length := by omega
        have BZ := Lib.hid (B1.out.trans (hbr.mono B1.out.size))
        clear hbr
        go_wp2
        go_ret
        exact ⟨by rw [HE.out]; rfl, BZ.out⟩

set_option maxRecDepth 100000 in
set_option maxHeartbeats 4000000 in
theorem sStoreLast_any (A : Option Addr) (cap : Nat) (zs : List VerV) (now : Int) (key : ByteArray) (w : World) (hz : VersA w A zs) (hl : zs.length ≤ 1048576) (hs : ShortV zs) :
    Calls Try.prog 42 #[.agg #[.int .i64 now, .slice A zs.length cap], .string key] w fun e w' => e = .returned (.int .i64 (storeLastL zs now key)) ∧ Below w.heap.size w w' := by
  have HS := Lib.hid hs
  clear hs
  obtain ⟨sb, hsb⟩ : ∃ sb, storeB zs now = sb := ⟨_, rfl⟩
  have HSB := Lib.hid hsb
  obtain ⟨r, hr⟩ : ∃ r, storeLastL zs now key = r := ⟨_, rfl⟩
  have HR := Lib.hid hr
  rw [hr]
  clear hsb hr
  go_enter Try.func42, Try.ntmps42
  go_wp2_with fail
  generalize hW : w.alloc _ = W0
  have s0 : W0.cell? ⟨w.heap.size, 0, none⟩ = some (.int .i64 now) := by rw [← hW]; simp [go_sem]
  have s1 : W0.cell? ⟨w.heap.size, 1, none⟩ = some (.slice A zs.length cap) := by rw [← hW]; simp [go_sem]
  have ls : w.heap.size < W0.heap.size := by rw [← hW]; simp
  have B0 := Lib.hid (show Below w.heap.size w W0 from by rw [← hW]; exact (Below.refl _ _).alloc (Nat.le_refl _) _)
  have HZ := Lib.hid (hz.below B0.out)
  obtain ⟨G, hG⟩ : ∃ G, w.heap.size = G := ⟨_, rfl⟩
  rw [hG] at s0 s1 ls ⊢
  clear hW hG hz
  refine (l5Ok_any A cap zs now _ HZ.out hl HS.out).mono ?_
  rw [HSB.out]
  rintro e w1 ⟨rfl, hb⟩
  replace s0 := cellBelow hb ls s0
  replace s1 := cellBelow hb ls s1
  have Z1 := Lib.hid (HZ.out.below hb)
  have B1 := Lib.hid (B0.out.trans (hb.mono B0.out.size))
  clear hb HZ B0 ls
  cases sb
  · have HE := Lib.hid (show r = -1 from by rw [← HR.out, storeLastL, if_neg (by rw [HSB.out]; simp)])
    go_wp2
    go_ret
    exact ⟨by rw [HE.out]; rfl, B1.out⟩
  · have HE := Lib.hid (show r = lastTo zs key zs.length from by rw [← HR.out, storeLastL, if_pos HSB.out])
    go_wp2
    have S1 := Lib.hid s1
    have ls1 : G < w1.heap.size := World.block_lt_of_cell? _ _ s1
    clear s0 s1
    go_loopw [5, 6] (fun a i wr => ∃ k : Nat, k ≤ zs.length ∧ i = .int .i64 k ∧ a = .int .i64 (lastTo zs key k) ∧ Below w1.heap.size w1 wr) (fun _ i _ => zs.length - (intOf i).toNat)
    case atStart => exact ⟨0, Nat.zero_le _, rfl, rfl, Below.refl _ _⟩
    case round =>
      obtain ⟨k, hk, rfl, rfl, hbr⟩ := hrel
      have g1 := cellBelow hbr ls1 S1.out
      by_cases hlt : k < zs.length
      · obtain ⟨b, off, x, rfl, hb, hx, c0, c1, c2, c3, c4, c5⟩ := (Z1.out.below hbr).at_ hlt
        have HT := Lib.hid (lastTo_succ (key := key) hx)
        have hbd := last_bd key HSB.out k
        have hvi := ver_in HSB.out (List.mem_of_getElem? hx)
        obtain ⟨a, ha⟩ : ∃ a, lastTo zs key k = a := ⟨_, rfl⟩
        rw [ha] at HT hbd ⊢
        have hkz : (k : Int) < (zs.length : Int) := by omega
        have hkz0 : (0 : Int) ≤ (k : Int) := by omega
        have hs5 := hbr.size
        have B2 := Lib.hid (hbr.alloc hs5 (Obj.cells #[.string x.r.k, .string x.r.t, .int .i64 x.r.f, .int .i64 x.r.e, .int .i64 x.i, .int .i64 x.o] 74))
        clear hx ha
        cases hkk : (x.r.k.toList == key.toList)
        · rw [stepL, hkk, if_neg (by simp)] at HT
          go_wp2
          go_roundw
          case rel => exact ⟨k + 1, by omega, by go_num, by rw [HT.out], B2.out⟩
          case measure => simp [intOf]; omega
        · rw [stepL, hkk, if_pos rfl] at HT
          by_cases h9 : x.o = 999
          · rw [chgL, if_pos h9] at HT
            have h9a : (x.o == 999) = true := by simpa using h9
            have h9b : (x.o != 999) = false := by simpa using h9
            clear h9
            by_cases hia : a < x.i
            · have HM := Lib.hid (show max a x.i = x.i by omega)
              go_wp2
              go_roundw
              case rel => exact ⟨k + 1, by omega, by go_num, by rw [HT.out, HM.out], B2.out⟩
              case measure => simp [intOf]; omega
            · have HM := Lib.hid (show max a x.i = a by omega)
              have hia' : x.i ≤ a := by omega
              clear hia
              go_wp2
              go_roundw
              case rel => exact ⟨k + 1, by omega, by go_num, by rw [HT.out, HM.out], B2.out⟩
              case measure => simp [intOf]; omega
          · rw [chgL, if_neg h9] at HT
            have h9a : (x.o == 999) = false := by simpa using h9
            have h9b : (x.o != 999) = true := by simpa using h9
            clear h9
            by_cases hia : a < x.i
            · have HM := Lib.hid (show max a x.o = x.o by omega)
              have hio : x.i < x.o := by omega
              go_wp2
              go_roundw
              case rel => exact ⟨k + 1, by omega, by go_num, by rw [HT.out, HM.out], B2.out⟩
              case measure => simp [intOf]; omega
            · have hia' : x.i ≤ a := by omega
              clear hia
              by_cases hoa : a < x.o
              · have HM := Lib.hid (show max a x.o = x.o by omega)
                go_wp2
                go_roundw
                case rel => exact ⟨k + 1, by omega, by go_num, by rw [HT.out, HM.out], B2.out⟩
                case measure => simp [intOf]; omega
              · have HM := Lib.hid (show max a x.o = a by omega)
                have hoa' : x.o ≤ a := by omega
                clear hoa
                go_wp2
                go_roundw
                case rel => exact ⟨k + 1, by omega, by go_num, by rw [HT.out, HM.out], B2.out⟩
                case measure => simp [intOf]; omega
      · obtain rfl : k = zs.length := by omega
        have BZ := Lib.hid (B1.out.trans (hbr.mono B1.out.size))
        clear hbr
        go_wp2
        go_ret
        exact ⟨by rw [HE.out]; rfl, BZ.out⟩
end Go.Proofs.Ytacddgipcafdlaa
