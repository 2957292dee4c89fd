/-
  Walks: when a version is ok, when it holds, when versions are.
-/
import Derived.Test.YtacddgipcafdlaaRowW
import Derived.Test.YtacddgipcafdlaaRowT
import Derived.Test.YtacddgipcafdlaaVerT
import Derived.Test.YtacddgipcafdlaaRowS
import Derived.Test.YtacddgipcafdlaaStoreD
import Derived.Test.YtacddgipcafdlaaRelS
namespace Go.Proofs.Ytacddgipcafdlaa
open Go.RowKit

def inTab (t : Int) : Bool := decide (0 ≤ t ∧ t ≤ 1)
def delOk (r : RowV) : Bool := wordB r.k && decide (r.t.size = 0) && okSpan r.f r.e
def opOk (k t : Int) (r : RowV) : Bool := inTab t && (if k = 2 then delOk r else decide (k = 1 ∨ k = 3 ∨ k = 4) && rowOk r)
theorem opOk_no {k t : Int} {r : RowV} (h : inTab t = false) : opOk k t r = false := by simp [opOk, h]
theorem opOk_del {k t : Int} {r : RowV} (h : inTab t = true) (hk : k = 2) : opOk k t r = delOk r := by simp [opOk, h, hk]
theorem opOk_row {k t : Int} {r : RowV} (h : inTab t = true) (hk : k = 1 ∨ k = 3 ∨ k = 4) : opOk k t r = rowOk r := by
  have : ¬ k = 2 := by omega
  simp [opOk, h, hk, this]
theorem opOk_none {k t : Int} {r : RowV} (h1 : ¬ k = 1) (h2 : ¬ k = 2) (h3 : ¬ k = 3) (h4 : ¬ k = 4) : opOk k t r = false := by simp [opOk, h1, h2, h3, h4]

/-- What szRow tells of a row. -/
def szL (r : RowV) (left : Int) : Int := if left - r.k.size < 0 then -1 else if left - r.k.size - r.t.size < 0 then -1 else left - r.k.size - r.t.size
theorem szL_or (r : RowV) (left : Int) : szL r left = -1 ∨ (0 ≤ szL r left ∧ szL r left ≤ left) := by
  unfold szL
  split
  · exact .inl rfl
  · split
    · exact .inl rfl
    · exact .inr ⟨by omega, by omega⟩

theorem empty_text {s : ByteArray} (h : ¬ s.size = 0) : (s.toList == (⟨#[]⟩ : ByteArray).toList) = false ∧ s.toList.isEmpty = false := by
  have h1 : (s.toList == (⟨#[]⟩ : ByteArray).toList) = false := by
    cases he : (s.toList == (⟨#[]⟩ : ByteArray).toList) with
    | false => rfl
    | true =>
      rw [beq_iff_eq, ByteArray.toList_eq, ByteArray.toList_eq] at he
      have h4 : s = ⟨#[]⟩ := by rw [ByteArray.ext_iff]; exact Array.ext' he
      exact absurd (by rw [h4]; rfl) h
  refine ⟨h1, ?_⟩
  cases he : s.toList with
  | nil => rw [he] at h1; simp [go_sem] at h1
  | cons a l => rfl
theorem size_nil {s : ByteArray} (h : s.size = 0) : s = ⟨#[]⟩ := by
  cases s with
  | mk d => simp [ByteArray.size] at h; subst h; rfl

theorem in_val (t : Int) (w : World) (v : Bool) (h : inTab t = v) :
    Calls Try.prog 106 #[.int .i64 t, .int .i64 0, .int .i64 1] w fun e w' => e = .returned (.bool v) ∧ w = w' := by
  subst h; exact in_any t 0 1 w
theorem rowS_val (r : RowV) (w : World) (v : Bool) (hk : r.k.size ≤ maxLen) (ht : r.t.size ≤ maxLen) (h : rowOk r = v) :
    Calls Try.prog 105 #[.agg #[.string r.k, .string r.t, .int .i64 r.f, .int .i64 r.e]] w fun e w' => e = .returned (.bool v) ∧ Below w.heap.size w w' := by
  subst h; exact l2RowOk_any r w hk ht

end Go.Proofs.Ytacddgipcafdlaa
namespace Go.Proofs.Ytacddgipcafdlaa
open Go.RowKit

set_option maxHeartbeats 1000000 in
theorem szVer_any (x : VerV) (left : Int) (w : World) (h0 : 0 ≤ left) (h1 : left ≤ 1048576) (hk : x.r.k.size ≤ maxLen) (ht : x.r.t.size ≤ maxLen) :
    Calls Try.prog 104 #[.agg #[.string x.r.k, .string x.r.t, .int .i64 x.r.f, .int .i64 x.r.e, .int .i64 x.i, .int .i64 x.o], .int .i64 left] w fun e w' => e = .returned (.int .i64 (szL x.r left)) ∧ Below w.heap.size w w' := by
  have hor := szL_or x.r left
  obtain ⟨u, hu⟩ : ∃ u, szL x.r left = u := ⟨_, rfl⟩
  rw [hu] at hor ⊢
  have HU := Lib.hid hu
  clear hu
  go_enter Try.func104, Try.ntmps104
  go_wp2_with fail
  refine (szRow_any x.r left _ h0 h1 hk ht).mono ?_
  rintro e w1 ⟨rfl, hb⟩
  rw [show (if left - (x.r.k.size : Int) < 0 then (-1 : Int) else if left - (x.r.k.size : Int) - x.r.t.size < 0 then -1 else left - x.r.k.size - x.r.t.size) = u from HU.out]
  have HB := Lib.hid (((Below.refl _ _).alloc (Nat.le_refl _) _).trans (hb.mono (by simp)))
  clear hb
  rcases hor with rfl | ⟨hu0, hu1⟩
  · go_wp2
    go_ret
    exact ⟨rfl, HB.out⟩
  · go_wp2
    go_ret
    exact ⟨rfl, HB.out⟩

set_option maxHeartbeats 1000000 in
theorem eqVer_same (x : VerV) (w : World) :
    Calls Try.prog 102 #[.agg #[.string x.r.k, .string x.r.t, .int .i64 x.r.f, .int .i64 x.r.e, .int .i64 x.i, .int .i64 x.o], .agg #[.string x.r.k, .string x.r.t, .int .i64 x.r.f, .int .i64 x.r.e, .int .i64 x.i, .int .i64 x.o]] w fun e w' => e = .returned (.bool true) ∧ Below w.heap.size w w' := by
  go_enter Try.func102, Try.ntmps102
  go_wp2_with fail
  generalize hW : (w.alloc _).alloc _ = W0
  have hB : Below w.heap.size w W0 := by rw [← hW]; exact ((Below.refl _ _).alloc (Nat.le_refl _) _).alloc (by simp) _
  have a4 : W0.cell? ⟨w.heap.size, 4, none⟩ = some (.int .i64 x.i) := by rw [← hW]; simp [go_sem]
  have a5 : W0.cell? ⟨w.heap.size, 5, none⟩ = some (.int .i64 x.o) := by rw [← hW]; simp [go_sem]
  have b4 : W0.cell? ⟨w.heap.size + 1, 4, none⟩ = some (.int .i64 x.i) := by rw [← hW]; simp [go_sem]
  have b5 : W0.cell? ⟨w.heap.size + 1, 5, none⟩ = some (.int .i64 x.o) := by rw [← hW]; simp [go_sem]
  have hs : w.heap.size + 1 < W0.heap.size := by rw [← hW]; simp
  clear hW
  refine (eqRow_same x.r _).mono ?_
  rintro e w1 ⟨rfl, hb⟩
  replace a4 := cellBelow hb (by omega) a4
  replace a5 := cellBelow hb (by omega) a5
  replace b4 := cellBelow hb hs b4
  replace b5 := cellBelow hb hs b5
  have HB := Lib.hid (hB.trans (hb.mono hB.size))
  clear hb hB
  go_wp2
  go_ret
  exact ⟨rfl, HB.out⟩

set_option maxRecDepth 100000 in
set_option maxHeartbeats 1000000 in
theorem szVerS_any (A : Option Addr) (cap : Nat) (zs : List VerV) (left : Int) (w : World) (h0 : 0 ≤ left) (h1 : left ≤ 1048576) (hz : VersA w A zs) (hn : zs.length ≤ maxLen) (hs : ∀ r ∈ zs, r.r.k.size ≤ maxLen ∧ r.r.t.size ≤ maxLen) :
    Calls Try.prog 69 #[.slice A zs.length cap, .int .i64 left] w (SzPost left zs.length w) := by
  unfold maxLen at hn
  have HZ := Lib.hid hz
  have HS := Lib.hid hs
  clear hz hs
  by_cases h : left - zs.length < 0
  · go_enter Try.func69, Try.ntmps69
    go_wp2
    go_ret
    exact ⟨-1, rfl, .inl rfl, Below.refl _ _⟩
  · go_enter Try.func69, Try.ntmps69
    go_wp2
    go_loopw [1, 5] (fun lv i wr => ∃ (k : Nat) (v : Int), k ≤ zs.length ∧ i = .int .i64 k ∧ lv = .int .i64 v ∧ 0 ≤ v ∧ v ≤ left ∧ Below w.heap.size w wr) (fun _ i _ => zs.length - (intOf i).toNat)
    case atStart => exact ⟨0, _, Nat.zero_le _, rfl, rfl, by omega, by omega, Below.refl _ _⟩
    case round =>
      obtain ⟨k, v, hk, rfl, rfl, hv0, hv1, hbr⟩ := hrel
      by_cases hlt : k < zs.length
      · obtain ⟨b, off, x, rfl, hb, hx, c0, c1, c2, c3, c4, c5⟩ := (HZ.out.below hbr).at_ hlt
        have hm := HS.out x (List.mem_of_getElem? hx)
        clear hx
        go_wp2_with fail
        refine (szVer_any x _ _ (by omega) (by omega) hm.1 hm.2).mono ?_
        rintro e w2 ⟨rfl, hb2⟩
        have B2 := Lib.hid (hbr.trans (hb2.mono hbr.size))
        clear hb2 hbr c0 c1 c2 c3 c4 c5
        have hu := szL_or x.r v
        obtain ⟨u, hleft⟩ : ∃ u, szL x.r v = u := ⟨_, rfl⟩
        rw [hleft] at hu ⊢
        clear hleft
        rcases hu with rfl | ⟨hu0, hu1⟩
        · go_wp2
          go_ret
          exact ⟨-1, rfl, .inl rfl, B2.out⟩
        · go_wp2
          go_roundw
          case rel => exact ⟨k + 1, u, by omega, by go_num, rfl, hu0, by omega, B2.out⟩
          case measure => simp [intOf]; omega
      · go_wp2
        go_ret
        exact ⟨v, rfl, .inr ⟨hv0, hv1, by omega⟩, hbr⟩

set_option maxRecDepth 100000 in
set_option maxHeartbeats 1000000 in
theorem eqVerS_same (A B : Option Addr) (cap cap' : Nat) (zs : List VerV) (w : World) (hz : VersA w A zs) (hz' : VersA w B zs) (hl : zs.length ≤ maxLen) :
    Calls Try.prog 64 #[.slice A zs.length cap, .slice B zs.length cap'] w fun e w' => e = .returned (.bool true) ∧ Below w.heap.size w w' := by
  unfold maxLen at hl
  have HZ := Lib.hid hz
  have HZ' := Lib.hid hz'
  clear hz hz'
  go_enter Try.func64, Try.ntmps64
  go_wp2
  go_loopw [5] (fun i wr => ∃ k : Nat, k ≤ zs.length ∧ i = .int .i64 k ∧ Below w.heap.size w wr) (fun i _ => zs.length - (intOf i).toNat)
  case atStart => exact ⟨0, Nat.zero_le _, rfl, Below.refl _ _⟩
  case round =>
    obtain ⟨k, hk, rfl, hbr⟩ := hrel
    by_cases hlt : k < zs.length
    · obtain ⟨b, off, x, rfl, hb, hx, c0, c1, c2, c3, c4, c5⟩ := (HZ.out.below hbr).at_ hlt
      obtain ⟨b', off', x', rfl, hb', hx', d0, d1, d2, d3, d4, d5⟩ := (HZ'.out.below hbr).at_ hlt
      obtain rfl : x' = x := by rw [hx] at hx'; injection hx' with h; exact h.symm
      clear hx hx'
      go_wp2_with fail
      refine wp_region_later (by kernel_rfl) (by kernel_rfl) ?_
      intro f hf1 hf2 hfc
      repeat (go_big_quiet_step ((go_at_call 102; exact calls_later hf1 hf2 (eqVer_same _ _))))
      refine wpQuiet_nil ?_
      rintro _ ⟨v, rfl⟩
      have Hv := Lib.hid (hbr.trans ((hf1.out v).mono hbr.size))
      clear hfc
      go_wp2
      go_roundw
      case rel => exact ⟨k + 1, by omega, by go_num, Hv.out⟩
      case measure => simp [intOf]; omega
    · go_wp2
      go_ret
      exact ⟨rfl, hbr⟩

theorem Try.infoV74 : (Try.prog.info? 74).map (fun i => (i.zero, i.size, i.bytes)) = some (some (.agg #[.string ⟨#[]⟩, .string ⟨#[]⟩, .int .i64 0, .int .i64 0, .int .i64 0, .int .i64 0]), 6, 64) := by kernel_rfl

set_option maxRecDepth 100000 in
set_option maxHeartbeats 2000000 in
theorem toVerS_any (A : Option Addr) (cap : Nat) (zs : List VerV) (w : World) (hz : VersA w A zs) (hl : zs.length ≤ 1048577) :
    Calls Try.prog 73 #[.slice A zs.length cap] w (GetsE verC 6 74 w zs) := by
  obtain ⟨i0, hi, hz0, hz1, hz2⟩ := info_parts Try.infoV74
  have hi16 : i0.bytes * zs.length ≤ 281474976710656 := by rw [hz2]; omega
  have hml : zs.length ≤ maxLen := by unfold maxLen; omega
  have HZ := Lib.hid hz
  clear hz
  go_enter Try.func73, Try.ntmps73
  go_wp2_with (at_make; refine wpList_make_full _ rfl _ _ 24 rfl w.heap.size 74 i0 _ 6 Try.underlying24 hi hz0 hz1 .i64 .i64 _ _ zs.length rfl rfl rfl rfl hi16 hml (Nat.le_refl _) ?_; intro w1 hown hgrow)
  have hown0 : w1.ownsRow w.heap.size 74 6 (.slice (some ⟨w.heap.size, 0, none⟩) zs.length zs.length) zs.length (flatOf verC (doneE ver0 zs 0)) := by rw [doneE_zero, ← made_flatOf verC_len (by omega) ver0 _ rfl]; exact hown
  have HO := Lib.hid hown0
  have HB := Lib.hid ((Below.refl w.heap.size w).grown hgrow (Nat.le_refl _) (fun k hk => by cases hk))
  clear hown hown0 hgrow hi hz0 hz1 hz2 hi16
  go_loopw [4] (fun i wr => ∃ k : Nat, k ≤ zs.length ∧ i = .int .i64 k ∧ wr.ownsRow w.heap.size 74 6 (.slice (some ⟨w.heap.size, 0, none⟩) zs.length zs.length) zs.length (flatOf verC (doneE ver0 zs k)) ∧ Below w.heap.size w wr) (fun i _ => zs.length - (intOf i).toNat)
  case atStart => exact ⟨0, Nat.zero_le _, rfl, HO.out, HB.out⟩
  case round =>
    obtain ⟨k, hk, rfl, hown, hbr⟩ := hrel
    have Hown := Lib.hid hown
    have hgl : w.heap.size < wr.heap.size := (hown.lt w.heap.size rfl).2
    clear hown HO HB
    by_cases hlt : k < zs.length
    · obtain ⟨b, off, x, rfl, hb, hx, c0, c1, c2, c3, c4, c5⟩ := (HZ.out.below hbr).at_ hlt
      have Hset := Lib.hid (doneE_set ver0 zs k x hx)
      have Hget := Lib.hid (doneE_get ver0 zs k hlt)
      clear hx
      go_wp2_with fail
      refine (toVer_any x _).mono ?_
      rintro e w2 ⟨rfl, hb2⟩
      have hown2 := ownsKeep Hown.out hb2
      have hd : (doneE ver0 zs k).length = zs.length := doneE_length ver0 zs k hk
      have e0 : w2.cell? ⟨w.heap.size, k * 6, none⟩ = some (.string ⟨#[]⟩) := by
        rw [hown2.cellAt (k * 6) (by omega)]; exact flatOf_get verC_len _ k ver0 0 Hget.out (by omega)
      have e1 : w2.cell? ⟨w.heap.size, k * 6 + 1, none⟩ = some (.string ⟨#[]⟩) := by
        rw [hown2.cellAt (k * 6 + 1) (by omega)]; exact flatOf_get verC_len _ k ver0 1 Hget.out (by omega)
      have e2 : w2.cell? ⟨w.heap.size, k * 6 + 2, none⟩ = some (.int .i64 0) := by
        rw [hown2.cellAt (k * 6 + 2) (by omega)]; exact flatOf_get verC_len _ k ver0 2 Hget.out (by omega)
      have e3 : w2.cell? ⟨w.heap.size, k * 6 + 3, none⟩ = some (.int .i64 0) := by
        rw [hown2.cellAt (k * 6 + 3) (by omega)]; exact flatOf_get verC_len _ k ver0 3 Hget.out (by omega)
      have e4 : w2.cell? ⟨w.heap.size, k * 6 + 4, none⟩ = some (.int .i64 0) := by
        rw [hown2.cellAt (k * 6 + 4) (by omega)]; exact flatOf_get verC_len _ k ver0 4 Hget.out (by omega)
      have e5 : w2.cell? ⟨w.heap.size, k * 6 + 5, none⟩ = some (.int .i64 0) := by
        rw [hown2.cellAt (k * 6 + 5) (by omega)]; exact flatOf_get verC_len _ k ver0 5 Hget.out (by omega)
      have f0 := hown2.frozenAt (k * 6)
      have f1 := hown2.frozenAt (k * 6 + 1)
      have f2 := hown2.frozenAt (k * 6 + 2)
      have f3 := hown2.frozenAt (k * 6 + 3)
      have f4 := hown2.frozenAt (k * 6 + 4)
      have f5 := hown2.frozenAt (k * 6 + 5)
      have s0 := hown2.stored (k * 6) (.string x.r.k)
      have s1 := s0.1.stored (k * 6 + 1) (.string x.r.t)
      have s2 := s1.1.stored (k * 6 + 2) (.int .i64 x.r.f)
      have s3 := s2.1.stored (k * 6 + 3) (.int .i64 x.r.e)
      have s4 := s3.1.stored (k * 6 + 4) (.int .i64 x.i)
      have s5 := s4.1.stored (k * 6 + 5) (.int .i64 x.o)
      have hset : (((((((flatOf verC (doneE ver0 zs k)).set (k * 6) (.string x.r.k)).set (k * 6 + 1) (.string x.r.t)).set (k * 6 + 2) (.int .i64 x.r.f)).set (k * 6 + 3) (.int .i64 x.r.e)).set (k * 6 + 4) (.int .i64 x.i)).set (k * 6 + 5) (.int .i64 x.o)) = flatOf verC (doneE ver0 zs (k + 1)) := by
        have := flatOf_set verC_len x (doneE ver0 zs k) k (by omega)
        rw [Hset.out] at this
        exact this
      have t3 := s5.1
      rw [hset] at t3
      have HS := Lib.hid t3
      have HB := Lib.hid (((((((hbr.trans (hb2.mono (by omega))).setCell (p := ⟨w.heap.size, k * 6, none⟩) (Nat.le_refl _) (.string x.r.k)).setCell (p := ⟨w.heap.size, k * 6 + 1, none⟩) (Nat.le_refl _) (.string x.r.t)).setCell (p := ⟨w.heap.size, k * 6 + 2, none⟩) (Nat.le_refl _) (.int .i64 x.r.f)).setCell (p := ⟨w.heap.size, k * 6 + 3, none⟩) (Nat.le_refl _) (.int .i64 x.r.e)).setCell (p := ⟨w.heap.size, k * 6 + 4, none⟩) (Nat.le_refl _) (.int .i64 x.i)).setCell (p := ⟨w.heap.size, k * 6 + 5, none⟩) (Nat.le_refl _) (.int .i64 x.o))
      clear s0 s1 s2 s3 s4 s5 t3 hset hown2 hd hb2
      go_wp2
      go_roundw
      case rel => exact ⟨k + 1, by omega, by go_num, HS.out, HB.out⟩
      case measure => simp [intOf]; omega
    · go_wp2
      go_ret
      obtain rfl : k = zs.length := by omega
      have := Hown.out
      rw [doneE_all] at this
      exact ⟨_, zs.length, rfl, this, hbr⟩
end Go.Proofs.Ytacddgipcafdlaa
namespace Go.Proofs.Ytacddgipcafdlaa
open Go.RowKit Go.Lib

set_option maxHeartbeats 1000000 in
theorem current_any (x : VerV) (w : World) : Calls Try.prog 100 #[.agg #[.string x.r.k, .string x.r.t, .int .i64 x.r.f, .int .i64 x.r.e, .int .i64 x.i, .int .i64 x.o]] w fun e w' => e = .returned (.bool (decide (x.o = 999))) ∧ Below w.heap.size w w' := by
  by_cases h : x.o = 999
  · go_enter Try.func100, Try.ntmps100
    go_wp2
    go_ret
    exact ⟨ret_bool (by simp [h]), (Below.refl _ _).alloc (Nat.le_refl _) _⟩
  · have hb : (x.o == 999) = false := by simpa using h
    go_enter Try.func100, Try.ntmps100
    go_wp2
    go_ret
    exact ⟨ret_bool (by simp [h]), (Below.refl _ _).alloc (Nat.le_refl _) _⟩
set_option maxHeartbeats 1000000 in
theorem verLive_any (x : VerV) (s : Int) (w : World) : Calls Try.prog 111 #[.agg #[.string x.r.k, .string x.r.t, .int .i64 x.r.f, .int .i64 x.r.e, .int .i64 x.i, .int .i64 x.o], .int .i64 s] w fun e w' => e = .returned (.bool (liveB s x)) ∧ Below w.heap.size w w' := by
  go_enter Try.func111, Try.ntmps111
  go_wp2
  all_goals go_ret
  all_goals refine ⟨ret_bool ?_, (Below.refl _ _).alloc (Nat.le_refl _) _⟩
  all_goals (unfold liveB; first | (rw [decide_eq_decide]; omega) | (rw [eq_comm, decide_eq_true_iff]; omega) | (rw [eq_comm, decide_eq_false_iff_not]; omega) | (rw [Bool.eq_iff_iff]; simp; omega))

def stampB (now : Int) (x : VerV) : Bool := decide (1 ≤ x.i ∧ x.i ≤ now ∧ x.i < x.o ∧ (x.o ≤ now ∨ x.o = 999))
theorem verB_eq (now : Int) (x : VerV) : verB now x = (rowOk x.r && stampB now x) := rfl

set_option maxRecDepth 100000 in
set_option maxHeartbeats 2000000 in
theorem verOk_any (x : VerV) (now : Int) (w : World) (hk : x.r.k.size ≤ maxLen) (ht : x.r.t.size ≤ maxLen) :
    Calls Try.prog 124 #[.agg #[.string x.r.k, .string x.r.t, .int .i64 x.r.f, .int .i64 x.r.e, .int .i64 x.i, .int .i64 x.o], .int .i64 now] w fun e w' => e = .returned (.bool (verB now x)) ∧ Below w.heap.size w w' := by
  have HVB := Lib.hid (verB_eq now x)
  obtain ⟨ro, hro⟩ : ∃ ro, rowOk x.r = ro := ⟨_, rfl⟩
  have HRO := Lib.hid hro
  obtain ⟨sb, hsb⟩ : ∃ sb, stampB now x = sb := ⟨_, rfl⟩
  have HSB := Lib.hid hsb
  obtain ⟨vb, hvb⟩ : ∃ vb, verB now x = vb := ⟨_, rfl⟩
  rw [hvb]
  rw [hvb, hro, hsb] at HVB
  clear hro hsb hvb
  go_enter Try.func124, Try.ntmps124
  go_wp2_with fail
  generalize hW : w.alloc _ = W0
  have a4 : W0.cell? ⟨w.heap.size, 4, none⟩ = some (.int .i64 x.i) := by rw [← hW]; simp [go_sem]
  have a5 : W0.cell? ⟨w.heap.size, 5, none⟩ = some (.int .i64 x.o) := by rw [← hW]; simp [go_sem]
  have a0 : W0.cell? ⟨w.heap.size, 0, none⟩ = some (.string x.r.k) := by rw [← hW]; simp [go_sem]
  have a1 : W0.cell? ⟨w.heap.size, 1, none⟩ = some (.string x.r.t) := by rw [← hW]; simp [go_sem]
  have a2 : W0.cell? ⟨w.heap.size, 2, none⟩ = some (.int .i64 x.r.f) := by rw [← hW]; simp [go_sem]
  have a3 : W0.cell? ⟨w.heap.size, 3, none⟩ = some (.int .i64 x.r.e) := by rw [← hW]; simp [go_sem]
  have hs : w.heap.size < W0.heap.size := by rw [← hW]; simp
  have B0 := Lib.hid (show Below w.heap.size w W0 from by rw [← hW]; exact (Below.refl _ _).alloc (Nat.le_refl _) _)
  obtain ⟨G, hG⟩ : ∃ G, w.heap.size = G := ⟨_, rfl⟩
  rw [hG] at a0 a1 a2 a3 a4 a5 hs ⊢
  clear hW hG
  refine (rowOkM_val x.r _ ro hk ht HRO.out).mono ?_
  rintro e w1 ⟨rfl, hb⟩
  replace a0 := cellBelow hb hs a0
  replace a1 := cellBelow hb hs a1
  replace a2 := cellBelow hb hs a2
  replace a3 := cellBelow hb hs a3
  replace a4 := cellBelow hb hs a4
  replace a5 := cellBelow hb hs a5
  have B1 := Lib.hid (B0.out.trans (hb.mono B0.out.size))
  clear hb B0 hs
  cases ro
  · obtain rfl : vb = false := by rw [HVB.out]; rfl
    go_wp2
    go_ret
    exact ⟨rfl, B1.out⟩
  · obtain rfl : vb = sb := by rw [HVB.out]; rfl
    go_wp2_with (go_at_call 100; refine (current_any x _).mono ?_; rintro e w2 ⟨rfl, hb2⟩)
    all_goals go_ret
    all_goals refine ⟨ret_bool ?_, ?_⟩
    all_goals first
      | exact B1.out
      | exact B1.out.trans (hb2.mono B1.out.size)
      | (rw [← HSB.out]; unfold stampB; first | (rw [decide_eq_decide]; omega) | (rw [eq_comm, decide_eq_true_iff]; omega) | (rw [eq_comm, decide_eq_false_iff_not]; omega) | (rw [Bool.eq_iff_iff]; simp; omega))

theorem verOk_val (x : VerV) (now : Int) (w : World) (v : Bool) (hk : x.r.k.size ≤ maxLen) (ht : x.r.t.size ≤ maxLen) (h : verB now x = v) :
    Calls Try.prog 124 #[.agg #[.string x.r.k, .string x.r.t, .int .i64 x.r.f, .int .i64 x.r.e, .int .i64 x.i, .int .i64 x.o], .int .i64 now] w fun e w' => e = .returned (.bool v) ∧ Below w.heap.size w w' := by
  subst h; exact verOk_any x now w hk ht

set_option maxRecDepth 100000 in
set_option maxHeartbeats 4000000 in
theorem versOk_any (A : Option Addr) (cap : Nat) (zs : List VerV) (now : Int) (w : World) (hz : VersA w A zs) (hl : zs.length ≤ 1048577) (hs : ShortV zs) :
    Calls Try.prog 92 #[.agg #[.int .i64 now, .slice A zs.length cap]] w fun e w' => e = .returned (.bool (versB zs now)) ∧ Below w.heap.size w w' := by
  have HS := Lib.hid hs
  clear hs
  by_cases hlen : zs.length ≤ 120
  · go_enter Try.func92, Try.ntmps92
    go_wp2
    generalize hW : w.alloc _ = W0
    have s0 : W0.cell? ⟨w.heap.size, 0, none⟩ = some (.int .i64 now) := by rw [← hW]; simp [go_sem]
    have s1 : W0.cell? ⟨w.heap.size, 1, none⟩ = some (.slice A zs.length cap) := by rw [← hW]; simp [go_sem]
    have ls : w.heap.size < W0.heap.size := by rw [← hW]; simp
    have B0 := Lib.hid (show Below w.heap.size w W0 from by rw [← hW]; exact (Below.refl _ _).alloc (Nat.le_refl _) _)
    have HZ := Lib.hid (hz.below B0.out)
    obtain ⟨G, hG⟩ : ∃ G, w.heap.size = G := ⟨_, rfl⟩
    rw [hG] at s0 s1 ls ⊢
    have HG := Lib.hid hG
    have S0 := Lib.hid s0
    have S1 := Lib.hid s1
    clear hW hG hz s0 s1
    go_loopw [12] (fun i wr => ∃ k : Nat, k ≤ zs.length ∧ i = .int .i64 k ∧ (∀ j, j < k → verAt zs now j = true) ∧ Below W0.heap.size W0 wr) (fun i _ => zs.length - (intOf i).toNat)
    case atStart => exact ⟨0, Nat.zero_le _, rfl, fun j hj => absurd hj (by omega), Below.refl _ _⟩
    case round =>
      obtain ⟨k, hk, rfl, hall, hbr⟩ := hrel
      have Hall := Lib.hid hall
      clear hall
      by_cases hlt : k < zs.length
      · obtain ⟨b, off, x, rfl, hb, hx, c0, c1, c2, c3, c4, c5⟩ := (HZ.out.below hbr).at_ hlt
        have hm := HS.out x (List.mem_of_getElem? hx)
        have HX := Lib.hid hx
        have hkz : (k : Int) < (zs.length : Int) := by omega
        have hkz0 : (0 : Int) ≤ (k : Int) := by omega
        clear hx
        obtain ⟨bo, hbo⟩ : ∃ bo, verB now x = bo := ⟨_, rfl⟩
        have HBO := Lib.hid hbo
        clear hbo
        go_wp2_with fail
        generalize hW1 : wr.alloc _ = W1
        have v0 : W1.cell? ⟨wr.heap.size, 0, none⟩ = some (.string x.r.k) := by rw [← hW1]; simp [go_sem]
        have v1 : W1.cell? ⟨wr.heap.size, 1, none⟩ = some (.string x.r.t) := by rw [← hW1]; simp [go_sem]
        have v2 : W1.cell? ⟨wr.heap.size, 2, none⟩ = some (.int .i64 x.r.f) := by rw [← hW1]; simp [go_sem]
        have v3 : W1.cell? ⟨wr.heap.size, 3, none⟩ = some (.int .i64 x.r.e) := by rw [← hW1]; simp [go_sem]
        have v4 : W1.cell? ⟨wr.heap.size, 4, none⟩ = some (.int .i64 x.i) := by rw [← hW1]; simp [go_sem]
        have v5 : W1.cell? ⟨wr.heap.size, 5, none⟩ = some (.int .i64 x.o) := by rw [← hW1]; simp [go_sem]
        have hBW : Below wr.heap.size wr W1 := by rw [← hW1]; exact (Below.refl _ _).alloc (Nat.le_refl _) _
        have g0 := cellBelow hBW (Nat.lt_of_lt_of_le ls hbr.size) (cellBelow hbr ls S0.out)
        have g1 := cellBelow hBW (Nat.lt_of_lt_of_le ls hbr.size) (cellBelow hbr ls S1.out)
        have lV : wr.heap.size < W1.heap.size := by rw [← hW1]; simp
        have lG : G < W1.heap.size := by have := hbr.size; omega
        have lb : b < W1.heap.size := by omega
        have BW := Lib.hid (hbr.trans (hBW.mono hbr.size))
        obtain ⟨V, hV⟩ : ∃ V, wr.heap.size = V := ⟨_, rfl⟩
        rw [hV] at v0 v1 v2 v3 v4 v5 lV ⊢
        clear hW1 hV hBW hbr c0 c1 c2 c3 c4 c5 hb
        by_cases hk0 : k = 0
        · have HVA := Lib.hid (verAt_of (now := now) HX.out hk0)
          rw [HBO.out] at HVA
          subst hk0
          cases bo
          · skip
            go_wp2_with fail
            refine wp_region_later (by kernel_rfl) (by kernel_rfl) ?_
            intro f hf1 hf2 hfc
            repeat (go_big_quiet_step ((go_at_call 124; exact calls_later hf1 hf2 (verOk_val x now _ _ hm.1 hm.2 HBO.out))))
            refine wpQuiet_nil ?_
            rintro _ ⟨v, rfl⟩
            have Hv := Lib.hid (BW.out.trans ((hf1.out v).mono BW.out.size))
            clear hfc
            go_wp2
            go_ret
            exact ⟨ret_bool (by rw [versB_no hlt HVA.out]), B0.out.trans (Hv.out.mono B0.out.size)⟩
          · skip
            go_wp2_with fail
            refine wp_region_later (by kernel_rfl) (by kernel_rfl) ?_
            intro f hf1 hf2 hfc
            repeat (go_big_quiet_step ((go_at_call 124; exact calls_later hf1 hf2 (verOk_val x now _ _ hm.1 hm.2 HBO.out))))
            refine wpQuiet_nil ?_
            rintro _ ⟨v, rfl⟩
            have Hv := Lib.hid (BW.out.trans ((hf1.out v).mono BW.out.size))
            clear hfc
            go_wp2
            go_roundw
            case rel => exact ⟨0 + 1, by omega, by go_num, fun j hj => by
              obtain rfl : j = 0 := by omega
              exact HVA.out, Hv.out⟩
            case measure => simp [intOf]; omega
        · obtain ⟨b1, off1, y, e1, _, hy, _, _, _, _, z4, _⟩ := (HZ.out.below BW.out).at_ (show k - 1 < zs.length by omega)
          injection e1 with e1
          injection e1 with e2 e3 _
          subst e2 e3
          have HVA := Lib.hid (verAt_of2 (now := now) HX.out hk0 hy)
          rw [HBO.out] at HVA
          have hkp : (0 : Int) < (k : Int) := by omega
          have hkN : 0 < k := by omega
          have hkp1 : (0 : Int) ≤ (k : Int) - 1 := by omega
          have hkp2 : (k : Int) - 1 < (zs.length : Int) := by omega
          have hkn : ((k : Int) - 1).toNat = k - 1 := by omega
          clear hy
          cases bo
          · skip
            go_wp2_with fail
            refine wp_region_later (by kernel_rfl) (by kernel_rfl) ?_
            intro f hf1 hf2 hfc
            repeat (go_big_quiet_step ((go_at_call 124; exact calls_later hf1 hf2 (verOk_val x now _ _ hm.1 hm.2 HBO.out))))
            refine wpQuiet_nil ?_
            rintro _ ⟨v, rfl⟩
            have Hv := Lib.hid (BW.out.trans ((hf1.out v).mono BW.out.size))
            clear hfc
            go_wp2
            go_ret
            exact ⟨ret_bool (by rw [versB_no hlt (by rw [HVA.out]; rfl)]), B0.out.trans (Hv.out.mono B0.out.size)⟩
          · by_cases hxy : x.i < y.i
            · skip
              go_wp2_with fail
              refine wp_region_later (by kernel_rfl) (by kernel_rfl) ?_
              intro f hf1 hf2 hfc
              repeat (go_big_quiet_step ((go_at_call 124; exact calls_later hf1 hf2 (verOk_val x now _ _ hm.1 hm.2 HBO.out))))
              refine wpQuiet_nil ?_
              rintro _ ⟨v, rfl⟩
              have Hv := Lib.hid (BW.out.trans ((hf1.out v).mono BW.out.size))
              clear hfc
              go_wp2
              go_ret
              exact ⟨ret_bool (by rw [versB_no hlt (by rw [HVA.out, Bool.true_and, decide_eq_false_iff_not]; omega)]), B0.out.trans (Hv.out.mono B0.out.size)⟩
            · have hyx : y.i ≤ x.i := by omega
              have HYX := Lib.hid hyx
              have hxd : decide (x.i < y.i) = false := decide_eq_false hxy
              clear hxy
              go_wp2_with fail
              refine wp_region_later (by kernel_rfl) (by kernel_rfl) ?_
              intro f hf1 hf2 hfc
              repeat (go_big_quiet_step ((go_at_call 124; exact calls_later hf1 hf2 (verOk_val x now _ _ hm.1 hm.2 HBO.out))))
              refine wpQuiet_nil ?_
              rintro _ ⟨v, rfl⟩
              have Hv := Lib.hid (BW.out.trans ((hf1.out v).mono BW.out.size))
              clear hfc
              go_wp2
              go_roundw
              case rel => exact ⟨k + 1, by omega, by go_num, fun j hj => by
                by_cases e : j = k
                · subst e; rw [HVA.out, Bool.true_and, decide_eq_true_iff]; exact HYX.out
                · exact Hall.out j (by omega), Hv.out⟩
              case measure => simp [intOf]; omega
      · obtain rfl : k = zs.length := by omega
        have HY := Lib.hid (versB_yes (now := now) hlen (fun j hj => Hall.out j hj))
        go_wp2
        go_ret
        exact ⟨ret_bool HY.out.symm, B0.out.trans (hbr.mono B0.out.size)⟩
  · have HN := Lib.hid (versB_long (vs := zs) (now := now) (by omega))
    have hlen' : (120 : Int) < (zs.length : Int) := by omega
    go_enter Try.func92, Try.ntmps92
    go_wp2
    go_ret
    exact ⟨ret_bool HN.out.symm, (Below.refl _ _).alloc (Nat.le_refl _) _⟩
end Go.Proofs.Ytacddgipcafdlaa
