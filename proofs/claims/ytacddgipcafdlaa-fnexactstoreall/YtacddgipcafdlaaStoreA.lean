/-
  Walks: what a store was at a stamp, as the program finds it.
-/
import Derived.Test.YtacddgipcafdlaaStoreW
import Derived.Test.YtacddgipcafdlaaRelOf
import Derived.Laws.EntriesVeiled
namespace Go.Proofs.Ytacddgipcafdlaa
open Go.Shelf Go.RowKit Go.Lib Go.Sort

/-- The rows that hold at a stamp, in order, in new memory. -/
def LiveAt (w : World) (zs : List VerV) (s : Int) (e : Ending) (w' : World) : Prop :=
  ∃ (l : List RowV) (A : Option Addr) (c : Nat), e = .returned (.slice A l.length c) ∧ Ordered l ∧ l.Perm (liveL zs s) ∧ w'.ownsRow w.heap.size 72 4 (.slice A l.length c) l.length (flatOf rowC l) ∧ Below w.heap.size w w'

set_option maxRecDepth 100000 in
set_option maxHeartbeats 4000000 in
theorem storeAt_any (A : Option Addr) (cap : Nat) (zs : List VerV) (now s : Int) (w : World) (hz : VersA w A zs) (hl : zs.length ≤ 1048577) :
    Calls Try.prog 78 #[.agg #[.int .i64 now, .slice A zs.length cap], .int .i64 s] w (LiveAt w zs (min s now)) := by
  obtain ⟨i0, hi, hz0, hz1, hz2⟩ := info_parts Try.infoR72
  have Hi := Lib.hid hi
  have Hz0 := Lib.hid hz0
  have Hz1 := Lib.hid hz1
  have Hz2 := Lib.hid hz2
  clear hi hz0 hz1 hz2
  obtain ⟨m, hm⟩ : ∃ m, min s now = m := ⟨_, rfl⟩
  rw [hm]
  have HM := Lib.hid hm
  clear hm
  by_cases hsn : s ≤ now
  · skip
    go_enter Try.func78, Try.ntmps78
    go_wp2
    rw [HM.out]
    generalize hW : w.alloc _ = W0
    have B0 := Lib.hid (show Below w.heap.size w W0 from by rw [← hW]; exact (Below.refl _ _).alloc (Nat.le_refl _) _)
    have HZ := Lib.hid (hz.below B0.out)
    have hw0 := B0.out.size
    clear hW hz
    go_loopw [5, 16] (fun v i wr => ∃ k : Nat, k ≤ zs.length ∧ i = .int .i64 k ∧ wr.ownsRow W0.heap.size 72 4 v (liveL (zs.take k) m).length (flatOf rowC (liveL (zs.take k) m)) ∧ Below W0.heap.size W0 wr) (fun _ i _ => zs.length - (intOf i).toNat)
    case atStart => exact ⟨0, Nat.zero_le _, rfl, World.ownsRow_nil _ _ _ _, Below.refl _ _⟩
    case round =>
      obtain ⟨k, hk, rfl, hown, hbr⟩ := hrel
      have Hown := Lib.hid hown
      clear hown
      have hlo : (liveL (zs.take k) m).length ≤ 1048577 := by have := live_len (zs.take k) m; rw [List.length_take] at this; omega
      have hs5 := hbr.size
      by_cases hlt : k < zs.length
      · obtain ⟨b, off, x, rfl, hb, hx, c0, c1, c2, c3, c4, c5⟩ := (HZ.out.below hbr).at_ hlt
        have HT := Lib.hid (live_take (s := m) hx)
        obtain ⟨oo, hoo⟩ : ∃ oo, liveL (zs.take k) m = oo := ⟨_, rfl⟩
        rw [hoo] at Hown HT hlo
        clear hx hoo
        have hkz : (k : Int) < (zs.length : Int) := by omega
        have hkz0 : (0 : Int) ≤ (k : Int) := by omega
        obtain ⟨lb, hlb⟩ : ∃ lb, liveB m x = lb := ⟨_, rfl⟩
        have HLB := Lib.hid hlb
        rw [hlb] at HT
        clear hlb
        go_wp2_with fail
        generalize hW1 : wr.alloc _ = W1
        have v0 : W1.cell? ⟨wr.heap.size, 0, none⟩ = some (.string x.r.k) := by rw [← hW1]; simp [go_sem]
        have v1 : W1.cell? ⟨wr.heap.size, 1, none⟩ = some (.string x.r.t) := by rw [← hW1]; simp [go_sem]
        have v2 : W1.cell? ⟨wr.heap.size, 2, none⟩ = some (.int .i64 x.r.f) := by rw [← hW1]; simp [go_sem]
        have v3 : W1.cell? ⟨wr.heap.size, 3, none⟩ = some (.int .i64 x.r.e) := by rw [← hW1]; simp [go_sem]
        have hBW : Below wr.heap.size wr W1 := by rw [← hW1]; exact (Below.refl _ _).alloc (Nat.le_refl _) _
        have lV : wr.heap.size < W1.heap.size := by rw [← hW1]; simp
        refine (verLive_any x m _).mono ?_
        rw [HLB.out]
        rintro e w2 ⟨rfl, hb2⟩
        replace v0 := cellBelow hb2 lV v0
        replace v1 := cellBelow hb2 lV v1
        replace v2 := cellBelow hb2 lV v2
        replace v3 := cellBelow hb2 lV v3
        have b12 := hBW.trans (hb2.mono hBW.size)
        have O2 := Lib.hid (ownsKeep Hown.out b12)
        have hB2 := hbr.trans (b12.mono hbr.size)
        have hs2 := hB2.size
        have lV2 := Nat.lt_of_lt_of_le lV hb2.size
        obtain ⟨V, hV⟩ : ∃ V, wr.heap.size = V := ⟨_, rfl⟩
        rw [hV] at v0 v1 v2 v3 lV2 ⊢
        clear hW1 hBW hb2 b12 hbr lV hV c0 c1 c2 c3 c4 c5 hb Hown
        cases lb
        · rw [if_neg (by simp), List.append_nil] at HT
          have B2 := Lib.hid hB2
          clear hB2
          go_wp2
          go_roundw
          case rel => exact ⟨k + 1, by omega, by go_num, (by rw [HT.out]; exact O2.out), B2.out⟩
          case measure => simp [intOf]; omega
        · rw [if_pos rfl] at HT
          go_wp2_with (at_builtin; refine wpList_append_own _ rfl _ _ 58 rfl W0.heap.size 72 i0 _ 4 48 Try.underlying58 Hi.out Hz0.out Hz1.out Hz2.out rfl (by decide) _ oo.length (flatOf rowC oo) rfl (O2.out.alloc _) ⟨w2.heap.size, 0, none⟩ 1 1 [.string x.r.k, .string x.r.t, .int .i64 x.r.f, .int .i64 x.r.e] rfl rfl (newsFour (by simp) (by simp) (by simp) (by simp)) (by simp [Value.oneCell']) (by unfold maxLen; omega) (by omega) (by simp; omega) ?_; intro v' w3 hown' hgrow hnil; have O3 := Lib.hid hown'; have B3 := Lib.hid ((hB2.alloc hs2 _).grown hgrow (by simp; omega) (fun i e => by have := (O2.out.lt i e).1; omega)); clear hown' hgrow hnil)
          refine ⟨⟨k + 1, by omega, by simp, ?_, B3.out⟩, ?_⟩
          · rw [HT.out, flatOf_append, flatOf_one, show (oo ++ [x.r]).length = oo.length + 1 by simp]
            exact O3.out
          · simp [intOf]; omega
      · obtain rfl : k = zs.length := by omega
        rw [List.take_length] at Hown hlo
        obtain ⟨l0, hl0⟩ : ∃ l0, liveL zs m = l0 := ⟨_, rfl⟩
        rw [hl0] at Hown hlo
        have HL0 := Lib.hid hl0
        clear hl0
        obtain ⟨A4, c4, hv⟩ := owns_sliceE Hown.out
        subst hv
        go_wp2_with fail
        generalize hW1 : wr.alloc _ = W
        have hbx : BoxO W wr.heap.size (.slice none 0 0) := by rw [← hW1]; exact heap_alloc_new wr _
        have hBW : Below wr.heap.size wr W := by rw [← hW1]; exact (Below.refl _ _).alloc (Nat.le_refl _) _
        have OW := Lib.hid (ownsKeep Hown.out hBW)
        have BW := Lib.hid (hbr.trans (hBW.mono hbr.size))
        clear hW1 hBW hbr Hown
        refine (put_any W0.heap.size wr.heap.size (.slice none 0 0) (.slice A4 l0.length c4) [] l0 W hbx hs5 (World.ownsRow_nil _ _ _ _) (src_of (el_of_owns rowC_len OW.out) (owns_nilcap OW.out)) (by simp; omega)).mono ?_
        rintro e w3 ⟨rfl, v3, l, hb3, ho3, hord, hperm, hbl⟩
        rw [List.nil_append] at hperm
        have d0 := hb3.cell0
        have d1 := hb3.cell1
        have HP := Lib.hid (show l.Perm (liveL zs m) from by rw [HL0.out]; exact hperm)
        have HOr := Lib.hid hord
        have B3 := Lib.hid (B0.out.trans ((BW.out.trans hbl).mono hw0))
        have O3 := Lib.hid (owns_baseE (base' := w.heap.size) ho3 hw0)
        obtain ⟨A3, k3, rfl⟩ := owns_sliceE ho3
        clear hb3 ho3 hord hperm hbl hbx
        go_wp2
        go_ret
        exact ⟨l, A3, k3, rfl, HOr.out, HP.out, O3.out, B3.out⟩
  · have hsn' : now < s := by omega
    clear hsn
    go_enter Try.func78, Try.ntmps78
    go_wp2
    rw [HM.out]
    generalize hW : w.alloc _ = W0
    have B0 := Lib.hid (show Below w.heap.size w W0 from by rw [← hW]; exact (Below.refl _ _).alloc (Nat.le_refl _) _)
    have HZ := Lib.hid (hz.below B0.out)
    have hw0 := B0.out.size
    clear hW hz
    go_loopw [5, 16] (fun v i wr => ∃ k : Nat, k ≤ zs.length ∧ i = .int .i64 k ∧ wr.ownsRow W0.heap.size 72 4 v (liveL (zs.take k) m).length (flatOf rowC (liveL (zs.take k) m)) ∧ Below W0.heap.size W0 wr) (fun _ i _ => zs.length - (intOf i).toNat)
    case atStart => exact ⟨0, Nat.zero_le _, rfl, World.ownsRow_nil _ _ _ _, Below.refl _ _⟩
    case round =>
      obtain ⟨k, hk, rfl, hown, hbr⟩ := hrel
      have Hown := Lib.hid hown
      clear hown
      have hlo : (liveL (zs.take k) m).length ≤ 1048577 := by have := live_len (zs.take k) m; rw [List.length_take] at this; omega
      have hs5 := hbr.size
      by_cases hlt : k < zs.length
      · obtain ⟨b, off, x, rfl, hb, hx, c0, c1, c2, c3, c4, c5⟩ := (HZ.out.below hbr).at_ hlt
        have HT := Lib.hid (live_take (s := m) hx)
        obtain ⟨oo, hoo⟩ : ∃ oo, liveL (zs.take k) m = oo := ⟨_, rfl⟩
        rw [hoo] at Hown HT hlo
        clear hx hoo
        have hkz : (k : Int) < (zs.length : Int) := by omega
        have hkz0 : (0 : Int) ≤ (k : Int) := by omega
        obtain ⟨lb, hlb⟩ : ∃ lb, liveB m x = lb := ⟨_, rfl⟩
        have HLB := Lib.hid hlb
        rw [hlb] at HT
        clear hlb
        go_wp2_with fail
        generalize hW1 : wr.alloc _ = W1
        have v0 : W1.cell? ⟨wr.heap.size, 0, none⟩ = some (.string x.r.k) := by rw [← hW1]; simp [go_sem]
        have v1 : W1.cell? ⟨wr.heap.size, 1, none⟩ = some (.string x.r.t) := by rw [← hW1]; simp [go_sem]
        have v2 : W1.cell? ⟨wr.heap.size, 2, none⟩ = some (.int .i64 x.r.f) := by rw [← hW1]; simp [go_sem]
        have v3 : W1.cell? ⟨wr.heap.size, 3, none⟩ = some (.int .i64 x.r.e) := by rw [← hW1]; simp [go_sem]
        have hBW : Below wr.heap.size wr W1 := by rw [← hW1]; exact (Below.refl _ _).alloc (Nat.le_refl _) _
        have lV : wr.heap.size < W1.heap.size := by rw [← hW1]; simp
        refine (verLive_any x m _).mono ?_
        rw [HLB.out]
        rintro e w2 ⟨rfl, hb2⟩
        replace v0 := cellBelow hb2 lV v0
        replace v1 := cellBelow hb2 lV v1
        replace v2 := cellBelow hb2 lV v2
        replace v3 := cellBelow hb2 lV v3
        have b12 := hBW.trans (hb2.mono hBW.size)
        have O2 := Lib.hid (ownsKeep Hown.out b12)
        have hB2 := hbr.trans (b12.mono hbr.size)
        have hs2 := hB2.size
        have lV2 := Nat.lt_of_lt_of_le lV hb2.size
        obtain ⟨V, hV⟩ : ∃ V, wr.heap.size = V := ⟨_, rfl⟩
        rw [hV] at v0 v1 v2 v3 lV2 ⊢
        clear hW1 hBW hb2 b12 hbr lV hV c0 c1 c2 c3 c4 c5 hb Hown
        cases lb
        · rw [if_neg (by simp), List.append_nil] at HT
          have B2 := Lib.hid hB2
          clear hB2
          go_wp2
          go_roundw
          case rel => exact ⟨k + 1, by omega, by go_num, (by rw [HT.out]; exact O2.out), B2.out⟩
          case measure => simp [intOf]; omega
        · rw [if_pos rfl] at HT
          go_wp2_with (at_builtin; refine wpList_append_own _ rfl _ _ 58 rfl W0.heap.size 72 i0 _ 4 48 Try.underlying58 Hi.out Hz0.out Hz1.out Hz2.out rfl (by decide) _ oo.length (flatOf rowC oo) rfl (O2.out.alloc _) ⟨w2.heap.size, 0, none⟩ 1 1 [.string x.r.k, .string x.r.t, .int .i64 x.r.f, .int .i64 x.r.e] rfl rfl (newsFour (by simp) (by simp) (by simp) (by simp)) (by simp [Value.oneCell']) (by unfold maxLen; omega) (by omega) (by simp; omega) ?_; intro v' w3 hown' hgrow hnil; have O3 := Lib.hid hown'; have B3 := Lib.hid ((hB2.alloc hs2 _).grown hgrow (by simp; omega) (fun i e => by have := (O2.out.lt i e).1; omega)); clear hown' hgrow hnil)
          refine ⟨⟨k + 1, by omega, by simp, ?_, B3.out⟩, ?_⟩
          · rw [HT.out, flatOf_append, flatOf_one, show (oo ++ [x.r]).length = oo.length + 1 by simp]
            exact O3.out
          · simp [intOf]; omega
      · obtain rfl : k = zs.length := by omega
        rw [List.take_length] at Hown hlo
        obtain ⟨l0, hl0⟩ : ∃ l0, liveL zs m = l0 := ⟨_, rfl⟩
        rw [hl0] at Hown hlo
        have HL0 := Lib.hid hl0
        clear hl0
        obtain ⟨A4, c4, hv⟩ := owns_sliceE Hown.out
        subst hv
        go_wp2_with fail
        generalize hW1 : wr.alloc _ = W
        have hbx : BoxO W wr.heap.size (.slice none 0 0) := by rw [← hW1]; exact heap_alloc_new wr _
        have hBW : Below wr.heap.size wr W := by rw [← hW1]; exact (Below.refl _ _).alloc (Nat.le_refl _) _
        have OW := Lib.hid (ownsKeep Hown.out hBW)
        have BW := Lib.hid (hbr.trans (hBW.mono hbr.size))
        clear hW1 hBW hbr Hown
        refine (put_any W0.heap.size wr.heap.size (.slice none 0 0) (.slice A4 l0.length c4) [] l0 W hbx hs5 (World.ownsRow_nil _ _ _ _) (src_of (el_of_owns rowC_len OW.out) (owns_nilcap OW.out)) (by simp; omega)).mono ?_
        rintro e w3 ⟨rfl, v3, l, hb3, ho3, hord, hperm, hbl⟩
        rw [List.nil_append] at hperm
        have d0 := hb3.cell0
        have d1 := hb3.cell1
        have HP := Lib.hid (show l.Perm (liveL zs m) from by rw [HL0.out]; exact hperm)
        have HOr := Lib.hid hord
        have B3 := Lib.hid (B0.out.trans ((BW.out.trans hbl).mono hw0))
        have O3 := Lib.hid (owns_baseE (base' := w.heap.size) ho3 hw0)
        obtain ⟨A3, k3, rfl⟩ := owns_sliceE ho3
        clear hb3 ho3 hord hperm hbl hbx
        go_wp2
        go_ret
        exact ⟨l, A3, k3, rfl, HOr.out, HP.out, O3.out, B3.out⟩
end Go.Proofs.Ytacddgipcafdlaa
