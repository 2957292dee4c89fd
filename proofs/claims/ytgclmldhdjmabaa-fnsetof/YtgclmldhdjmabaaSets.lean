/-
  Walks: slices of spans: whether a set is ok.
-/
import Derived.Test.YtgclmldhdjmabaaMeet
import Derived.Deep.RegionWith
import Derived.Deep.QuietTactic
import Derived.BigQuiet
namespace Go.Proofs.Ytgclmldhdjmabaa
open Go.RowKit

def okAt (zs : List (Int × Int)) (k : Nat) : Bool := okB (zs.getD k (0, 0)).1 (zs.getD k (0, 0)).2 && (k == 0 || decide ((zs.getD (k - 1) (0, 0)).2 < (zs.getD k (0, 0)).1))
def setOk (zs : List (Int × Int)) : Bool := (List.range zs.length).all (okAt zs)

theorem setOk_no {zs : List (Int × Int)} {k : Nat} (hk : k < zs.length) (h : okAt zs k = false) : false = setOk zs := by
  rw [eq_comm, setOk, List.all_eq_false]
  exact ⟨k, by simpa using hk, by simp [h]⟩
theorem setOk_yes {zs : List (Int × Int)} (h : ∀ j, j < zs.length → okAt zs j = true) : true = setOk zs := by
  rw [eq_comm, setOk, List.all_eq_true]
  intro k hk
  exact h k (by simpa using hk)

theorem ok_val (a b : Int) (w : World) (v : Bool) (h : okB a b = v) :
    Calls Try.prog 91 #[.agg #[.int .i64 a, .int .i64 b]] w fun e w' => e = .returned (.bool v) ∧ Below w.heap.size w w' := by
  subst h; exact ok_any a b w

set_option maxHeartbeats 1000000 in
theorem SetOk_any (A : Option Addr) (cap : Nat) (zs : List (Int × Int)) (w : World) (hz : Spans w A zs) (hl : zs.length ≤ 1048577) :
    Calls Try.prog 61 #[.slice A zs.length cap] w fun e w' => e = .returned (.bool (setOk zs)) ∧ Below w.heap.size w w' := by
  go_enter Try.func61, Try.ntmps61
  go_wp2
  go_loopw [7] (fun i wr => ∃ k : Nat, k ≤ zs.length ∧ i = .int .i64 k ∧ (∀ j, j < k → okAt zs j = true) ∧ Below w.heap.size w wr) (fun i _ => zs.length - (intOf i).toNat)
  case atStart => exact ⟨0, Nat.zero_le _, rfl, fun j hj => absurd hj (by omega), Below.refl _ _⟩
  case round =>
    obtain ⟨k, hk, rfl, hall, hbr⟩ := hrel
    have Hall := Lib.hid hall
    clear hall
    by_cases hlt : k < zs.length
    · obtain ⟨b, off, rfl, hcells⟩ := hz (by omega)
      obtain ⟨c0, c1⟩ := hcells k hlt
      obtain ⟨x, hx⟩ : ∃ x, (zs.getD k (0, 0)).1 = x := ⟨_, rfl⟩
      obtain ⟨y, hy⟩ : ∃ x, (zs.getD k (0, 0)).2 = x := ⟨_, rfl⟩
      obtain ⟨p, hp⟩ : ∃ x, (zs.getD (k - 1) (0, 0)).2 = x := ⟨_, rfl⟩
      have hok : okAt zs k = (okB x y && (k == 0 || decide (p < x))) := by rw [okAt, hx, hy, hp]
      rw [hx] at c0
      rw [hy] at c1
      have c0r : wr.cell? ⟨b, off + k * 2, none⟩ = some (.int .i64 x) := cell_below hbr (World.block_lt_of_cell? _ _ c0) c0
      have c1r : wr.cell? ⟨b, off + k * 2 + 1, none⟩ = some (.int .i64 y) := cell_below hbr (World.block_lt_of_cell? _ _ c1) c1
      have hbb : b < wr.heap.size := World.block_lt_of_cell? _ _ c0r
      have Hok := Lib.hid hok
      clear hok hx hy c0 c1
      by_cases h1 : okB x y = true
      · by_cases hk0 : k = 0
        · have hkd : decide ((0 : Int) < (k : Int)) = false := by simp; omega
          have hke : decide (0 < k) = false := by simp; omega
          have H1 := Lib.hid h1
          have H0 := Lib.hid hk0
          clear h1 hcells hp hk0
          go_wp2_with fail
          refine wp_region_later (by kernel_rfl) (by kernel_rfl) ?_
          intro f hf1 hf2 hfc
          repeat (go_big_quiet_step ((go_at_call 91; exact calls_later hf1 hf2 (ok_val _ _ _ _ H1.out))))
          refine wpQuiet_nil ?_
          rintro _ ⟨v, rfl⟩
          have hbv : Below w.heap.size w (f v) := (hbr.trans ((Below.refl _ _).alloc hbr.size _)).trans ((hf1.out v).mono (by have := hbr.size; simp; omega))
          have Hv := Lib.hid hbv
          clear hbv hfc
          go_wp2
          go_roundw
          case rel => exact ⟨k + 1, by omega, by go_num, fun j hj => by
            by_cases e : j = k
            · subst e; rw [Hok.out, H1.out]; simp [H0.out]
            · exact Hall.out j (by omega), Hv.out⟩
          case measure => simp [intOf]; omega
        · obtain ⟨_, c2⟩ := hcells (k - 1) (by omega)
          rw [hp] at c2
          have c2r : wr.cell? ⟨b, off + (k - 1) * 2 + 1, none⟩ = some (.int .i64 p) := cell_below hbr (World.block_lt_of_cell? _ _ c2) c2
          have H1 := Lib.hid h1
          clear h1 hcells hp c2
          have hkd : decide ((0 : Int) < (k : Int)) = true := by simp; omega
          have hke : decide (0 < k) = true := by simp; omega
          have hke' : 0 < k := by omega
          have hkp : (0 : Int) < (k : Int) := by omega
          have hkp1 : (0 : Int) ≤ (k : Int) - 1 := by omega
          have hkp2 : (k : Int) - 1 < (zs.length : Int) := by omega
          have hkn : ((k : Int) - 1).toNat = k - 1 := by omega
          go_wp2_with fail
          refine wp_region_later (by kernel_rfl) (by kernel_rfl) ?_
          intro f hf1 hf2 hfc
          repeat (go_big_quiet_step ((go_at_call 91; exact calls_later hf1 hf2 (ok_val _ _ _ _ H1.out))))
          refine wpQuiet_nil ?_
          rintro _ ⟨v, rfl⟩
          have hbv : Below w.heap.size w (f v) := (hbr.trans ((Below.refl _ _).alloc hbr.size _)).trans ((hf1.out v).mono (by have := hbr.size; simp; omega))
          have Hv := Lib.hid hbv
          clear hbv hfc
          go_wp2
          · go_ret
            have hxp : x ≤ p := by assumption
            exact ⟨ret_bool (setOk_no hlt (by rw [Hok.out, H1.out]; simp; omega)), Hv.out⟩
          · go_roundw
            case rel =>
              have hxp : p < x := by assumption
              exact ⟨k + 1, by omega, by go_num, fun j hj => by
                by_cases e : j = k
                · subst e; rw [Hok.out, H1.out]; simp [hxp]
                · exact Hall.out j (by omega), Hv.out⟩
            case measure => simp [intOf]; omega
      · have h1' : okB x y = false := by simpa using h1
        have H1 := Lib.hid h1'
        clear h1 h1' hcells hp
        go_wp2_with fail
        refine wp_region_later (by kernel_rfl) (by kernel_rfl) ?_
        intro f hf1 hf2 hfc
        repeat (go_big_quiet_step ((go_at_call 91; exact calls_later hf1 hf2 (ok_val _ _ _ _ H1.out))))
        refine wpQuiet_nil ?_
        rintro _ ⟨v, rfl⟩
        have hbv : Below w.heap.size w (f v) := (hbr.trans ((Below.refl _ _).alloc hbr.size _)).trans ((hf1.out v).mono (by have := hbr.size; simp; omega))
        have Hv := Lib.hid hbv
        clear hbv hfc
        go_wp2
        go_ret
        exact ⟨ret_bool (setOk_no hlt (by rw [Hok.out, H1.out]; simp)), Hv.out⟩
    · go_wp2
      go_ret
      exact ⟨ret_bool (setOk_yes fun j hj => Hall.out j (by omega)), hbr⟩

theorem l1Ok_val (a b : Int) (w : World) (v : Bool) (h : okB a b = v) :
    Calls Try.prog 94 #[.agg #[.int .i64 a, .int .i64 b]] w fun e w' => e = .returned (.bool v) ∧ Below w.heap.size w w' := by
  subst h; exact l1Ok_any a b w

set_option maxHeartbeats 1000000 in
theorem l1SetOk_any (A : Option Addr) (cap : Nat) (zs : List (Int × Int)) (w : World) (hz : Spans w A zs) (hl : zs.length ≤ 1048577) :
    Calls Try.prog 121 #[.slice A zs.length cap] w fun e w' => e = .returned (.bool (setOk zs)) ∧ Below w.heap.size w w' := by
  go_enter Try.func121, Try.ntmps121
  go_wp2
  go_loopw [3] (fun i wr => ∃ k : Nat, k ≤ zs.length ∧ i = .int .i64 k ∧ (∀ j, j < k → okAt zs j = true) ∧ Below w.heap.size w wr) (fun i _ => zs.length - (intOf i).toNat)
  case atStart => exact ⟨0, Nat.zero_le _, rfl, fun j hj => absurd hj (by omega), Below.refl _ _⟩
  case round =>
    obtain ⟨k, hk, rfl, hall, hbr⟩ := hrel
    have Hall := Lib.hid hall
    clear hall
    by_cases hlt : k < zs.length
    · obtain ⟨b, off, rfl, hcells⟩ := hz (by omega)
      obtain ⟨c0, c1⟩ := hcells k hlt
      obtain ⟨x, hx⟩ : ∃ x, (zs.getD k (0, 0)).1 = x := ⟨_, rfl⟩
      obtain ⟨y, hy⟩ : ∃ x, (zs.getD k (0, 0)).2 = x := ⟨_, rfl⟩
      obtain ⟨p, hp⟩ : ∃ x, (zs.getD (k - 1) (0, 0)).2 = x := ⟨_, rfl⟩
      have hok : okAt zs k = (okB x y && (k == 0 || decide (p < x))) := by rw [okAt, hx, hy, hp]
      rw [hx] at c0
      rw [hy] at c1
      have c0r : wr.cell? ⟨b, off + k * 2, none⟩ = some (.int .i64 x) := cell_below hbr (World.block_lt_of_cell? _ _ c0) c0
      have c1r : wr.cell? ⟨b, off + k * 2 + 1, none⟩ = some (.int .i64 y) := cell_below hbr (World.block_lt_of_cell? _ _ c1) c1
      have hbb : b < wr.heap.size := World.block_lt_of_cell? _ _ c0r
      have Hok := Lib.hid hok
      clear hok hx hy c0 c1
      by_cases h1 : okB x y = true
      · by_cases hk0 : k = 0
        · have hkd : decide ((0 : Int) < (k : Int)) = false := by simp; omega
          have hke : decide (0 < k) = false := by simp; omega
          have H1 := Lib.hid h1
          have H0 := Lib.hid hk0
          clear h1 hcells hp hk0
          go_wp2_with fail
          refine wp_region_later (by kernel_rfl) (by kernel_rfl) ?_
          intro f hf1 hf2 hfc
          repeat (go_big_quiet_step ((go_at_call 94; exact calls_later hf1 hf2 (l1Ok_val _ _ _ _ H1.out))))
          refine wpQuiet_nil ?_
          rintro _ ⟨v, rfl⟩
          have Hv := Lib.hid (hbr.trans ((hf1.out v).mono hbr.size))
          clear hfc
          go_wp2
          go_roundw
          case rel => exact ⟨k + 1, by omega, by go_num, fun j hj => by
            by_cases e : j = k
            · subst e; rw [Hok.out, H1.out]; simp [H0.out]
            · exact Hall.out j (by omega), Hv.out⟩
          case measure => simp [intOf]; omega
        · obtain ⟨_, c2⟩ := hcells (k - 1) (by omega)
          rw [hp] at c2
          have c2r : wr.cell? ⟨b, off + (k - 1) * 2 + 1, none⟩ = some (.int .i64 p) := cell_below hbr (World.block_lt_of_cell? _ _ c2) c2
          have H1 := Lib.hid h1
          clear h1 hcells hp c2
          have hkd : decide ((0 : Int) < (k : Int)) = true := by simp; omega
          have hke : decide (0 < k) = true := by simp; omega
          have hke' : 0 < k := by omega
          have hkp : (0 : Int) < (k : Int) := by omega
          have hkp1 : (0 : Int) ≤ (k : Int) - 1 := by omega
          have hkp2 : (k : Int) - 1 < (zs.length : Int) := by omega
          have hkn : ((k : Int) - 1).toNat = k - 1 := by omega
          go_wp2_with fail
          refine wp_region_later (by kernel_rfl) (by kernel_rfl) ?_
          intro f hf1 hf2 hfc
          repeat (go_big_quiet_step ((go_at_call 94; exact calls_later hf1 hf2 (l1Ok_val _ _ _ _ H1.out))))
          refine wpQuiet_nil ?_
          rintro _ ⟨v, rfl⟩
          have Hv := Lib.hid (hbr.trans ((hf1.out v).mono hbr.size))
          clear hfc
          go_wp2
          · go_ret
            have hxp : x ≤ p := by assumption
            exact ⟨ret_bool (setOk_no hlt (by rw [Hok.out, H1.out]; simp; omega)), Hv.out⟩
          · go_roundw
            case rel =>
              have hxp : p < x := by assumption
              exact ⟨k + 1, by omega, by go_num, fun j hj => by
                by_cases e : j = k
                · subst e; rw [Hok.out, H1.out]; simp [hxp]
                · exact Hall.out j (by omega), Hv.out⟩
            case measure => simp [intOf]; omega
      · have h1' : okB x y = false := by simpa using h1
        have H1 := Lib.hid h1'
        clear h1 h1' hcells hp
        go_wp2_with fail
        refine wp_region_later (by kernel_rfl) (by kernel_rfl) ?_
        intro f hf1 hf2 hfc
        repeat (go_big_quiet_step ((go_at_call 94; exact calls_later hf1 hf2 (l1Ok_val _ _ _ _ H1.out))))
        refine wpQuiet_nil ?_
        rintro _ ⟨v, rfl⟩
        have Hv := Lib.hid (hbr.trans ((hf1.out v).mono hbr.size))
        clear hfc
        go_wp2
        go_ret
        exact ⟨ret_bool (setOk_no hlt (by rw [Hok.out, H1.out]; simp)), Hv.out⟩
    · go_wp2
      go_ret
      exact ⟨ret_bool (setOk_yes fun j hj => Hall.out j (by omega)), hbr⟩

set_option maxHeartbeats 400000 in
theorem szSpanS_any (A : Option Addr) (n cap : Nat) (left : Int) (w : World) (h0 : 0 ≤ left) (h1 : left ≤ 1048576) (hn : n ≤ maxLen) :
    Calls Try.prog 49 #[.slice A n cap, .int .i64 left] w fun e w' => e = .returned (.int .i64 (if left - n < 0 then -1 else left - n)) ∧ w = w' := by
  unfold maxLen at hn
  by_cases h : left - n < 0
  · rw [if_pos h]
    go_enter Try.func49, Try.ntmps49
    go_wp2
    go_ret
    exact ⟨rfl, rfl⟩
  · rw [if_neg h]
    go_enter Try.func49, Try.ntmps49
    go_wp2
    go_ret
    exact ⟨rfl, rfl⟩

set_option maxHeartbeats 1000000 in
theorem eqSpanS_same (A B : Option Addr) (cap cap' : Nat) (zs : List (Int × Int)) (w : World) (hz : Spans w A zs) (hz' : Spans w B zs) (hl : zs.length ≤ maxLen) :
    Calls Try.prog 53 #[.slice A zs.length cap, .slice B zs.length cap'] w fun e w' => e = .returned (.bool true) ∧ Below w.heap.size w w' := by
  unfold maxLen at hl
  go_enter Try.func53, Try.ntmps53
  go_wp2
  go_loopw [5] (fun i wr => ∃ k : Nat, k ≤ zs.length ∧ i = .int .i64 k ∧ Below w.heap.size w wr) (fun i _ => zs.length - (intOf i).toNat)
  case atStart => exact ⟨0, Nat.zero_le _, rfl, Below.refl _ _⟩
  case round =>
    obtain ⟨k, hk, rfl, hbr⟩ := hrel
    by_cases hlt : k < zs.length
    · obtain ⟨b, off, rfl, hcells⟩ := hz (by omega)
      obtain ⟨b', off', rfl, hcells'⟩ := hz' (by omega)
      obtain ⟨c0, c1⟩ := hcells k hlt
      obtain ⟨d0, d1⟩ := hcells' k hlt
      generalize (zs.getD k (0, 0)).1 = x at c0 d0
      generalize (zs.getD k (0, 0)).2 = y at c1 d1
      have c0r : wr.cell? ⟨b, off + k * 2, none⟩ = some (.int .i64 x) := cell_below hbr (World.block_lt_of_cell? _ _ c0) c0
      have c1r : wr.cell? ⟨b, off + k * 2 + 1, none⟩ = some (.int .i64 y) := cell_below hbr (World.block_lt_of_cell? _ _ c1) c1
      have d0r : wr.cell? ⟨b', off' + k * 2, none⟩ = some (.int .i64 x) := cell_below hbr (World.block_lt_of_cell? _ _ d0) d0
      have d1r : wr.cell? ⟨b', off' + k * 2 + 1, none⟩ = some (.int .i64 y) := cell_below hbr (World.block_lt_of_cell? _ _ d1) d1
      have hbb : b < wr.heap.size := World.block_lt_of_cell? _ _ c0r
      have hbb' : b' < wr.heap.size := World.block_lt_of_cell? _ _ d0r
      clear c0 c1 d0 d1 hcells hcells'
      go_wp2_with fail
      refine wp_region_later (by kernel_rfl) (by kernel_rfl) ?_
      intro f hf1 hf2 hfc
      repeat (go_big_quiet_step ((go_at_call 111; exact calls_later hf1 hf2 (eqSpan_same _ _ _))))
      refine wpQuiet_nil ?_
      rintro _ ⟨v, rfl⟩
      have Hv := Lib.hid (hbr.trans ((hf1.out v).mono hbr.size))
      clear hfc
      go_wp2
      go_roundw
      case rel => exact ⟨k + 1, by omega, by go_num, Hv.out⟩
      case measure => simp [intOf]; omega
    · go_wp2
      go_ret
      exact ⟨rfl, hbr⟩

theorem Try.info32 : (Try.prog.info? 32).map (fun i => (i.zero, i.size, i.bytes)) = some (some (.agg #[.int .i64 0, .int .i64 0]), 2, 16) := by kernel_rfl

def Made (w : World) (zs : List (Int × Int)) (e : Ending) (w' : World) : Prop :=
  ∃ g cap, e = .returned (.slice (some ⟨g, 0, none⟩) zs.length cap) ∧ w'.ownsRow w.heap.size 32 2 (.slice (some ⟨g, 0, none⟩) zs.length cap) zs.length (flat zs) ∧ Below w.heap.size w w'

set_option maxHeartbeats 1000000 in
theorem toSpanS_any (A : Option Addr) (cap : Nat) (zs : List (Int × Int)) (w : World) (hz : Spans w A zs) (hl : zs.length ≤ 1048577) :
    Calls Try.prog 51 #[.slice A zs.length cap] w (Made w zs) := by
  obtain ⟨i0, hi, hz0, hz1, hz2⟩ := info_parts Try.info32
  have hi16 : i0.bytes * zs.length ≤ 281474976710656 := by rw [hz2]; omega
  have hml : zs.length ≤ maxLen := by unfold maxLen; omega
  go_enter Try.func51, Try.ntmps51
  go_wp2_with (at_make; refine wpList_make_full _ rfl _ _ 35 rfl w.heap.size 32 i0 _ 2 Try.underlying35 hi hz0 hz1 .i64 .i64 _ _ zs.length rfl rfl rfl rfl hi16 hml (Nat.le_refl _) ?_; intro w1 hown hgrow)
  have hown0 : w1.ownsRow w.heap.size 32 2 (.slice (some ⟨w.heap.size, 0, none⟩) zs.length zs.length) zs.length (flat (done zs 0)) := by rw [done_zero, ← made_flat]; exact hown
  have HO := Lib.hid hown0
  have HB := Lib.hid ((Below.refl w.heap.size w).grown hgrow (Nat.le_refl _) (fun k hk => by cases hk))
  clear hown hown0 hgrow hi hz0 hz1 hz2 hi16
  go_loopw [4] (fun i wr => ∃ k : Nat, k ≤ zs.length ∧ i = .int .i64 k ∧ wr.ownsRow w.heap.size 32 2 (.slice (some ⟨w.heap.size, 0, none⟩) zs.length zs.length) zs.length (flat (done zs k)) ∧ Below w.heap.size w wr) (fun i _ => zs.length - (intOf i).toNat)
  case atStart => exact ⟨0, Nat.zero_le _, rfl, HO.out, HB.out⟩
  case round =>
    obtain ⟨k, hk, rfl, hown, hbr⟩ := hrel
    have Hown := Lib.hid hown
    have hgl : w.heap.size < wr.heap.size := (hown.lt w.heap.size rfl).2
    clear hown HO HB
    by_cases hlt : k < zs.length
    · obtain ⟨b, off, rfl, hcells⟩ := hz (by omega)
      obtain ⟨c0, c1⟩ := hcells k hlt
      have hset := done_set zs k hlt
      obtain ⟨x, hx⟩ : ∃ x, (zs.getD k (0, 0)).1 = x := ⟨_, rfl⟩
      obtain ⟨y, hy⟩ : ∃ x, (zs.getD k (0, 0)).2 = x := ⟨_, rfl⟩
      rw [hx, hy] at hset
      rw [hx] at c0
      rw [hy] at c1
      have c0r : wr.cell? ⟨b, off + k * 2, none⟩ = some (.int .i64 x) := cell_below hbr (World.block_lt_of_cell? _ _ c0) c0
      have c1r : wr.cell? ⟨b, off + k * 2 + 1, none⟩ = some (.int .i64 y) := cell_below hbr (World.block_lt_of_cell? _ _ c1) c1
      have Hset := Lib.hid hset
      clear hset c0 c1 hcells hx hy
      go_wp2_with fail
      refine (toSpan_any _ _ _).mono ?_
      rintro e w2 ⟨rfl, hb2⟩
      have hown2 := owns_below Hown.out hb2 hgl
      have hd : (done zs k).length = zs.length := done_length zs k hk
      have e0 : w2.cell? ⟨w.heap.size, k * 2, none⟩ = some (.int .i64 ((done zs k).getD k (0, 0)).1) := by
        rw [hown2.cellAt (k * 2) (by omega), flat_get0 _ _ (by omega)]
      have e1 : w2.cell? ⟨w.heap.size, k * 2 + 1, none⟩ = some (.int .i64 ((done zs k).getD k (0, 0)).2) := by
        rw [hown2.cellAt (k * 2 + 1) (by omega), flat_get1 _ _ (by omega)]
      generalize ((done zs k).getD k (0, 0)).1 = u0 at e0
      generalize ((done zs k).getD k (0, 0)).2 = u1 at e1
      have f0 := hown2.frozenAt (k * 2)
      have f1 := hown2.frozenAt (k * 2 + 1)
      have s0 := hown2.stored (k * 2) (.int .i64 x)
      have s1 := s0.1.stored (k * 2 + 1) (.int .i64 y)
      rw [flat_set, Hset.out] at s1
      have HS := Lib.hid s1.1
      have HB := Lib.hid (((hbr.trans (hb2.mono (by omega))).setCell (p := ⟨w.heap.size, k * 2, none⟩) (Nat.le_refl _) (.int .i64 x)).setCell (p := ⟨w.heap.size, k * 2 + 1, none⟩) (Nat.le_refl _) (.int .i64 y))
      clear s0 s1 hown2 hd hb2
      go_wp2
      go_roundw
      case rel => exact ⟨k + 1, by omega, by go_num, HS.out, HB.out⟩
      case measure => simp [intOf]; omega
    · go_wp2
      go_ret
      obtain rfl : k = zs.length := by omega
      have := Hown.out
      rw [done_all] at this
      exact ⟨w.heap.size, zs.length, rfl, this, hbr⟩
end Go.Proofs.Ytgclmldhdjmabaa
