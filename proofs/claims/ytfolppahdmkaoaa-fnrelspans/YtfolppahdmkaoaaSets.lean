/-
  Walks: slices of spans: whether a set is ok.
-/
import Derived.Test.YtfolppahdmkaoaaMeet
import Derived.Deep.RegionWith
import Derived.Deep.QuietTactic
import Derived.BigQuiet
namespace Go.Proofs.Ytfolppahdmkaoaa
open Go.RowKit

def okAt (zs : List (Int × Int)) (k : Nat) : Bool := okB (zs.getD k (0, 0)).1 (zs.getD k (0, 0)).2 && (k == 0 || decide ((zs.getD (k - 1) (0, 0)).2 < (zs.getD k (0, 0)).1))
def setOk (zs : List (Int × Int)) : Bool := (List.range zs.length).all (okAt zs)

theorem setOk_no {zs : List (Int × Int)} {k : Nat} (hk : k < zs.length) (h : okAt zs k = false) : false = setOk zs := by
  rw [eq_comm, setOk, List.all_eq_false]
  exact ⟨k, by simpa using hk, by simp [h]⟩
theorem setOk_yes {zs : List (Int × Int)} (h : ∀ j, j < zs.length → okAt zs j = true) : true = setOk zs := by
  rw [eq_comm, setOk, List.all_eq_true]
  intro k hk
  exact h k (by simpa using hk)

theorem ok_val (a b : Int) (w : World) (v : Bool) (h : okB a b = v) :
    Calls Try.prog 46 #[.agg #[.int .i64 a, .int .i64 b]] w fun e w' => e = .returned (.bool v) ∧ Below w.heap.size w w' := by
  subst h; exact ok_any a b w

set_option maxHeartbeats 1000000 in
theorem SetOk_any (A : Option Addr) (cap : Nat) (zs : List (Int × Int)) (w : World) (hz : Spans w A zs) (hl : zs.length ≤ 1048577) :
    Calls Try.prog 23 #[.slice A zs.length cap] w fun e w' => e = .returned (.bool (setOk zs)) ∧ Below w.heap.size w w' := by
  go_enter Try.func23, Try.ntmps23
  go_wp2
  go_loopw [7] (fun i wr => ∃ k : Nat, k ≤ zs.length ∧ i = .int .i64 k ∧ (∀ j, j < k → okAt zs j = true) ∧ Below w.heap.size w wr) (fun i _ => zs.length - (intOf i).toNat)
  case atStart => exact ⟨0, Nat.zero_le _, rfl, fun j hj => absurd hj (by omega), Below.refl _ _⟩
  case round =>
    obtain ⟨k, hk, rfl, hall, hbr⟩ := hrel
    have Hall := Lib.hid hall
    clear hall
    by_cases hlt : k < zs.length
    · obtain ⟨b, off, rfl, hcells⟩ := hz (by omega)
      obtain ⟨c0, c1⟩ := hcells k hlt
      obtain ⟨x, hx⟩ : ∃ x, (zs.getD k (0, 0)).1 = x := ⟨_, rfl⟩
      obtain ⟨y, hy⟩ : ∃ x, (zs.getD k (0, 0)).2 = x := ⟨_, rfl⟩
      obtain ⟨p, hp⟩ : ∃ x, (zs.getD (k - 1) (0, 0)).2 = x := ⟨_, rfl⟩
      have hok : okAt zs k = (okB x y && (k == 0 || decide (p < x))) := by rw [okAt, hx, hy, hp]
      rw [hx] at c0
      rw [hy] at c1
      have c0r : wr.cell? ⟨b, off + k * 2, none⟩ = some (.int .i64 x) := cell_below hbr (World.block_lt_of_cell? _ _ c0) c0
      have c1r : wr.cell? ⟨b, off + k * 2 + 1, none⟩ = some (.int .i64 y) := cell_below hbr (World.block_lt_of_cell? _ _ c1) c1
      have hbb : b < wr.heap.size := World.block_lt_of_cell? _ _ c0r
      have Hok := Lib.hid hok
      clear hok hx hy c0 c1
      by_cases h1 : okB x y = true
      · by_cases hk0 : k = 0
        · have hkd : decide ((0 : Int) < (k : Int)) = false := by simp; omega
          have hke : decide (0 < k) = false := by simp; omega
          have H1 := Lib.hid h1
          have H0 := Lib.hid hk0
          clear h1 hcells hp hk0
          go_wp2_with fail
          refine wp_region_later (by kernel_rfl) (by kernel_rfl) ?_
          intro f hf1 hf2 hfc
          repeat (go_big_quiet_step ((go_at_call 46; exact calls_later hf1 hf2 (ok_val _ _ _ _ H1.out))))
          refine wpQuiet_nil ?_
          rintro _ ⟨v, rfl⟩
          have hbv : Below w.heap.size w (f v) := (hbr.trans ((Below.refl _ _).alloc hbr.size _)).trans ((hf1.out v).mono (by have := hbr.size; simp; omega))
          have Hv := Lib.hid hbv
          clear hbv hfc
          go_wp2
          go_roundw
          case rel => exact ⟨k + 1, by omega, by go_num, fun j hj => by
            by_cases e : j = k
            · subst e; rw [Hok.out, H1.out]; simp [H0.out]
            · exact Hall.out j (by omega), Hv.out⟩
          case measure => simp [intOf]; omega
        · obtain ⟨_, c2⟩ := hcells (k - 1) (by omega)
          rw [hp] at c2
          have c2r : wr.cell? ⟨b, off + (k - 1) * 2 + 1, none⟩ = some (.int .i64 p) := cell_below hbr (World.block_lt_of_cell? _ _ c2) c2
          have H1 := Lib.hid h1
          clear h1 hcells hp c2
          have hkd : decide ((0 : Int) < (k : Int)) = true := by simp; omega
          have hke : decide (0 < k) = true := by simp; omega
          have hke' : 0 < k := by omega
          have hkp : (0 : Int) < (k : Int) := by omega
          have hkp1 : (0 : Int) ≤ (k : Int) - 1 := by omega
          have hkp2 : (k : Int) - 1 < (zs.length : Int) := by omega
          have hkn : ((k : Int) - 1).toNat = k - 1 := by omega
          go_wp2_with fail
          refine wp_region_later (by kernel_rfl) (by kernel_rfl) ?_
          intro f hf1 hf2 hfc
          repeat (go_big_quiet_step ((go_at_call 46; exact calls_later hf1 hf2 (ok_val _ _ _ _ H1.out))))
          refine wpQuiet_nil ?_
          rintro _ ⟨v, rfl⟩
          have hbv : Below w.heap.size w (f v) := (hbr.trans ((Below.refl _ _).alloc hbr.size _)).trans ((hf1.out v).mono (by have := hbr.size; simp; omega))
          have Hv := Lib.hid hbv
          clear hbv hfc
          go_wp2
          · go_ret
            have hxp : x ≤ p := by assumption
            exact ⟨ret_bool (setOk_no hlt (by rw [Hok.out, H1.out]; simp; omega)), Hv.out⟩
          · go_roundw
            case rel =>
              have hxp : p < x := by assumption
              exact ⟨k + 1, by omega, by go_num, fun j hj => by
                by_cases e : j = k
                · subst e; rw [Hok.out, H1.out]; simp [hxp]
                · exact Hall.out j (by omega), Hv.out⟩
            case measure => simp [intOf]; omega
      · have h1' : okB x y = false := by simpa using h1
        have H1 := Lib.hid h1'
        clear h1 h1' hcells hp
        go_wp2_with fail
        refine wp_region_later (by kernel_rfl) (by kernel_rfl) ?_
        intro f hf1 hf2 hfc
        repeat (go_big_quiet_step ((go_at_call 46; exact calls_later hf1 hf2 (ok_val _ _ _ _ H1.out))))
        refine wpQuiet_nil ?_
        rintro _ ⟨v, rfl⟩
        have hbv : Below w.heap.size w (f v) := (hbr.trans ((Below.refl _ _).alloc hbr.size _)).trans ((hf1.out v).mono (by have := hbr.size; simp; omega))
        have Hv := Lib.hid hbv
        clear hbv hfc
        go_wp2
        go_ret
        exact ⟨ret_bool (setOk_no hlt (by rw [Hok.out, H1.out]; simp)), Hv.out⟩
    · go_wp2
      go_ret
      exact ⟨ret_bool (setOk_yes fun j hj => Hall.out j (by omega)), hbr⟩

theorem l1Ok_val (a b : Int) (w : World) (v : Bool) (h : okB a b = v) :
    Calls Try.prog 75 #[.agg #[.int .i64 a, .int .i64 b]] w fun e w' => e = .returned (.bool v) ∧ Below w.heap.size w w' := by
  subst h; exact l1Ok_any a b w

theorem Try.info43 : (Try.prog.info? 43).map (fun i => (i.zero, i.size, i.bytes)) = some (some (.agg #[.int .i64 0, .int .i64 0]), 2, 16) := by kernel_rfl

def Made (w : World) (zs : List (Int × Int)) (e : Ending) (w' : World) : Prop :=
  ∃ g cap, e = .returned (.slice (some ⟨g, 0, none⟩) zs.length cap) ∧ w'.ownsRow w.heap.size 43 2 (.slice (some ⟨g, 0, none⟩) zs.length cap) zs.length (flat zs) ∧ Below w.heap.size w w'

end Go.Proofs.Ytfolppahdmkaoaa
