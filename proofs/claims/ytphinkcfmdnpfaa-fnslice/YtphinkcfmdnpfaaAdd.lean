/-
  The walk of the model's l1Add.
-/
import Derived.Test.YtphinkcfmdnpfaaSets
import Derived.Test.YtphinkcfmdnpfaaAddL
import Derived.WalkSmall
import Derived.Test.YtphinkcfmdnpfaaRd
namespace Go.Proofs.Ytphinkcfmdnpfaa
open Go.RowKit

def Added (w : World) (zs : List (Int × Int)) (s : Int × Int) (e : Ending) (w' : World) : Prop :=
  ∃ g cap, e = .returned (.slice (some ⟨g, 0, none⟩) (addL zs s).length cap) ∧ w'.ownsRow w.heap.size 29 2 (.slice (some ⟨g, 0, none⟩) (addL zs s).length cap) (addL zs s).length (flat (addL zs s)) ∧ Below w.heap.size w w'

theorem owns_drewN {w : World} {base n : Nat} {v : Value} {xs : List Value} {e : TypeId} {size : Nat} (h : w.ownsRow base e size v n xs) (k : Nat) : (w.drewN k).ownsRow base e size v n xs := h
theorem owns_base {w : World} {base base' n : Nat} {v : Value} {xs : List Value} {e : TypeId} {size : Nat} (h : w.ownsRow base e size v n xs) (hb : base' ≤ base) : w.ownsRow base' e size v n xs := by
  refine ⟨h.1, ?_⟩
  rcases h.2 with h1 | ⟨g, c, cur, h1, h2, h3⟩
  · exact .inl h1
  · exact .inr ⟨g, c, cur, h1, by omega, h3⟩
theorem owns_form {w : World} {base n : Nat} {v : Value} {xs : List Value} {e : TypeId} {size : Nat} (h : w.ownsRow base e size v n xs) (hv : v ≠ .slice none 0 0) : ∃ g c, v = .slice (some ⟨g, 0, none⟩) n c ∧ base ≤ g ∧ g < w.heap.size := by
  rcases h.2 with ⟨h1, _⟩ | ⟨g, c, cur, h1, h2, h3, _⟩
  · exact absurd h1 hv
  · exact ⟨g, c, h1, h2, by
      rcases Nat.lt_or_ge g w.heap.size with hlt | hge
      · exact hlt
      · rw [Array.getElem?_eq_none hge] at h3; cases h3⟩

/-- Between two rounds of the first loop. -/
def Rel1 (w : World) (zs : List (Int × Int)) (a b : Int) (k : Nat) (v : Value) (wr : World) : Prop :=
  ∃ o x y, scan zs (a, b) k = (o, x, y) ∧ wr.ownsRow (w.heap.size + 1) 29 2 v o.length (flat o) ∧ v ≠ .slice none 0 0 ∧ wr.cell? ⟨w.heap.size, 0, none⟩ = some (.int .i64 x) ∧ wr.cell? ⟨w.heap.size, 1, none⟩ = some (.int .i64 y) ∧
    wr.frozen? ⟨w.heap.size, 0, none⟩ = false ∧ wr.frozen? ⟨w.heap.size, 1, none⟩ = false ∧ Below w.heap.size w wr

/-- Between two rounds of the second loop. -/
def Rel2 (w : World) (zs o1 : List (Int × Int)) (y : Int) (k : Nat) (v : Value) (wr : World) : Prop :=
  ∃ o, o = o1 ++ tailTo zs y k ∧ wr.ownsRow (w.heap.size + 1) 29 2 v o.length (flat o) ∧ v ≠ .slice none 0 0 ∧ wr.cell? ⟨w.heap.size, 1, none⟩ = some (.int .i64 y) ∧ Below w.heap.size w wr

set_option maxRecDepth 100000 in
set_option maxHeartbeats 4000000 in
theorem l1Add_any (A : Option Addr) (cap : Nat) (zs : List (Int × Int)) (a b : Int) (w : World) (hz : Spans w A zs) (hl : zs.length ≤ 4194304) :
    Calls Try.prog 125 #[.slice A zs.length cap, .agg #[.int .i64 a, .int .i64 b]] w (Added w zs (a, b)) := by
  obtain ⟨i0, hi, hz0, hz1, hz2⟩ := info_parts Try.info29
  have Hi := Lib.hid hi
  have Hz0 := Lib.hid hz0
  have Hz1 := Lib.hid hz1
  have Hz2 := Lib.hid hz2
  clear hi hz0 hz1 hz2
  go_enter Try.func125, Try.ntmps125
  go_wp2
  go_loopw [5, 6] (fun v i wr => ∃ k : Nat, k ≤ zs.length ∧ i = .int .i64 k ∧ Rel1 w zs a b k v wr) (fun _ i _ => zs.length - (intOf i).toNat)
  case atStart =>
    refine ⟨0, Nat.zero_le _, rfl, [], a, b, rfl, ?_, by simp, by simp, by simp, by simp, by simp, ((Below.refl _ _).alloc (Nat.le_refl _) _).alloc (by simp) _⟩
    have := World.ownsRow_lit (base := w.heap.size + 1) (e := 29) (size := 2) (w.alloc (Obj.cells #[Value.int IntKind.i64 a, Value.int IntKind.i64 b] 29)) #[] 0 (by simp) (by simp [maxLen]) (by simp)
    simpa [flat] using this
  case round =>
    obtain ⟨k, hk, rfl, o, x, y, hsc, hown, hnn, hx, hy, fx, fy, hbr⟩ := hrel
    obtain ⟨g, c, rfl, hg1, hg2⟩ := owns_form hown hnn
    have hol : o.length ≤ k := by have := scan_len zs (a, b) k; rw [hsc] at this; exact this
    have Hsc := Lib.hid hsc
    have Hown := Lib.hid hown
    clear hsc hown hnn
    by_cases hlt : k < zs.length
    · obtain ⟨b0, off, rfl, hcells⟩ := hz (by omega)
      obtain ⟨c0, c1⟩ := hcells k hlt
      obtain ⟨f, hf⟩ : ∃ f, (zs.getD k (0, 0)).1 = f := ⟨_, rfl⟩
      obtain ⟨t, ht⟩ : ∃ t, (zs.getD k (0, 0)).2 = t := ⟨_, rfl⟩
      rw [hf] at c0
      rw [ht] at c1
      have c0r : wr.cell? ⟨b0, off + k * 2, none⟩ = some (.int .i64 f) := cell_below hbr (World.block_lt_of_cell? _ _ c0) c0
      have c1r : wr.cell? ⟨b0, off + k * 2 + 1, none⟩ = some (.int .i64 t) := cell_below hbr (World.block_lt_of_cell? _ _ c1) c1
      have hb0 : b0 < w.heap.size := World.block_lt_of_cell? _ _ c0
      have Hf := Lib.hid hf
      have Ht := Lib.hid ht
      clear hcells c0 c1 hf ht
      by_cases h1 : t < x
      · have d1 : decide (t < x) = true := by simpa using h1
        have d2 : decide (x ≤ t) = false := by simp; omega
        have H1 := Lib.hid h1
        clear h1
        go_wp2_with fail
        go_quiet (fail)
        have e0 : (wr.drewN nq).cell? ⟨w.heap.size, 0, none⟩ = some (.int .i64 x) := hx
        have e1 : (wr.drewN nq).cell? ⟨w.heap.size, 1, none⟩ = some (.int .i64 y) := hy
        have e2 : (wr.drewN nq).frozen? ⟨w.heap.size, 0, none⟩ = false := fx
        have e3 : (wr.drewN nq).frozen? ⟨w.heap.size, 1, none⟩ = false := fy
        have e4 : (wr.drewN nq).cell? ⟨b0, off + k * 2, none⟩ = some (.int .i64 f) := c0r
        have e5 : (wr.drewN nq).cell? ⟨b0, off + k * 2 + 1, none⟩ = some (.int .i64 t) := c1r
        have e6 : Below w.heap.size w (wr.drewN nq) := below_drewN hbr nq
        have e7 := Lib.hid (show (wr.drewN nq).ownsRow (w.heap.size + 1) 29 2 (.slice (some ⟨g, 0, none⟩) o.length c) o.length (flat o) from Hown.out)
        have e8 : g < (wr.drewN nq).heap.size := hg2
        clear hx hy fx fy c0r c1r hbr Hown hg2
        generalize wr.drewN nq = wq at *
        have hx := e0
        have hy := e1
        have fx := e2
        have fy := e3
        have c0r := e4
        have c1r := e5
        have hbr := e6
        have Hown := e7
        have hg2 := e8
        clear e0 e1 e2 e3 e4 e5 e6 e7 e8
        go_wp2_with (at_builtin; refine wpList_append_own _ rfl _ _ 33 rfl (w.heap.size + 1) 29 i0 _ 2 16 Try.underlying33 Hi.out Hz0.out Hz1.out Hz2.out rfl (by decide) _ o.length (flat o) rfl (Hown.out.alloc _) ⟨wq.heap.size, 0, none⟩ 1 1 [.int .i64 f, .int .i64 t] rfl rfl (news_two (by simp) (by simp)) (by simp [Value.oneCell']) (by unfold maxLen; omega) (by omega) (by have := hbr.size; simp; omega) ?_; intro v' w1 hown' hgrow hnil)
        have hgq : w.heap.size ≠ g := by omega
        have hgb : b0 ≠ g := by omega
        have hgrow' : wq.grownBy w1 (some g) := grown_trans (grown_alloc (grown_refl wq (some g)) _) hgrow
        have k0 := grown_cell hgrow' hgq hx
        have k1 := grown_cell hgrow' hgq hy
        have hwq : w.heap.size < wq.heap.size := by omega
        have k2 := (World.frozen?_of_block (a := ⟨w.heap.size, 0, none⟩) (hgrow'.block w.heap.size hwq (fun e => hgq (by injection e)))).trans fx
        have k3 := (World.frozen?_of_block (a := ⟨w.heap.size, 1, none⟩) (hgrow'.block w.heap.size hwq (fun e => hgq (by injection e)))).trans fy
        have k4 := grown_cell hgrow' hgb c0r
        have k5 := grown_cell hgrow' hgb c1r
        have k6 : Below w.heap.size w w1 := hbr.grown hgrow' hbr.size (fun j e => by injection e with e; omega)
        have k7 := Lib.hid (owns_snoc (f := f) (t := t) hown' rfl)
        have k8 : v' ≠ .slice none 0 0 := fun h => by have := (hnil.1 h).2; omega
        have K8 := Lib.hid k8
        clear hx hy fx fy c0r c1r hbr Hown hgrow hgrow' hnil hown' k8
        go_wp2_with fail
        go_quiet (fail)
        go_wp2
        go_roundw
        case rel => exact ⟨k + 1, by omega, by go_num, o ++ [(f, t)], x, y, scan_app Hsc.out Hf.out Ht.out H1.out, k7.out, K8.out, k0, k1, k2, k3, below_drewN k6 _⟩
        case measure => simp [intOf]; omega
      · have d1 : decide (t < x) = false := by simp; omega
        have d2 : decide (x ≤ t) = true := by simp; omega
        have hbne : b0 ≠ w.heap.size := by omega
        have hbne' : w.heap.size ≠ b0 := by omega
        have H1 := Lib.hid h1
        clear h1
        by_cases h2 : f ≤ y
        · have d3 : decide (f ≤ y) = true := by simpa using h2
          have H2 := Lib.hid h2
          clear h2
          by_cases h3 : f < x
          · have d4 : decide (f < x) = true := by simpa using h3
            have H3 := Lib.hid h3
            clear h3
            by_cases h4 : y < t
            · have d5 : decide (y < t) = true := by simpa using h4
              have H4 := Lib.hid h4
              clear h4
              go_wp2_with fail
              go_quiet (fail)
              go_wp2_with fail
              go_quiet (fail)
              go_wp2_with fail
              go_quiet (fail)
              go_wp2_with fail
              go_quiet (fail)
              go_wp2
              go_roundw
              case rel => exact ⟨k + 1, by omega, by go_num, o, f, t, scan_grow Hsc.out Hf.out Ht.out (by have := H1.out; omega) (by have := H2.out; omega) (if_pos H3.out) (if_pos H4.out), (by repeat (first | exact Hown.out | refine owns_drewN ?_ _ | refine ownsRow_setCell_below ?_ (by show w.heap.size < w.heap.size + 1; omega) _)), by simp, (by simp [go_sem, hx]), (by simp [go_sem, hy]), (by simp [go_sem, fx]), (by simp [go_sem, fy]), (by repeat (first | exact hbr | refine below_drewN ?_ _ | refine Below.setCell ?_ (by simp) _))⟩
              case measure => simp [intOf]; omega
            · have d5 : decide (y < t) = false := by simpa using h4
              have H4 := Lib.hid h4
              clear h4
              go_wp2_with fail
              go_quiet (fail)
              go_wp2_with fail
              go_quiet (fail)
              go_wp2_with fail
              go_quiet (fail)
              go_wp2_with fail
              go_quiet (fail)
              go_wp2
              go_roundw
              case rel => exact ⟨k + 1, by omega, by go_num, o, f, y, scan_grow Hsc.out Hf.out Ht.out (by have := H1.out; omega) (by have := H2.out; omega) (if_pos H3.out) (if_neg (by have := H4.out; omega)), (by repeat (first | exact Hown.out | refine owns_drewN ?_ _ | refine ownsRow_setCell_below ?_ (by show w.heap.size < w.heap.size + 1; omega) _)), by simp, (by simp [go_sem, hx]), (by simp [go_sem, hy]), (by simp [go_sem, fx]), (by simp [go_sem, fy]), (by repeat (first | exact hbr | refine below_drewN ?_ _ | refine Below.setCell ?_ (by simp) _))⟩
              case measure => simp [intOf]; omega
          · have d4 : decide (f < x) = false := by simpa using h3
            have H3 := Lib.hid h3
            clear h3
            by_cases h4 : y < t
            · have d5 : decide (y < t) = true := by simpa using h4
              have H4 := Lib.hid h4
              clear h4
              go_wp2_with fail
              go_quiet (fail)
              go_wp2_with fail
              go_quiet (fail)
              go_wp2_with fail
              go_quiet (fail)
              go_wp2_with fail
              go_quiet (fail)
              go_wp2
              go_roundw
              case rel => exact ⟨k + 1, by omega, by go_num, o, x, t, scan_grow Hsc.out Hf.out Ht.out (by have := H1.out; omega) (by have := H2.out; omega) (if_neg (by have := H3.out; omega)) (if_pos H4.out), (by repeat (first | exact Hown.out | refine owns_drewN ?_ _ | refine ownsRow_setCell_below ?_ (by show w.heap.size < w.heap.size + 1; omega) _)), by simp, (by simp [go_sem, hx]), (by simp [go_sem, hy]), (by simp [go_sem, fx]), (by simp [go_sem, fy]), (by repeat (first | exact hbr | refine below_drewN ?_ _ | refine Below.setCell ?_ (by simp) _))⟩
              case measure => simp [intOf]; omega
            · have d5 : decide (y < t) = false := by simpa using h4
              have H4 := Lib.hid h4
              clear h4
              go_wp2_with fail
              go_quiet (fail)
              go_wp2_with fail
              go_quiet (fail)
              go_wp2_with fail
              go_quiet (fail)
              go_wp2_with fail
              go_quiet (fail)
              go_wp2
              go_roundw
              case rel => exact ⟨k + 1, by omega, by go_num, o, x, y, scan_grow Hsc.out Hf.out Ht.out (by have := H1.out; omega) (by have := H2.out; omega) (if_neg (by have := H3.out; omega)) (if_neg (by have := H4.out; omega)), (by repeat (first | exact Hown.out | refine owns_drewN ?_ _ | refine ownsRow_setCell_below ?_ (by show w.heap.size < w.heap.size + 1; omega) _)), by simp, (by simp [go_sem, hx]), (by simp [go_sem, hy]), (by simp [go_sem, fx]), (by simp [go_sem, fy]), (by repeat (first | exact hbr | refine below_drewN ?_ _ | refine Below.setCell ?_ (by simp) _))⟩
              case measure => simp [intOf]; omega
        · have d3 : decide (f ≤ y) = false := by simpa using h2
          have H2 := Lib.hid h2
          clear h2
          go_wp2_with fail
          go_quiet (fail)
          go_wp2_with fail
          go_quiet (fail)
          go_wp2
          go_roundw
          case rel => exact ⟨k + 1, by omega, by go_num, o, x, y, scan_skip Hsc.out Hf.out Ht.out (by have := H1.out; omega) (by have := H2.out; omega), (by repeat (first | exact Hown.out | refine owns_drewN ?_ _ | refine ownsRow_setCell_below ?_ (by show w.heap.size < w.heap.size + 1; omega) _)), by simp, (by simp [go_sem, hx]), (by simp [go_sem, hy]), (by simp [go_sem, fx]), (by simp [go_sem, fy]), (by repeat (first | exact hbr | refine below_drewN ?_ _ | refine Below.setCell ?_ (by simp) _))⟩
          case measure => simp [intOf]; omega
    · obtain rfl : k = zs.length := by omega
      go_wp2_with (at_builtin; refine wpList_append_own _ rfl _ _ 33 rfl (w.heap.size + 1) 29 i0 _ 2 16 Try.underlying33 Hi.out Hz0.out Hz1.out Hz2.out rfl (by decide) _ o.length (flat o) rfl (Hown.out.alloc _) ⟨wr.heap.size, 0, none⟩ 1 1 [.int .i64 x, .int .i64 y] rfl rfl (news_two (by simp) (by simp)) (by simp [Value.oneCell']) (by unfold maxLen; omega) (by omega) (by have := hbr.size; simp; omega) ?_; intro v' w1 hown' hgrow hnil)
      have hgq : w.heap.size ≠ g := by omega
      have hwr : w.heap.size < wr.heap.size := by omega
      have hgrow' : wr.grownBy w1 (some g) := grown_trans (grown_alloc (grown_refl wr (some g)) _) hgrow
      have k1 := grown_cell hgrow' hgq hy
      have k6 : Below w.heap.size w w1 := hbr.grown hgrow' hbr.size (fun j e => by injection e with e; omega)
      have k7 := Lib.hid (owns_snoc (f := x) (t := y) hown' rfl)
      have k8 : v' ≠ .slice none 0 0 := fun h => by have := (hnil.1 h).2; omega
      have K8 := Lib.hid k8
      obtain ⟨o1, ho1⟩ : ∃ o1, o ++ [(x, y)] = o1 := ⟨_, rfl⟩
      have hol1 : o1.length ≤ zs.length + 1 := by rw [← ho1]; simp; omega
      have hadd := addL_eq Hsc.out
      rw [ho1] at k7 hadd
      have Hadd := Lib.hid hadd
      clear hx hy fx fy hbr Hown hgrow hgrow' hnil hown' k8 Hsc hadd ho1 hg2 hgq hwr
      go_loopw [5, 7] (fun v i wr => ∃ k : Nat, k ≤ zs.length ∧ i = .int .i64 k ∧ Rel2 w zs o1 y k v wr) (fun _ i _ => zs.length - (intOf i).toNat)
      case atStart => exact ⟨0, Nat.zero_le _, rfl, o1, by simp [tailTo], k7.out, K8.out, k1, k6⟩
      case round =>
        obtain ⟨k, hk, rfl, q, hq, hown, hnn, hy, hbr⟩ := hrel
        obtain ⟨g, c, rfl, hg1, hg2⟩ := owns_form hown hnn
        have hql : q.length ≤ 2 * zs.length + 1 := by have := tail_len zs y k; rw [hq]; simp; omega
        have Hq := Lib.hid hq
        have Hown := Lib.hid hown
        clear hq hown hnn k1 k6 k7 K8
        by_cases hlt : k < zs.length
        · obtain ⟨b0, off, rfl, hcells⟩ := hz (by omega)
          obtain ⟨c0, c1⟩ := hcells k hlt
          obtain ⟨f, hf⟩ : ∃ f, (zs.getD k (0, 0)).1 = f := ⟨_, rfl⟩
          obtain ⟨t, ht⟩ : ∃ t, (zs.getD k (0, 0)).2 = t := ⟨_, rfl⟩
          rw [hf] at c0
          rw [ht] at c1
          have c0r : wr.cell? ⟨b0, off + k * 2, none⟩ = some (.int .i64 f) := cell_below hbr (World.block_lt_of_cell? _ _ c0) c0
          have c1r : wr.cell? ⟨b0, off + k * 2 + 1, none⟩ = some (.int .i64 t) := cell_below hbr (World.block_lt_of_cell? _ _ c1) c1
          have Hf := Lib.hid hf
          have Ht := Lib.hid ht
          clear hcells c0 c1 hf ht
          by_cases h1 : y < f
          · have d1 : decide (y < f) = true := by simpa using h1
            have H1 := Lib.hid h1
            clear h1
            go_wp2_with fail
            go_quiet (fail)
            have e1 : (wr.drewN nq).cell? ⟨w.heap.size, 1, none⟩ = some (.int .i64 y) := hy
            have e4 : (wr.drewN nq).cell? ⟨b0, off + k * 2, none⟩ = some (.int .i64 f) := c0r
            have e5 : (wr.drewN nq).cell? ⟨b0, off + k * 2 + 1, none⟩ = some (.int .i64 t) := c1r
            have e6 : Below w.heap.size w (wr.drewN nq) := below_drewN hbr nq
            have e7 := Lib.hid (show (wr.drewN nq).ownsRow (w.heap.size + 1) 29 2 (.slice (some ⟨g, 0, none⟩) q.length c) q.length (flat q) from Hown.out)
            have e8 : g < (wr.drewN nq).heap.size := hg2
            clear hy c0r c1r hbr Hown hg2
            generalize wr.drewN nq = wq at *
            have hy := e1
            have c0r := e4
            have c1r := e5
            have hbr := e6
            have Hown := e7
            have hg2 := e8
            clear e1 e4 e5 e6 e7 e8
            go_wp2_with (at_builtin; refine wpList_append_own _ rfl _ _ 33 rfl (w.heap.size + 1) 29 i0 _ 2 16 Try.underlying33 Hi.out Hz0.out Hz1.out Hz2.out rfl (by decide) _ q.length (flat q) rfl (Hown.out.alloc _) ⟨wq.heap.size, 0, none⟩ 1 1 [.int .i64 f, .int .i64 t] rfl rfl (news_two (by simp) (by simp)) (by simp [Value.oneCell']) (by unfold maxLen; omega) (by omega) (by have := hbr.size; simp; omega) ?_; intro v' w1 hown' hgrow hnil)
            have hgq : w.heap.size ≠ g := by omega
            have hgrow' : wq.grownBy w1 (some g) := grown_trans (grown_alloc (grown_refl wq (some g)) _) hgrow
            have k1 := grown_cell hgrow' hgq hy
            have k6 : Below w.heap.size w w1 := hbr.grown hgrow' hbr.size (fun j e => by injection e with e; omega)
            have k7 := Lib.hid (owns_snoc (f := f) (t := t) hown' rfl)
            have k8 : v' ≠ .slice none 0 0 := fun h => by have := (hnil.1 h).2; omega
            have K8 := Lib.hid k8
            clear hy c0r c1r hbr Hown hgrow hgrow' hnil hown' k8
            go_wp2
            go_roundw
            case rel => exact ⟨k + 1, by omega, by go_num, q ++ [(f, t)], by rw [Hq.out, tail_app Hf.out Ht.out H1.out, List.append_assoc], k7.out, K8.out, k1, k6⟩
            case measure => simp [intOf]; omega
          · have d1 : decide (y < f) = false := by simpa using h1
            have H1 := Lib.hid h1
            clear h1
            go_wp2_with fail
            go_quiet (fail)
            go_wp2
            go_roundw
            case rel => exact ⟨k + 1, by omega, by go_num, q, by rw [Hq.out, tail_skip Hf.out (by have := H1.out; omega)], Hown.out, by simp, hy, below_drewN hbr _⟩
            case measure => simp [intOf]; omega
        · obtain rfl : k = zs.length := by omega
          go_wp2
          go_ret
          obtain rfl : q = addL zs (a, b) := Hq.out.trans Hadd.out
          exact ⟨g, c, rfl, owns_base Hown.out (by omega), hbr⟩
end Go.Proofs.Ytphinkcfmdnpfaa
