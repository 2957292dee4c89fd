/-
  Walk: a thing to be done as a line of text (the model's l7Op).
-/
import Derived.Test.YtmfpojminbkojaaTxW
namespace Go.Proofs.Ytmfpojminbkojaa
open Go.RowKit Go.Lib

theorem nil_size {s : ByteArray} (h : s.size = 0) : s = ⟨#[]⟩ := by
  apply ByteArray.ext
  exact Array.eq_empty_of_size_eq_zero h
theorem text_some {s : ByteArray} (h : ¬ s.size = 0) : (s.toList == (⟨#[]⟩ : ByteArray).toList) = false ∧ s.toList.isEmpty = false := by
  have h1 : (s.toList == (⟨#[]⟩ : ByteArray).toList) = false := by
    cases he : (s.toList == (⟨#[]⟩ : ByteArray).toList) with
    | false => rfl
    | true =>
      rw [beq_iff_eq, ByteArray.toList_eq, ByteArray.toList_eq] at he
      have h4 : s = ⟨#[]⟩ := by rw [ByteArray.ext_iff]; exact Array.ext' he
      exact absurd (by rw [h4]; rfl) h
  refine ⟨h1, ?_⟩
  cases he : s.toList with
  | nil => rw [he] at h1; simp [go_sem] at h1
  | cons a l => rfl
set_option maxRecDepth 100000 in
set_option maxHeartbeats 8000000 in
theorem l7Op_open (k t f e : Nat) (b c tx d a1 a2 wk : ByteArray) (w : World) (hk : k < 5) (hwk : wrdB k = wk) (hd : txtB tx = d) (z0 : wk.size ≤ 100) (z1 : b.size ≤ 100) (z2 : c.size ≤ 100) (z3 : d.size ≤ 100) (z4 : a1.size ≤ 100) (z5 : a2.size ≤ 100)
    (ht : ∀ W : World, Calls Try.prog 105 #[.int .i64 (t : Int)] W fun e w' => e = .returned (.string b) ∧ Below W.heap.size W w')
    (hf : ∀ W : World, Calls Try.prog 105 #[.int .i64 (f : Int)] W fun e w' => e = .returned (.string a1) ∧ Below W.heap.size W w')
    (he : ∀ W : World, Calls Try.prog 105 #[.int .i64 (e : Int)] W fun e w' => e = .returned (.string a2) ∧ Below W.heap.size W w') :
    Calls Try.prog 86 #[.agg #[.int .i64 (k : Int), .int .i64 (t : Int), .string c, .string tx, .int .i64 (f : Int), .int .i64 (e : Int)]] w fun e w' => e = .returned (.string (lineOf wk b c d a1 a2)) ∧ Below w.heap.size w w' := by
  have HT := Lib.hid ht
  have HF := Lib.hid hf
  have HE := Lib.hid he
  have sp1 : (⟨#[32]⟩ : ByteArray).size = 1 := rfl
  have nl1 : (⟨#[10]⟩ : ByteArray).size = 1 := rfl
  obtain ⟨yx0, hx0⟩ : ∃ y : ByteArray, wk ++ (⟨#[32]⟩ : ByteArray) = y := ⟨_, rfl⟩
  have sx0 : yx0.size = wk.size + (⟨#[32]⟩ : ByteArray).size := by rw [← hx0, ByteArray.size_append]
  have ux0 : ∀ W : World, (Op.stringOp .add wk (⟨#[32]⟩ : ByteArray)).run Try.prog W = .ok (.string yx0) W := fun W => hx0 ▸ str_add _ _ (by omega) (by omega) W
  obtain ⟨yx1, hx1⟩ : ∃ y : ByteArray, yx0 ++ b = y := ⟨_, rfl⟩
  have sx1 : yx1.size = yx0.size + b.size := by rw [← hx1, ByteArray.size_append]
  have ux1 : ∀ W : World, (Op.stringOp .add yx0 b).run Try.prog W = .ok (.string yx1) W := fun W => hx1 ▸ str_add _ _ (by omega) (by omega) W
  obtain ⟨yx2, hx2⟩ : ∃ y : ByteArray, yx1 ++ (⟨#[32]⟩ : ByteArray) = y := ⟨_, rfl⟩
  have sx2 : yx2.size = yx1.size + (⟨#[32]⟩ : ByteArray).size := by rw [← hx2, ByteArray.size_append]
  have ux2 : ∀ W : World, (Op.stringOp .add yx1 (⟨#[32]⟩ : ByteArray)).run Try.prog W = .ok (.string yx2) W := fun W => hx2 ▸ str_add _ _ (by omega) (by omega) W
  obtain ⟨yx3, hx3⟩ : ∃ y : ByteArray, yx2 ++ c = y := ⟨_, rfl⟩
  have sx3 : yx3.size = yx2.size + c.size := by rw [← hx3, ByteArray.size_append]
  have ux3 : ∀ W : World, (Op.stringOp .add yx2 c).run Try.prog W = .ok (.string yx3) W := fun W => hx3 ▸ str_add _ _ (by omega) (by omega) W
  obtain ⟨yx4, hx4⟩ : ∃ y : ByteArray, yx3 ++ (⟨#[32]⟩ : ByteArray) = y := ⟨_, rfl⟩
  have sx4 : yx4.size = yx3.size + (⟨#[32]⟩ : ByteArray).size := by rw [← hx4, ByteArray.size_append]
  have ux4 : ∀ W : World, (Op.stringOp .add yx3 (⟨#[32]⟩ : ByteArray)).run Try.prog W = .ok (.string yx4) W := fun W => hx4 ▸ str_add _ _ (by omega) (by omega) W
  obtain ⟨yx5, hx5⟩ : ∃ y : ByteArray, yx4 ++ d = y := ⟨_, rfl⟩
  have sx5 : yx5.size = yx4.size + d.size := by rw [← hx5, ByteArray.size_append]
  have ux5 : ∀ W : World, (Op.stringOp .add yx4 d).run Try.prog W = .ok (.string yx5) W := fun W => hx5 ▸ str_add _ _ (by omega) (by omega) W
  obtain ⟨yx6, hx6⟩ : ∃ y : ByteArray, yx5 ++ (⟨#[32]⟩ : ByteArray) = y := ⟨_, rfl⟩
  have sx6 : yx6.size = yx5.size + (⟨#[32]⟩ : ByteArray).size := by rw [← hx6, ByteArray.size_append]
  have ux6 : ∀ W : World, (Op.stringOp .add yx5 (⟨#[32]⟩ : ByteArray)).run Try.prog W = .ok (.string yx6) W := fun W => hx6 ▸ str_add _ _ (by omega) (by omega) W
  obtain ⟨yx7, hx7⟩ : ∃ y : ByteArray, yx6 ++ a1 = y := ⟨_, rfl⟩
  have sx7 : yx7.size = yx6.size + a1.size := by rw [← hx7, ByteArray.size_append]
  have ux7 : ∀ W : World, (Op.stringOp .add yx6 a1).run Try.prog W = .ok (.string yx7) W := fun W => hx7 ▸ str_add _ _ (by omega) (by omega) W
  obtain ⟨yx8, hx8⟩ : ∃ y : ByteArray, yx7 ++ (⟨#[32]⟩ : ByteArray) = y := ⟨_, rfl⟩
  have sx8 : yx8.size = yx7.size + (⟨#[32]⟩ : ByteArray).size := by rw [← hx8, ByteArray.size_append]
  have ux8 : ∀ W : World, (Op.stringOp .add yx7 (⟨#[32]⟩ : ByteArray)).run Try.prog W = .ok (.string yx8) W := fun W => hx8 ▸ str_add _ _ (by omega) (by omega) W
  obtain ⟨yx9, hx9⟩ : ∃ y : ByteArray, yx8 ++ a2 = y := ⟨_, rfl⟩
  have sx9 : yx9.size = yx8.size + a2.size := by rw [← hx9, ByteArray.size_append]
  have ux9 : ∀ W : World, (Op.stringOp .add yx8 a2).run Try.prog W = .ok (.string yx9) W := fun W => hx9 ▸ str_add _ _ (by omega) (by omega) W
  obtain ⟨yxx, hxx⟩ : ∃ y : ByteArray, yx9 ++ (⟨#[10]⟩ : ByteArray) = y := ⟨_, rfl⟩
  have sxx : yxx.size = yx9.size + (⟨#[10]⟩ : ByteArray).size := by rw [← hxx, ByteArray.size_append]
  have uxx : ∀ W : World, (Op.stringOp .add yx9 (⟨#[10]⟩ : ByteArray)).run Try.prog W = .ok (.string yxx) W := fun W => hxx ▸ str_add _ _ (by omega) (by omega) W
  have HL := Lib.hid (show lineOf wk b c d a1 a2 = yxx from by rw [lineOf, spB, nlB, hx0, hx1, hx2, hx3, hx4, hx5, hx6, hx7, hx8, hx9, hxx])
  clear sx0 sx1 sx2 sx3 sx4 sx5 sx6 sx7 sx8 sx9 sxx hx0 hx1 hx2 hx3 hx4 hx5 hx6 hx7 hx8 hx9 hxx
  clear ht hf he
  by_cases hz : tx.size = 0
  · obtain rfl := nil_size hz
    have hd' : d = ⟨#[45]⟩ := by rw [← hd]; rfl
    subst hd'
    clear hd hz
    go_enter Try.func86, Try.ntmps86
    go_upto_region 4 with fail
    generalize hW : w.alloc _ = W0
    have c0 : W0.cell? ⟨w.heap.size, 0, none⟩ = some (.int .i64 (k : Int)) := by rw [← hW]; simp [go_sem]
    have c1 : W0.cell? ⟨w.heap.size, 1, none⟩ = some (.int .i64 (t : Int)) := by rw [← hW]; simp [go_sem]
    have c2 : W0.cell? ⟨w.heap.size, 2, none⟩ = some (.string c) := by rw [← hW]; simp [go_sem]
    have c3 : W0.cell? ⟨w.heap.size, 3, none⟩ = some (.string ⟨#[]⟩) := by rw [← hW]; simp [go_sem]
    have c4 : W0.cell? ⟨w.heap.size, 4, none⟩ = some (.int .i64 (f : Int)) := by rw [← hW]; simp [go_sem]
    have c5 : W0.cell? ⟨w.heap.size, 5, none⟩ = some (.int .i64 (e : Int)) := by rw [← hW]; simp [go_sem]
    have lx : w.heap.size < W0.heap.size := by rw [← hW]; simp
    have B0 := Lib.hid (show Below w.heap.size w W0 from by rw [← hW]; exact (Below.refl _ _).alloc (Nat.le_refl _) _)
    clear hW
    have hk0 : (0 : Int) ≤ (k : Int) := by omega
    have hk5 : (k : Int) < 5 := by omega
    have hq0 : Below W0.heap.size W0 W0 := Below.refl _ _
    go_region_held3 (fun w' => w'.cell? ⟨w.heap.size, 0, none⟩ = some (.int .i64 (k : Int)) ∧ w'.cell? ⟨w.heap.size, 1, none⟩ = some (.int .i64 (t : Int)) ∧ w'.cell? ⟨w.heap.size, 2, none⟩ = some (.string c) ∧ w'.cell? ⟨w.heap.size, 3, none⟩ = some (.string ⟨#[]⟩) ∧ w'.cell? ⟨w.heap.size, 4, none⟩ = some (.int .i64 (f : Int)) ∧ w'.cell? ⟨w.heap.size, 5, none⟩ = some (.int .i64 (e : Int)) ∧ W0.heap.size ≤ w'.heap.size ∧ Below W0.heap.size W0 w')
      (((try go_split_ands); refine ⟨?cc90, ?cc91, ?cc92, ?cc93, ?cc94, ?cc95, ?sz9, ?bl9⟩; (case cc90 => (repeat (first | with_reducible assumption | with_reducible refine cell_below hb (by first | omega | (simp; done) | (simp; omega)) ?_ | with_reducible refine cell_set_far (by first | omega | (simp; done) | (simp; omega)) ?_ | with_reducible exact cell_alloc_swap (by with_reducible assumption) (by first | omega | (simp; done) | (simp; omega)) | with_reducible refine cell_alloc_far ?_ | with_reducible refine cell_drew ?_))); (case cc91 => (repeat (first | with_reducible assumption | with_reducible refine cell_below hb (by first | omega | (simp; done) | (simp; omega)) ?_ | with_reducible refine cell_set_far (by first | omega | (simp; done) | (simp; omega)) ?_ | with_reducible exact cell_alloc_swap (by with_reducible assumption) (by first | omega | (simp; done) | (simp; omega)) | with_reducible refine cell_alloc_far ?_ | with_reducible refine cell_drew ?_))); (case cc92 => (repeat (first | with_reducible assumption | with_reducible refine cell_below hb (by first | omega | (simp; done) | (simp; omega)) ?_ | with_reducible refine cell_set_far (by first | omega | (simp; done) | (simp; omega)) ?_ | with_reducible exact cell_alloc_swap (by with_reducible assumption) (by first | omega | (simp; done) | (simp; omega)) | with_reducible refine cell_alloc_far ?_ | with_reducible refine cell_drew ?_))); (case cc93 => (repeat (first | with_reducible assumption | with_reducible refine cell_below hb (by first | omega | (simp; done) | (simp; omega)) ?_ | with_reducible refine cell_set_far (by first | omega | (simp; done) | (simp; omega)) ?_ | with_reducible exact cell_alloc_swap (by with_reducible assumption) (by first | omega | (simp; done) | (simp; omega)) | with_reducible refine cell_alloc_far ?_ | with_reducible refine cell_drew ?_))); (case cc94 => (repeat (first | with_reducible assumption | with_reducible refine cell_below hb (by first | omega | (simp; done) | (simp; omega)) ?_ | with_reducible refine cell_set_far (by first | omega | (simp; done) | (simp; omega)) ?_ | with_reducible exact cell_alloc_swap (by with_reducible assumption) (by first | omega | (simp; done) | (simp; omega)) | with_reducible refine cell_alloc_far ?_ | with_reducible refine cell_drew ?_))); (case cc95 => (repeat (first | with_reducible assumption | with_reducible refine cell_below hb (by first | omega | (simp; done) | (simp; omega)) ?_ | with_reducible refine cell_set_far (by first | omega | (simp; done) | (simp; omega)) ?_ | with_reducible exact cell_alloc_swap (by with_reducible assumption) (by first | omega | (simp; done) | (simp; omega)) | with_reducible refine cell_alloc_far ?_ | with_reducible refine cell_drew ?_))); (case sz9 => (first | with_reducible assumption | (have := hb.size; omega) | omega | (simp; done) | (simp; omega) | (have := hb.size; simp at this ⊢; omega))); (case bl9 => (repeat (first | with_reducible assumption | with_reducible exact hq0 | with_reducible refine Below.drew ?_ | with_reducible refine Below.trans ?_ (hb.mono (by first | omega | (simp; done) | (simp; omega))) | with_reducible refine Below.setCell ?_ (by first | omega | (simp; done) | (simp; omega)) _ | with_reducible exact below_alloc_swap (by with_reducible assumption) (by first | omega | (simp; done) | (simp; omega)) | with_reducible refine Below.alloc ?_ (by first | omega | (simp; done) | (simp; omega)) _)))))
      (first
      | (go_at_call 104; (with_reducible refine (l7Words_any _).mono ?_); rintro e9 w1 ⟨g, rfl, hb, hg0, hg1, hcs⟩; have hcell := hcs k (by omega); rw [hwk] at hcell; clear hcs; have hsz : W0.heap.size ≤ w1.heap.size := (by have := hb.size; first | omega | (simp at this; omega)); obtain ⟨hc, hf, hlb⟩ := bcell3 hb)
      | (go_at_call 105; (first | with_reducible refine (HT.out _).mono ?_ | with_reducible refine (HF.out _).mono ?_ | with_reducible refine (HE.out _).mono ?_); rintro e9 w1 ⟨rfl, hb⟩; have hsz : W0.heap.size ≤ w1.heap.size := (by have := hb.size; first | omega | (simp at this; omega)); obtain ⟨hc, hf, hlb⟩ := bcell3 hb; (try (have hcell9 := (hc g k (by first | exact hg1 | simpa using hg1)).trans (by first | exact hcell | simpa using hcell); have hg9 := hlb g (by first | exact hg1 | simpa using hg1); clear hcell hg1; have hcell := hcell9; have hg1 := hg9; clear hcell9 hg9))))
    all_goals (rename_i hH; obtain ⟨-, -, -, -, -, -, hs9, hb9⟩ := hH; have BB := Lib.hid (B0.out.trans (hb9.mono (Nat.le_of_lt lx))); go_wp2; go_ret)
    all_goals exact ⟨by rw [HL.out]; rfl, BB.out⟩
  · have hd' : d = tx := by rw [← hd, txtB, if_neg hz]
    subst hd'
    clear hd
    obtain ⟨em1, em2⟩ := text_some hz
    go_enter Try.func86, Try.ntmps86
    go_upto_region 4 with fail
    generalize hW : w.alloc _ = W0
    have c0 : W0.cell? ⟨w.heap.size, 0, none⟩ = some (.int .i64 (k : Int)) := by rw [← hW]; simp [go_sem]
    have c1 : W0.cell? ⟨w.heap.size, 1, none⟩ = some (.int .i64 (t : Int)) := by rw [← hW]; simp [go_sem]
    have c2 : W0.cell? ⟨w.heap.size, 2, none⟩ = some (.string c) := by rw [← hW]; simp [go_sem]
    have c3 : W0.cell? ⟨w.heap.size, 3, none⟩ = some (.string d) := by rw [← hW]; simp [go_sem]
    have c4 : W0.cell? ⟨w.heap.size, 4, none⟩ = some (.int .i64 (f : Int)) := by rw [← hW]; simp [go_sem]
    have c5 : W0.cell? ⟨w.heap.size, 5, none⟩ = some (.int .i64 (e : Int)) := by rw [← hW]; simp [go_sem]
    have lx : w.heap.size < W0.heap.size := by rw [← hW]; simp
    have B0 := Lib.hid (show Below w.heap.size w W0 from by rw [← hW]; exact (Below.refl _ _).alloc (Nat.le_refl _) _)
    clear hW
    have hk0 : (0 : Int) ≤ (k : Int) := by omega
    have hk5 : (k : Int) < 5 := by omega
    have hq0 : Below W0.heap.size W0 W0 := Below.refl _ _
    go_region_held3 (fun w' => w'.cell? ⟨w.heap.size, 0, none⟩ = some (.int .i64 (k : Int)) ∧ w'.cell? ⟨w.heap.size, 1, none⟩ = some (.int .i64 (t : Int)) ∧ w'.cell? ⟨w.heap.size, 2, none⟩ = some (.string c) ∧ w'.cell? ⟨w.heap.size, 3, none⟩ = some (.string d) ∧ w'.cell? ⟨w.heap.size, 4, none⟩ = some (.int .i64 (f : Int)) ∧ w'.cell? ⟨w.heap.size, 5, none⟩ = some (.int .i64 (e : Int)) ∧ W0.heap.size ≤ w'.heap.size ∧ Below W0.heap.size W0 w')
      (((try go_split_ands); refine ⟨?cc90, ?cc91, ?cc92, ?cc93, ?cc94, ?cc95, ?sz9, ?bl9⟩; (case cc90 => (repeat (first | with_reducible assumption | with_reducible refine cell_below hb (by first | omega | (simp; done) | (simp; omega)) ?_ | with_reducible refine cell_set_far (by first | omega | (simp; done) | (simp; omega)) ?_ | with_reducible exact cell_alloc_swap (by with_reducible assumption) (by first | omega | (simp; done) | (simp; omega)) | with_reducible refine cell_alloc_far ?_ | with_reducible refine cell_drew ?_))); (case cc91 => (repeat (first | with_reducible assumption | with_reducible refine cell_below hb (by first | omega | (simp; done) | (simp; omega)) ?_ | with_reducible refine cell_set_far (by first | omega | (simp; done) | (simp; omega)) ?_ | with_reducible exact cell_alloc_swap (by with_reducible assumption) (by first | omega | (simp; done) | (simp; omega)) | with_reducible refine cell_alloc_far ?_ | with_reducible refine cell_drew ?_))); (case cc92 => (repeat (first | with_reducible assumption | with_reducible refine cell_below hb (by first | omega | (simp; done) | (simp; omega)) ?_ | with_reducible refine cell_set_far (by first | omega | (simp; done) | (simp; omega)) ?_ | with_reducible exact cell_alloc_swap (by with_reducible assumption) (by first | omega | (simp; done) | (simp; omega)) | with_reducible refine cell_alloc_far ?_ | with_reducible refine cell_drew ?_))); (case cc93 => (repeat (first | with_reducible assumption | with_reducible refine cell_below hb (by first | omega | (simp; done) | (simp; omega)) ?_ | with_reducible refine cell_set_far (by first | omega | (simp; done) | (simp; omega)) ?_ | with_reducible exact cell_alloc_swap (by with_reducible assumption) (by first | omega | (simp; done) | (simp; omega)) | with_reducible refine cell_alloc_far ?_ | with_reducible refine cell_drew ?_))); (case cc94 => (repeat (first | with_reducible assumption | with_reducible refine cell_below hb (by first | omega | (simp; done) | (simp; omega)) ?_ | with_reducible refine cell_set_far (by first | omega | (simp; done) | (simp; omega)) ?_ | with_reducible exact cell_alloc_swap (by with_reducible assumption) (by first | omega | (simp; done) | (simp; omega)) | with_reducible refine cell_alloc_far ?_ | with_reducible refine cell_drew ?_))); (case cc95 => (repeat (first | with_reducible assumption | with_reducible refine cell_below hb (by first | omega | (simp; done) | (simp; omega)) ?_ | with_reducible refine cell_set_far (by first | omega | (simp; done) | (simp; omega)) ?_ | with_reducible exact cell_alloc_swap (by with_reducible assumption) (by first | omega | (simp; done) | (simp; omega)) | with_reducible refine cell_alloc_far ?_ | with_reducible refine cell_drew ?_))); (case sz9 => (first | with_reducible assumption | (have := hb.size; omega) | omega | (simp; done) | (simp; omega) | (have := hb.size; simp at this ⊢; omega))); (case bl9 => (repeat (first | with_reducible assumption | with_reducible exact hq0 | with_reducible refine Below.drew ?_ | with_reducible refine Below.trans ?_ (hb.mono (by first | omega | (simp; done) | (simp; omega))) | with_reducible refine Below.setCell ?_ (by first | omega | (simp; done) | (simp; omega)) _ | with_reducible exact below_alloc_swap (by with_reducible assumption) (by first | omega | (simp; done) | (simp; omega)) | with_reducible refine Below.alloc ?_ (by first | omega | (simp; done) | (simp; omega)) _)))))
      (first
      | (go_at_call 104; (with_reducible refine (l7Words_any _).mono ?_); rintro e9 w1 ⟨g, rfl, hb, hg0, hg1, hcs⟩; have hcell := hcs k (by omega); rw [hwk] at hcell; clear hcs; have hsz : W0.heap.size ≤ w1.heap.size := (by have := hb.size; first | omega | (simp at this; omega)); obtain ⟨hc, hf, hlb⟩ := bcell3 hb)
      | (go_at_call 105; (first | with_reducible refine (HT.out _).mono ?_ | with_reducible refine (HF.out _).mono ?_ | with_reducible refine (HE.out _).mono ?_); rintro e9 w1 ⟨rfl, hb⟩; have hsz : W0.heap.size ≤ w1.heap.size := (by have := hb.size; first | omega | (simp at this; omega)); obtain ⟨hc, hf, hlb⟩ := bcell3 hb; (try (have hcell9 := (hc g k (by first | exact hg1 | simpa using hg1)).trans (by first | exact hcell | simpa using hcell); have hg9 := hlb g (by first | exact hg1 | simpa using hg1); clear hcell hg1; have hcell := hcell9; have hg1 := hg9; clear hcell9 hg9))))
    all_goals (rename_i hH; obtain ⟨-, -, -, -, -, -, hs9, hb9⟩ := hH; have BB := Lib.hid (B0.out.trans (hb9.mono (Nat.le_of_lt lx))); go_wp2; go_ret)
    all_goals exact ⟨by rw [HL.out]; rfl, BB.out⟩

end Go.Proofs.Ytmfpojminbkojaa
