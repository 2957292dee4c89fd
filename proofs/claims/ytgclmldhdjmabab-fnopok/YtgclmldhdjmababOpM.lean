/-
  Walks: the program's own OpOk: what is to be done is one of four types behind an interface.
-/
import Derived.Test.YtgclmldhdjmababOpW
namespace Go.Proofs.Ytgclmldhdjmabab
open Go.RowKit

theorem operation_none (k t : Int) (r : RowV) (w : World) (h1 : (k == 1) = false) (h2 : (k == 2) = false) (h3 : (k == 3) = false) (h4 : (k == 4) = false) :
    Calls Try.prog 58 #[.agg #[.int .i64 k, .int .i64 t, .string r.k, .string r.t, .int .i64 r.f, .int .i64 r.e]] w fun e w' => e = .returned .nilIface ∧ Below w.heap.size w w' := by
  go_enter Try.func58, Try.ntmps58
  go_wp2
  go_ret
  exact ⟨rfl, (Below.refl _ _).alloc (Nat.le_refl _) _⟩
set_option maxHeartbeats 1000000 in
theorem operation_insertion (t : Int) (r : RowV) (w : World) :
    Calls Try.prog 58 #[.agg #[.int .i64 1, .int .i64 t, .string r.k, .string r.t, .int .i64 r.f, .int .i64 r.e]] w fun e w' => e = .returned (.iface 126 (.agg #[.string r.k, .string r.t, .int .i64 r.f, .int .i64 r.e])) ∧ Below w.heap.size w w' := by
  go_enter Try.func58, Try.ntmps58
  go_wp2
  go_ret
  exact ⟨rfl, (Below.refl _ _).alloc (Nat.le_refl _) _⟩
set_option maxHeartbeats 1000000 in
theorem operation_deletion (t : Int) (r : RowV) (w : World) :
    Calls Try.prog 58 #[.agg #[.int .i64 2, .int .i64 t, .string r.k, .string r.t, .int .i64 r.f, .int .i64 r.e]] w fun e w' => e = .returned (.iface 127 (.agg #[.string r.k, .string r.t, .int .i64 r.f, .int .i64 r.e])) ∧ Below w.heap.size w w' := by
  go_enter Try.func58, Try.ntmps58
  go_wp2
  go_ret
  exact ⟨rfl, (Below.refl _ _).alloc (Nat.le_refl _) _⟩
set_option maxHeartbeats 1000000 in
theorem operation_updating (t : Int) (r : RowV) (w : World) :
    Calls Try.prog 58 #[.agg #[.int .i64 3, .int .i64 t, .string r.k, .string r.t, .int .i64 r.f, .int .i64 r.e]] w fun e w' => e = .returned (.iface 128 (.agg #[.string r.k, .string r.t, .int .i64 r.f, .int .i64 r.e])) ∧ Below w.heap.size w w' := by
  go_enter Try.func58, Try.ntmps58
  go_wp2
  go_ret
  exact ⟨rfl, (Below.refl _ _).alloc (Nat.le_refl _) _⟩
set_option maxHeartbeats 1000000 in
theorem operation_merging (t : Int) (r : RowV) (w : World) :
    Calls Try.prog 58 #[.agg #[.int .i64 4, .int .i64 t, .string r.k, .string r.t, .int .i64 r.f, .int .i64 r.e]] w fun e w' => e = .returned (.iface 129 (.agg #[.string r.k, .string r.t, .int .i64 r.f, .int .i64 r.e])) ∧ Below w.heap.size w w' := by
  go_enter Try.func58, Try.ntmps58
  go_wp2
  go_ret
  exact ⟨rfl, (Below.refl _ _).alloc (Nat.le_refl _) _⟩

set_option maxRecDepth 100000 in
set_option maxHeartbeats 1000000 in
theorem OpOk_insertion (t : Int) (r : RowV) (w : World) (hk : r.k.size ≤ maxLen) (ht : r.t.size ≤ maxLen) (h1 : inTab t = true) :
    Calls Try.prog 22 #[.agg #[.int .i64 1, .int .i64 t, .string r.k, .string r.t, .int .i64 r.f, .int .i64 r.e]] w fun e w' => e = .returned (.bool (rowOk r)) ∧ Below w.heap.size w w' := by
  have hm : ∀ w : World, (method 286 126 (.agg #[.string r.k, .string r.t, .int .i64 r.f, .int .i64 r.e]) "loop.example/varve/impl.ok").run Try.prog w = .ok (62, .agg #[.string r.k, .string r.t, .int .i64 r.f, .int .i64 r.e]) w := fun _ => by kernel_rfl
  have H1 := Lib.hid h1
  clear h1
  go_enter Try.func22, Try.ntmps22
  go_wp2_with fail
  generalize hW : w.alloc _ = W0
  have x1 : W0.cell? ⟨w.heap.size, 1, none⟩ = some (.int .i64 t) := by rw [← hW]; simp [go_sem]
  have lx : w.heap.size < W0.heap.size := by rw [← hW]; simp
  have B0 := Lib.hid (show Below w.heap.size w W0 from by rw [← hW]; exact (Below.refl _ _).alloc (Nat.le_refl _) _)
  clear hW
  refine (operation_insertion t r _).mono ?_
  rintro e w1 ⟨rfl, hb⟩
  replace x1 := cellBelow hb lx x1
  have B1 := Lib.hid (B0.out.trans (hb.mono B0.out.size))
  clear hb B0
  go_wp2_with fail
  refine (tab_val _ _ _ H1.out).mono ?_
  rintro e w2 ⟨rfl, rfl⟩
  go_wp2_with fail
  refine (rowOkM_any r _ hk ht).mono ?_
  rintro e w2 ⟨rfl, hb⟩
  have B2 := Lib.hid (B1.out.trans (hb.mono B1.out.size))
  clear hb B1
  go_wp2
  go_ret
  exact ⟨rfl, B2.out⟩
set_option maxHeartbeats 1000000 in
theorem OpOk_insertion_no (t : Int) (r : RowV) (w : World) (h1 : inTab t = false) :
    Calls Try.prog 22 #[.agg #[.int .i64 1, .int .i64 t, .string r.k, .string r.t, .int .i64 r.f, .int .i64 r.e]] w fun e w' => e = .returned (.bool false) ∧ Below w.heap.size w w' := by
  have H1 := Lib.hid h1
  clear h1
  go_enter Try.func22, Try.ntmps22
  go_wp2_with fail
  generalize hW : w.alloc _ = W0
  have x1 : W0.cell? ⟨w.heap.size, 1, none⟩ = some (.int .i64 t) := by rw [← hW]; simp [go_sem]
  have lx : w.heap.size < W0.heap.size := by rw [← hW]; simp
  have B0 := Lib.hid (show Below w.heap.size w W0 from by rw [← hW]; exact (Below.refl _ _).alloc (Nat.le_refl _) _)
  clear hW
  refine (operation_insertion t r _).mono ?_
  rintro e w1 ⟨rfl, hb⟩
  replace x1 := cellBelow hb lx x1
  have B1 := Lib.hid (B0.out.trans (hb.mono B0.out.size))
  clear hb B0
  go_wp2_with fail
  refine (tab_val _ _ _ H1.out).mono ?_
  rintro e w2 ⟨rfl, rfl⟩
  go_wp2
  go_ret
  exact ⟨rfl, B1.out⟩

set_option maxRecDepth 100000 in
set_option maxHeartbeats 1000000 in
theorem OpOk_updating (t : Int) (r : RowV) (w : World) (hk : r.k.size ≤ maxLen) (ht : r.t.size ≤ maxLen) (h1 : inTab t = true) :
    Calls Try.prog 22 #[.agg #[.int .i64 3, .int .i64 t, .string r.k, .string r.t, .int .i64 r.f, .int .i64 r.e]] w fun e w' => e = .returned (.bool (rowOk r)) ∧ Below w.heap.size w w' := by
  have hm : ∀ w : World, (method 286 128 (.agg #[.string r.k, .string r.t, .int .i64 r.f, .int .i64 r.e]) "loop.example/varve/impl.ok").run Try.prog w = .ok (62, .agg #[.string r.k, .string r.t, .int .i64 r.f, .int .i64 r.e]) w := fun _ => by kernel_rfl
  have H1 := Lib.hid h1
  clear h1
  go_enter Try.func22, Try.ntmps22
  go_wp2_with fail
  generalize hW : w.alloc _ = W0
  have x1 : W0.cell? ⟨w.heap.size, 1, none⟩ = some (.int .i64 t) := by rw [← hW]; simp [go_sem]
  have lx : w.heap.size < W0.heap.size := by rw [← hW]; simp
  have B0 := Lib.hid (show Below w.heap.size w W0 from by rw [← hW]; exact (Below.refl _ _).alloc (Nat.le_refl _) _)
  clear hW
  refine (operation_updating t r _).mono ?_
  rintro e w1 ⟨rfl, hb⟩
  replace x1 := cellBelow hb lx x1
  have B1 := Lib.hid (B0.out.trans (hb.mono B0.out.size))
  clear hb B0
  go_wp2_with fail
  refine (tab_val _ _ _ H1.out).mono ?_
  rintro e w2 ⟨rfl, rfl⟩
  go_wp2_with fail
  refine (rowOkM_any r _ hk ht).mono ?_
  rintro e w2 ⟨rfl, hb⟩
  have B2 := Lib.hid (B1.out.trans (hb.mono B1.out.size))
  clear hb B1
  go_wp2
  go_ret
  exact ⟨rfl, B2.out⟩
set_option maxHeartbeats 1000000 in
theorem OpOk_updating_no (t : Int) (r : RowV) (w : World) (h1 : inTab t = false) :
    Calls Try.prog 22 #[.agg #[.int .i64 3, .int .i64 t, .string r.k, .string r.t, .int .i64 r.f, .int .i64 r.e]] w fun e w' => e = .returned (.bool false) ∧ Below w.heap.size w w' := by
  have H1 := Lib.hid h1
  clear h1
  go_enter Try.func22, Try.ntmps22
  go_wp2_with fail
  generalize hW : w.alloc _ = W0
  have x1 : W0.cell? ⟨w.heap.size, 1, none⟩ = some (.int .i64 t) := by rw [← hW]; simp [go_sem]
  have lx : w.heap.size < W0.heap.size := by rw [← hW]; simp
  have B0 := Lib.hid (show Below w.heap.size w W0 from by rw [← hW]; exact (Below.refl _ _).alloc (Nat.le_refl _) _)
  clear hW
  refine (operation_updating t r _).mono ?_
  rintro e w1 ⟨rfl, hb⟩
  replace x1 := cellBelow hb lx x1
  have B1 := Lib.hid (B0.out.trans (hb.mono B0.out.size))
  clear hb B0
  go_wp2_with fail
  refine (tab_val _ _ _ H1.out).mono ?_
  rintro e w2 ⟨rfl, rfl⟩
  go_wp2
  go_ret
  exact ⟨rfl, B1.out⟩

set_option maxRecDepth 100000 in
set_option maxHeartbeats 1000000 in
theorem OpOk_merging (t : Int) (r : RowV) (w : World) (hk : r.k.size ≤ maxLen) (ht : r.t.size ≤ maxLen) (h1 : inTab t = true) :
    Calls Try.prog 22 #[.agg #[.int .i64 4, .int .i64 t, .string r.k, .string r.t, .int .i64 r.f, .int .i64 r.e]] w fun e w' => e = .returned (.bool (rowOk r)) ∧ Below w.heap.size w w' := by
  have hm : ∀ w : World, (method 286 129 (.agg #[.string r.k, .string r.t, .int .i64 r.f, .int .i64 r.e]) "loop.example/varve/impl.ok").run Try.prog w = .ok (62, .agg #[.string r.k, .string r.t, .int .i64 r.f, .int .i64 r.e]) w := fun _ => by kernel_rfl
  have H1 := Lib.hid h1
  clear h1
  go_enter Try.func22, Try.ntmps22
  go_wp2_with fail
  generalize hW : w.alloc _ = W0
  have x1 : W0.cell? ⟨w.heap.size, 1, none⟩ = some (.int .i64 t) := by rw [← hW]; simp [go_sem]
  have lx : w.heap.size < W0.heap.size := by rw [← hW]; simp
  have B0 := Lib.hid (show Below w.heap.size w W0 from by rw [← hW]; exact (Below.refl _ _).alloc (Nat.le_refl _) _)
  clear hW
  refine (operation_merging t r _).mono ?_
  rintro e w1 ⟨rfl, hb⟩
  replace x1 := cellBelow hb lx x1
  have B1 := Lib.hid (B0.out.trans (hb.mono B0.out.size))
  clear hb B0
  go_wp2_with fail
  refine (tab_val _ _ _ H1.out).mono ?_
  rintro e w2 ⟨rfl, rfl⟩
  go_wp2_with fail
  refine (rowOkM_any r _ hk ht).mono ?_
  rintro e w2 ⟨rfl, hb⟩
  have B2 := Lib.hid (B1.out.trans (hb.mono B1.out.size))
  clear hb B1
  go_wp2
  go_ret
  exact ⟨rfl, B2.out⟩
set_option maxHeartbeats 1000000 in
theorem OpOk_merging_no (t : Int) (r : RowV) (w : World) (h1 : inTab t = false) :
    Calls Try.prog 22 #[.agg #[.int .i64 4, .int .i64 t, .string r.k, .string r.t, .int .i64 r.f, .int .i64 r.e]] w fun e w' => e = .returned (.bool false) ∧ Below w.heap.size w w' := by
  have H1 := Lib.hid h1
  clear h1
  go_enter Try.func22, Try.ntmps22
  go_wp2_with fail
  generalize hW : w.alloc _ = W0
  have x1 : W0.cell? ⟨w.heap.size, 1, none⟩ = some (.int .i64 t) := by rw [← hW]; simp [go_sem]
  have lx : w.heap.size < W0.heap.size := by rw [← hW]; simp
  have B0 := Lib.hid (show Below w.heap.size w W0 from by rw [← hW]; exact (Below.refl _ _).alloc (Nat.le_refl _) _)
  clear hW
  refine (operation_merging t r _).mono ?_
  rintro e w1 ⟨rfl, hb⟩
  replace x1 := cellBelow hb lx x1
  have B1 := Lib.hid (B0.out.trans (hb.mono B0.out.size))
  clear hb B0
  go_wp2_with fail
  refine (tab_val _ _ _ H1.out).mono ?_
  rintro e w2 ⟨rfl, rfl⟩
  go_wp2
  go_ret
  exact ⟨rfl, B1.out⟩

set_option maxRecDepth 100000 in
set_option maxHeartbeats 1000000 in
theorem OpOk_deletion (t : Int) (r : RowV) (w : World) (hk : r.k.size ≤ maxLen) (h1 : inTab t = true) :
    Calls Try.prog 22 #[.agg #[.int .i64 2, .int .i64 t, .string r.k, .string r.t, .int .i64 r.f, .int .i64 r.e]] w fun e w' => e = .returned (.bool (delOk r)) ∧ Below w.heap.size w w' := by
  have hm : ∀ w : World, (method 286 127 (.agg #[.string r.k, .string r.t, .int .i64 r.f, .int .i64 r.e]) "loop.example/varve/impl.ok").run Try.prog w = .ok (159, .agg #[.string r.k, .string r.t, .int .i64 r.f, .int .i64 r.e]) w := fun _ => by kernel_rfl
  have H1 := Lib.hid h1
  clear h1
  go_enter Try.func22, Try.ntmps22
  go_wp2_with fail
  generalize hW : w.alloc _ = W0
  have x1 : W0.cell? ⟨w.heap.size, 1, none⟩ = some (.int .i64 t) := by rw [← hW]; simp [go_sem]
  have lx : w.heap.size < W0.heap.size := by rw [← hW]; simp
  have B0 := Lib.hid (show Below w.heap.size w W0 from by rw [← hW]; exact (Below.refl _ _).alloc (Nat.le_refl _) _)
  clear hW
  refine (operation_deletion t r _).mono ?_
  rintro e w1 ⟨rfl, hb⟩
  replace x1 := cellBelow hb lx x1
  have B1 := Lib.hid (B0.out.trans (hb.mono B0.out.size))
  clear hb B0
  go_wp2_with fail
  refine (tab_val _ _ _ H1.out).mono ?_
  rintro e w2 ⟨rfl, rfl⟩
  go_wp2_with fail
  refine (delOkM_any r _ hk).mono ?_
  rintro e w2 ⟨rfl, hb⟩
  have B2 := Lib.hid (B1.out.trans (hb.mono B1.out.size))
  clear hb B1
  go_wp2
  go_ret
  exact ⟨rfl, B2.out⟩
set_option maxHeartbeats 1000000 in
theorem OpOk_deletion_no (t : Int) (r : RowV) (w : World) (h1 : inTab t = false) :
    Calls Try.prog 22 #[.agg #[.int .i64 2, .int .i64 t, .string r.k, .string r.t, .int .i64 r.f, .int .i64 r.e]] w fun e w' => e = .returned (.bool false) ∧ Below w.heap.size w w' := by
  have H1 := Lib.hid h1
  clear h1
  go_enter Try.func22, Try.ntmps22
  go_wp2_with fail
  generalize hW : w.alloc _ = W0
  have x1 : W0.cell? ⟨w.heap.size, 1, none⟩ = some (.int .i64 t) := by rw [← hW]; simp [go_sem]
  have lx : w.heap.size < W0.heap.size := by rw [← hW]; simp
  have B0 := Lib.hid (show Below w.heap.size w W0 from by rw [← hW]; exact (Below.refl _ _).alloc (Nat.le_refl _) _)
  clear hW
  refine (operation_deletion t r _).mono ?_
  rintro e w1 ⟨rfl, hb⟩
  replace x1 := cellBelow hb lx x1
  have B1 := Lib.hid (B0.out.trans (hb.mono B0.out.size))
  clear hb B0
  go_wp2_with fail
  refine (tab_val _ _ _ H1.out).mono ?_
  rintro e w2 ⟨rfl, rfl⟩
  go_wp2
  go_ret
  exact ⟨rfl, B1.out⟩

set_option maxHeartbeats 1000000 in
theorem OpOk_none (k t : Int) (r : RowV) (w : World) (h1 : (k == 1) = false) (h2 : (k == 2) = false) (h3 : (k == 3) = false) (h4 : (k == 4) = false) :
    Calls Try.prog 22 #[.agg #[.int .i64 k, .int .i64 t, .string r.k, .string r.t, .int .i64 r.f, .int .i64 r.e]] w fun e w' => e = .returned (.bool false) ∧ Below w.heap.size w w' := by
  have H1 := Lib.hid h1
  have H2 := Lib.hid h2
  have H3 := Lib.hid h3
  have H4 := Lib.hid h4
  clear h1 h2 h3 h4
  go_enter Try.func22, Try.ntmps22
  go_wp2_with fail
  refine (operation_none k t r _ H1.out H2.out H3.out H4.out).mono ?_
  rintro e w1 ⟨rfl, hb⟩
  have B1 := Lib.hid (((Below.refl _ _).alloc (Nat.le_refl _) _).trans (hb.mono (by simp)))
  clear hb
  go_wp2
  go_ret
  exact ⟨rfl, B1.out⟩
theorem OpOk_any (k t : Int) (r : RowV) (w : World) (hk : r.k.size ≤ maxLen) (ht : r.t.size ≤ maxLen) :
    Calls Try.prog 22 #[.agg #[.int .i64 k, .int .i64 t, .string r.k, .string r.t, .int .i64 r.f, .int .i64 r.e]] w fun e w' => e = .returned (.bool (opOk k t r)) ∧ Below w.heap.size w w' := by
  by_cases k1 : k = 1
  · subst k1
    cases h : inTab t
    · rw [opOk_no h]; exact OpOk_insertion_no t r w h
    · rw [opOk_row h (by omega)]; exact OpOk_insertion t r w hk ht h
  · by_cases k2 : k = 2
    · subst k2
      cases h : inTab t
      · rw [opOk_no h]; exact OpOk_deletion_no t r w h
      · rw [opOk_del h rfl]; exact OpOk_deletion t r w hk h
    · by_cases k3 : k = 3
      · subst k3
        cases h : inTab t
        · rw [opOk_no h]; exact OpOk_updating_no t r w h
        · rw [opOk_row h (by omega)]; exact OpOk_updating t r w hk ht h
      · by_cases k4 : k = 4
        · subst k4
          cases h : inTab t
          · rw [opOk_no h]; exact OpOk_merging_no t r w h
          · rw [opOk_row h (by omega)]; exact OpOk_merging t r w hk ht h
        · rw [opOk_none k1 k2 k3 k4]
          exact OpOk_none k t r w (by simpa using k1) (by simpa using k2) (by simpa using k3) (by simpa using k4)
end Go.Proofs.Ytgclmldhdjmabab
