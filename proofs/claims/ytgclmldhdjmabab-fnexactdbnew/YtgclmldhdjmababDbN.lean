/-
  Walks: a new database, and the exact law of DbNew.
-/
import Derived.Test.YtgclmldhdjmababRowT
import Derived.Test.YtgclmldhdjmababLater
import Derived.Test.YtgclmldhdjmababFlat
namespace Go.Proofs.Ytgclmldhdjmabab
open Go.RowKit Go.Lib

/-- Two stores without versions. -/
def TwoS (w : World) (g : Nat) (a b : Int) : Prop :=
  (w.cell? ⟨g, 0, none⟩ = some (.int .i64 a) ∧ w.cell? ⟨g, 1, none⟩ = some (.slice none 0 0) ∧ w.cell? ⟨g, 2, none⟩ = some (.int .i64 b) ∧ w.cell? ⟨g, 3, none⟩ = some (.slice none 0 0)) ∧ (∀ o, w.frozen? ⟨g, o, none⟩ = false) ∧ g < w.heap.size
theorem TwoS.keep {w w' : World} {g : Nat} {a b : Int} (h : TwoS w g a b) (hb : Below w.heap.size w w') : TwoS w' g a b :=
  ⟨⟨cellBelow hb h.2.2 h.1.1, cellBelow hb h.2.2 h.1.2.1, cellBelow hb h.2.2 h.1.2.2.1, cellBelow hb h.2.2 h.1.2.2.2⟩, fun o => (hb.frozen (p := ⟨g, o, none⟩) h.2.2).trans (h.2.1 o), Nat.lt_of_lt_of_le h.2.2 hb.size⟩
/-- A new database. -/
def NewDb (w : World) (e : Ending) (w' : World) : Prop :=
  ∃ g, w.heap.size ≤ g ∧ e = .returned (.agg #[.slice (some ⟨g, 0, none⟩) 2 2]) ∧ TwoS w' g 0 0 ∧ Below w.heap.size w w'

theorem Try.infoSt63 : (Try.prog.info? 63).map (fun i => (i.zero, i.size, i.bytes)) = some (some (.agg #[.int .i64 0, .slice none 0 0]), 2, 32) := by kernel_rfl

theorem made_two {w1 : World} {g : Nat} {t : TypeId} {cs : List Value} (h : w1.ownsRow g t 2 (.slice (some ⟨g, 0, none⟩) 2 2) 2 cs) (hc : cs = [.int .i64 0, .slice none 0 0, .int .i64 0, .slice none 0 0]) : TwoS w1 g 0 0 := by
  subst hc
  exact ⟨⟨h.cellAt 0 (by omega), h.cellAt 1 (by omega), h.cellAt 2 (by omega), h.cellAt 3 (by omega)⟩, h.frozenAt, (h.lt g rfl).2⟩
theorem TwoS.set_other {w : World} {g b o : Nat} {x y : Int} (h : TwoS w g x y) (v : Value) (hn : b ≠ g) : TwoS (w.setCell ⟨b, o, none⟩ v) g x y := by
  have far : ∀ i, (w.setCell ⟨b, o, none⟩ v).cell? ⟨g, i, none⟩ = w.cell? ⟨g, i, none⟩ := fun i => World.cell?_setCell_other w ⟨b, o, none⟩ ⟨g, i, none⟩ v (fun e => by injection e with e1 _ _; exact hn e1)
  exact ⟨⟨(far 0).trans h.1.1, (far 1).trans h.1.2.1, (far 2).trans h.1.2.2.1, (far 3).trans h.1.2.2.2⟩, fun i => (World.frozen?_setCell ..).trans (h.2.1 i), by simpa [World.setCell] using h.2.2⟩

set_option maxRecDepth 100000 in
set_option maxHeartbeats 1000000 in
theorem DbNew_any (w : World) : Calls Try.prog 26 #[] w (NewDb w) := by
  obtain ⟨i0, hi, hz0, hz1, hz2⟩ := info_parts Try.infoSt63
  have hi16 : i0.bytes * 2 ≤ 281474976710656 := by rw [hz2]; omega
  go_enter Try.func26, Try.ntmps26
  go_wp2_with (at_make; refine wpList_make_full _ rfl _ _ 49 rfl _ 63 i0 _ 2 Try.underlying49 hi hz0 hz1 .i64 .i64 _ _ 2 rfl rfl rfl rfl hi16 (by simp [maxLen]) (Nat.le_refl _) ?_; intro w1 hown hgrow; have c0 : w1.cell? ⟨w.heap.size, 0, none⟩ = some (.slice none 0 0) := (World.cell?_of_block (a := ⟨w.heap.size, 0, none⟩) (hgrow.block _ (by simp) (by simp))).trans (by simp); have f0 : w1.frozen? ⟨w.heap.size, 0, none⟩ = false := (World.frozen?_of_block (a := ⟨w.heap.size, 0, none⟩) (hgrow.block _ (by simp) (by simp))).trans (by simp); have H1 := Lib.hid hown; have H2 := Lib.hid hgrow; clear hown hgrow)
  have O := H1.out
  simp only [World.size_alloc] at O
  have T1 := made_two O (made_flatOf (enc := fun _ : Unit => [Value.int .i64 0, Value.slice none 0 0]) (sz := 2) (fun _ => rfl) (by omega) () _ rfl 2)
  refine bodyPost_ret (v := .agg #[.slice (some ⟨w.heap.size + 1, 0, none⟩) 2 2]) (by simp [results, Try.results26, go_sem, c0]) rfl ⟨w.heap.size + 1, by omega, rfl, T1.set_other _ (by omega), ?_⟩
  exact (((Below.refl _ _).alloc (Nat.le_refl _) _).grown H2.out (by simp) (fun k hk => by cases hk)).setCell (Nat.le_refl _) _

set_option maxRecDepth 100000 in
set_option maxHeartbeats 1000000 in
theorem sDbNew_any (w : World) : Calls Try.prog 25 #[] w (NewDb w) := by
  obtain ⟨i0, hi, hz0, hz1, hz2⟩ := info_parts Try.infoSt63
  have hi16 : i0.bytes * 2 ≤ 281474976710656 := by rw [hz2]; omega
  go_enter Try.func25, Try.ntmps25
  go_wp2_with (at_make; refine wpList_make_full _ rfl _ _ 49 rfl _ 63 i0 _ 2 Try.underlying49 hi hz0 hz1 .i64 .i64 _ _ 2 rfl rfl rfl rfl hi16 (by simp [maxLen]) (Nat.le_refl _) ?_; intro w1 hown hgrow; have c0 : w1.cell? ⟨w.heap.size, 0, none⟩ = some (.slice none 0 0) := (World.cell?_of_block (a := ⟨w.heap.size, 0, none⟩) (hgrow.block _ (by simp) (by simp))).trans (by simp); have f0 : w1.frozen? ⟨w.heap.size, 0, none⟩ = false := (World.frozen?_of_block (a := ⟨w.heap.size, 0, none⟩) (hgrow.block _ (by simp) (by simp))).trans (by simp); have H1 := Lib.hid hown; have H2 := Lib.hid hgrow; clear hown hgrow)
  have O := H1.out
  simp only [World.size_alloc] at O
  have T1 := made_two O (made_flatOf (enc := fun _ : Unit => [Value.int .i64 0, Value.slice none 0 0]) (sz := 2) (fun _ => rfl) (by omega) () _ rfl 2)
  refine bodyPost_ret (v := .agg #[.slice (some ⟨w.heap.size + 1, 0, none⟩) 2 2]) (by simp [results, Try.results25, go_sem, c0]) rfl ⟨w.heap.size + 1, by omega, rfl, T1.set_other _ (by omega), ?_⟩
  exact (((Below.refl _ _).alloc (Nat.le_refl _) _).grown H2.out (by simp) (fun k hk => by cases hk)).setCell (Nat.le_refl _) _

theorem eqVerS_nil (w : World) : Calls Try.prog 72 #[.slice none 0 0, .slice none 0 0] w fun e w' => e = .returned (.bool true) ∧ w = w' := by
  go_enter Try.func72, Try.ntmps72
  go_wp2
  go_loop [5] (fun i => i = .int .i64 0) (fun _ => 0)
  case atStart => rfl
  case round =>
    subst hrel
    go_wp2
    go_ret
    exact ⟨rfl, rfl⟩
theorem markVerS_nil (k : Int) (w : World) : Calls Try.prog 77 #[.slice none 0 0, .int .i64 k] w fun e w' => e = .returned (.int .i64 k) ∧ w = w' := by
  go_enter Try.func77, Try.ntmps77
  go_wp2
  go_loop [1, 5] (fun kv i => kv = .int .i64 k ∧ i = .int .i64 0) (fun _ _ => 0)
  case atStart => exact ⟨rfl, rfl⟩
  case round =>
    obtain ⟨rfl, rfl⟩ := hrel
    go_wp2
    go_ret
    exact ⟨rfl, rfl⟩
theorem heldVerS_nil (k : Int) (w : World) : Calls Try.prog 86 #[.slice none 0 0, .int .i64 k] w fun e w' => e = .returned (.int .i64 k) ∧ w = w' := by
  go_enter Try.func86, Try.ntmps86
  go_wp2
  go_loop [1, 5] (fun kv i => kv = .int .i64 k ∧ i = .int .i64 0) (fun _ _ => 0)
  case atStart => exact ⟨rfl, rfl⟩
  case round =>
    obtain ⟨rfl, rfl⟩ := hrel
    go_wp2
    go_ret
    exact ⟨rfl, rfl⟩
theorem eqStore_nil (a : Int) (w : World) : Calls Try.prog 34 #[.agg #[.int .i64 a, .slice none 0 0], .agg #[.int .i64 a, .slice none 0 0]] w fun e w' => e = .returned (.bool true) ∧ Below w.heap.size w w' := by
  go_enter Try.func34, Try.ntmps34
  go_wp2_with fail
  refine (eqVerS_nil _).mono ?_
  rintro e w1 ⟨rfl, rfl⟩
  go_wp2
  go_ret
  exact ⟨rfl, ((Below.refl _ _).alloc (Nat.le_refl _) _).alloc (by simp) _⟩

/-- A counter that is 0, 1 or 2. -/
def Upto2 (i : Value) : Prop := i = .int .i64 0 ∨ i = .int .i64 1 ∨ i = .int .i64 2

set_option maxRecDepth 100000 in
set_option maxHeartbeats 1000000 in
theorem eqStoreS_two (g g' : Nat) (a b : Int) (w : World) (h : TwoS w g a b) (h' : TwoS w g' a b) :
    Calls Try.prog 63 #[.slice (some ⟨g, 0, none⟩) 2 2, .slice (some ⟨g', 0, none⟩) 2 2] w fun e w' => e = .returned (.bool true) ∧ Below w.heap.size w w' := by
  have H := Lib.hid h
  have H' := Lib.hid h'
  clear h h'
  go_enter Try.func63, Try.ntmps63
  go_wp2
  go_loopw [5] (fun i wr => Upto2 i ∧ Below w.heap.size w wr) (fun i _ => 2 - (intOf i).toNat)
  case atStart => exact ⟨.inl rfl, Below.refl _ _⟩
  case round =>
    obtain ⟨hi, hbr⟩ := hrel
    obtain ⟨⟨x0, x1, x2, x3⟩, _, lx⟩ := H.out.keep hbr
    obtain ⟨⟨y0, y1, y2, y3⟩, _, ly⟩ := H'.out.keep hbr
    rcases hi with rfl | rfl | rfl
    · go_wp2_with fail
      refine wp_region_later (by kernel_rfl) (by kernel_rfl) ?_
      intro f hf1 hf2 hfc
      repeat (go_big_quiet_step ((go_at_call 34; exact calls_later hf1 hf2 (eqStore_nil _ _))))
      refine wpQuiet_nil ?_
      rintro _ ⟨v, rfl⟩
      have Hv := Lib.hid (hbr.trans ((hf1.out v).mono hbr.size))
      clear hfc hbr x0 x1 x2 x3 y0 y1 y2 y3
      go_wp2
      go_roundw
      case rel => exact ⟨.inr (.inl rfl), Hv.out⟩
      case measure => simp [intOf]
    · go_wp2_with fail
      refine wp_region_later (by kernel_rfl) (by kernel_rfl) ?_
      intro f hf1 hf2 hfc
      repeat (go_big_quiet_step ((go_at_call 34; exact calls_later hf1 hf2 (eqStore_nil _ _))))
      refine wpQuiet_nil ?_
      rintro _ ⟨v, rfl⟩
      have Hv := Lib.hid (hbr.trans ((hf1.out v).mono hbr.size))
      clear hfc hbr x0 x1 x2 x3 y0 y1 y2 y3
      go_wp2
      go_roundw
      case rel => exact ⟨.inr (.inr rfl), Hv.out⟩
      case measure => simp [intOf]
    · go_wp2
      go_ret
      exact ⟨rfl, hbr⟩

/-- Where the marking stands. -/
def MarkAt (w w1 w2 : World) (kv i : Value) (wr : World) : Prop :=
  (kv = .int .i64 1 ∧ i = .int .i64 0 ∧ wr = w) ∨ (kv = .int .i64 2 ∧ i = .int .i64 1 ∧ wr = w1) ∨ (kv = .int .i64 3 ∧ i = .int .i64 2 ∧ wr = w2)

set_option maxRecDepth 100000 in
set_option maxHeartbeats 1000000 in
theorem markStoreS_two (g : Nat) (a b : Int) (w : World) (h : TwoS w g a b) :
    Calls Try.prog 64 #[.slice (some ⟨g, 0, none⟩) 2 2, .int .i64 1] w fun e w' => e = .returned (.int .i64 3) ∧ w' = (w.setCell ⟨g, 0, none⟩ (.int .i64 1)).setCell ⟨g, 2, none⟩ (.int .i64 2) := by
  obtain ⟨⟨x0, x1, x2, x3⟩, hf, lx⟩ := h
  obtain ⟨w1, hw1⟩ : ∃ w1, w.setCell ⟨g, 0, none⟩ (.int .i64 1) = w1 := ⟨_, rfl⟩
  have y1 : w1.cell? ⟨g, 1, none⟩ = some (.slice none 0 0) := by rw [← hw1, World.cell?_setCell_other _ _ _ _ (by simp)]; exact x1
  have y2 : w1.cell? ⟨g, 2, none⟩ = some (.int .i64 b) := by rw [← hw1, World.cell?_setCell_other _ _ _ _ (by simp)]; exact x2
  have y3 : w1.cell? ⟨g, 3, none⟩ = some (.slice none 0 0) := by rw [← hw1, World.cell?_setCell_other _ _ _ _ (by simp)]; exact x3
  have hf1 : ∀ o, w1.frozen? ⟨g, o, none⟩ = false := fun o => by rw [← hw1, World.frozen?_setCell]; exact hf o
  obtain ⟨w2, hw2⟩ : ∃ w2, w1.setCell ⟨g, 2, none⟩ (.int .i64 2) = w2 := ⟨_, rfl⟩
  have z3 : w2.cell? ⟨g, 3, none⟩ = some (.slice none 0 0) := by rw [← hw2, World.cell?_setCell_other _ _ _ _ (by simp)]; exact y3
  rw [hw1, hw2]
  have HW1 := Lib.hid hw1
  have HW2 := Lib.hid hw2
  clear hw1 hw2
  go_enter Try.func64, Try.ntmps64
  go_wp2
  go_loopw [1, 5] (fun kv i wr => MarkAt w w1 w2 kv i wr) (fun _ i _ => 2 - (intOf i).toNat)
  case atStart => exact .inl ⟨rfl, rfl, rfl⟩
  case round =>
    rcases hrel with ⟨rfl, rfl, rfl⟩ | ⟨rfl, rfl, rfl⟩ | ⟨rfl, rfl, rfl⟩
    · go_wp2_with fail
      refine (markVerS_nil 2 _).mono ?_
      rintro e w' ⟨rfl, rfl⟩
      rw [HW1.out]
      go_wp2
      go_roundw
      case rel => exact .inr (.inl ⟨rfl, rfl, rfl⟩)
      case measure => simp [intOf]
    · go_wp2_with fail
      refine (markVerS_nil 3 _).mono ?_
      rintro e w' ⟨rfl, rfl⟩
      rw [HW2.out]
      go_wp2
      go_roundw
      case rel => exact .inr (.inr ⟨rfl, rfl, rfl⟩)
      case measure => simp [intOf]
    · go_wp2
      go_ret
      exact ⟨rfl, rfl⟩

/-- A counter, and what is counted. -/
def HeldAt (kv i : Value) : Prop := (kv = .int .i64 1 ∧ i = .int .i64 0) ∨ (kv = .int .i64 2 ∧ i = .int .i64 1) ∨ (kv = .int .i64 3 ∧ i = .int .i64 2)
set_option maxRecDepth 100000 in
set_option maxHeartbeats 1000000 in
theorem heldStoreS_two (g : Nat) (w : World) (h : TwoS w g 1 2) :
    Calls Try.prog 65 #[.slice (some ⟨g, 0, none⟩) 2 2, .int .i64 1] w fun e w' => e = .returned (.int .i64 3) ∧ w = w' := by
  obtain ⟨⟨x0, x1, x2, x3⟩, hf, lx⟩ := h
  clear hf
  go_enter Try.func65, Try.ntmps65
  go_wp2
  go_loop [1, 5] (fun kv i => HeldAt kv i) (fun _ i => 2 - (intOf i).toNat)
  case atStart => exact .inl ⟨rfl, rfl⟩
  case round =>
    rcases hrel with ⟨rfl, rfl⟩ | ⟨rfl, rfl⟩ | ⟨rfl, rfl⟩
    · go_wp2_with fail
      refine (heldVerS_nil 2 _).mono ?_
      rintro e w' ⟨rfl, rfl⟩
      go_wp2
      go_round
      case rel => exact .inr (.inl ⟨rfl, rfl⟩)
      case measure => simp [intOf]
    · go_wp2_with fail
      refine (heldVerS_nil 3 _).mono ?_
      rintro e w' ⟨rfl, rfl⟩
      go_wp2
      go_round
      case rel => exact .inr (.inr ⟨rfl, rfl⟩)
      case measure => simp [intOf]
    · go_wp2
      go_ret
      exact ⟨rfl, rfl⟩

set_option maxHeartbeats 1000000 in
theorem eqDb_two (g g' : Nat) (a b : Int) (w : World) (h : TwoS w g a b) (h' : TwoS w g' a b) :
    Calls Try.prog 27 #[.agg #[.slice (some ⟨g, 0, none⟩) 2 2], .agg #[.slice (some ⟨g', 0, none⟩) 2 2]] w fun e w' => e = .returned (.bool true) ∧ Below w.heap.size w w' := by
  have hB : ∀ o1 o2, Below w.heap.size w ((w.alloc o1).alloc o2) := fun o1 o2 => ((Below.refl _ _).alloc (Nat.le_refl _) _).alloc (by simp) _
  have HB := Lib.hid hB
  have H := Lib.hid h
  have H' := Lib.hid h'
  clear h h' hB
  go_enter Try.func27, Try.ntmps27
  go_wp2_with fail
  refine (eqStoreS_two g g' a b _ (H.out.keep (HB.out _ _)) (H'.out.keep (HB.out _ _))).mono ?_
  rintro e w1 ⟨rfl, hb⟩
  have B1 := Lib.hid ((HB.out _ _).trans (hb.mono (HB.out _ _).size))
  clear hb
  go_wp2
  go_ret
  exact ⟨rfl, B1.out⟩
set_option maxHeartbeats 1000000 in
theorem heldDb_two (g : Nat) (w : World) (h : TwoS w g 1 2) :
    Calls Try.prog 29 #[.agg #[.slice (some ⟨g, 0, none⟩) 2 2], .int .i64 1] w fun e w' => e = .returned (.int .i64 3) ∧ Below w.heap.size w w' := by
  have hB : ∀ o1, Below w.heap.size w (w.alloc o1) := fun o1 => (Below.refl _ _).alloc (Nat.le_refl _) _
  have HB := Lib.hid hB
  have H := Lib.hid h
  clear h hB
  go_enter Try.func29, Try.ntmps29
  go_wp2_with fail
  refine (heldStoreS_two g _ (H.out.keep (HB.out _))).mono ?_
  rintro e w1 ⟨rfl, rfl⟩
  go_wp2
  go_ret
  exact ⟨rfl, HB.out _⟩
set_option maxHeartbeats 1000000 in
theorem markDb_two (g : Nat) (a b : Int) (w : World) (h : TwoS w g a b) :
    Calls Try.prog 28 #[.agg #[.slice (some ⟨g, 0, none⟩) 2 2], .int .i64 1] w fun e w' => e = .returned (.int .i64 3) ∧ ∃ o, w' = ((w.alloc o).setCell ⟨g, 0, none⟩ (.int .i64 1)).setCell ⟨g, 2, none⟩ (.int .i64 2) := by
  have hB : ∀ o1, Below w.heap.size w (w.alloc o1) := fun o1 => (Below.refl _ _).alloc (Nat.le_refl _) _
  have HB := Lib.hid hB
  have H := Lib.hid h
  clear h hB
  go_enter Try.func28, Try.ntmps28
  go_wp2_with fail
  refine (markStoreS_two g a b _ (H.out.keep (HB.out _))).mono ?_
  rintro e w1 ⟨rfl, hw⟩
  have HW := Lib.hid hw
  clear hw
  go_wp2
  go_ret
  exact ⟨rfl, _, HW.out⟩
end Go.Proofs.Ytgclmldhdjmabab
