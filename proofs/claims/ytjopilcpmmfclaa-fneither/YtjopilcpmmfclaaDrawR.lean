/-
  Walks: what is drawn of a code: texts, rows, tables.
-/
import Derived.Test.YtjopilcpmmfclaaDrawB
import Derived.Test.YtjopilcpmmfclaaRowD
import Derived.Deep.Cut
namespace Go.Proofs.Ytjopilcpmmfclaa
open Go.RowKit Go.Lib

/-- A text of a few letters, and the reader one further. -/
def PickedText (w : World) (R : Nat) (bs : List Int) (p : Int) (e : Ending) (w' : World) : Prop :=
  ∃ s : ByteArray, e = .returned (.string s) ∧ s.size ≤ 20 ∧ Rd w' R bs (p + 1) ∧ w.grownBy w' (some R)
theorem getDT_mem {L : List ByteArray} {k : Nat} (h : k < L.length) : L.getD k ⟨#[]⟩ ∈ L := by
  rw [show L.getD k ⟨#[]⟩ = L[k] from by simp [h]]; exact List.getElem_mem h

set_option maxHeartbeats 1000000 in
theorem of_any (R g cap : Nat) (bs : List Int) (L : List ByteArray) (p : Int) (w : World) (h : Rd w R bs p) (hp0 : 0 ≤ p) (hp1 : p ≤ 1000000) (hL0 : 1 ≤ L.length) (hL1 : L.length ≤ 1000) (hg : g ≠ R) (hS : L.all (fun s => decide (s.size ≤ 20)) = true)
    (hc : ∀ i, i < L.length → w.cell? ⟨g, i, none⟩ = some (.string (L.getD i ⟨#[]⟩))) :
    Calls Try.prog 84 #[.pointer (some ⟨R, 0, none⟩), .slice (some ⟨g, 0, none⟩) L.length cap] w (PickedText w R bs p) := by
  go_enter Try.func84, Try.ntmps84
  go_wp2_with fail
  refine (pick_any R bs p _ _ h hp0 hp1 (by omega) (by omega)).mono ?_
  rintro e w1 ⟨v, rfl, v0, v1, hrd, hgr⟩
  obtain ⟨j, rfl⟩ := Int.eq_ofNat_of_zero_le v0
  have hj : j < L.length := by omega
  have hcj := grown_cell hgr hg (hc j hj)
  have hm : (L.getD j ⟨#[]⟩).size ≤ 20 := by simpa using List.all_eq_true.1 hS _ (getDT_mem hj)
  clear hc hS
  generalize L.getD j ⟨#[]⟩ = v at *
  have Hm := Lib.hid hm
  have Hr := Lib.hid hrd
  have Hg := Lib.hid hgr
  clear hrd hgr h hm
  go_wp2
  go_ret
  exact ⟨v, rfl, Hm.out, Hr.out, Hg.out⟩

set_option maxHeartbeats 1000000 in
theorem l20Key_any (R : Nat) (bs : List Int) (p : Int) (w : World) (h : Rd w R bs p) (hp0 : 0 ≤ p) (hp1 : p ≤ 1000000) :
    Calls Try.prog 140 #[.pointer (some ⟨R, 0, none⟩)] w (PickedText w R bs p) := by
  go_enter Try.func140, Try.ntmps140
  go_wp2_with fail
  refine (of_any R w.heap.size 4 bs [⟨#[97]⟩, ⟨#[98]⟩, ⟨#[99]⟩, ⟨#[107, 49]⟩] p _ (rd_alloc h _) (by omega) (by omega) (by simp) (by simp) (by have := (h).lt; omega) (by decide) (by
    intro i hi
    match i, hi with
    | 0, _ => first | (simp; done) | (simp [go_sem]; done)
    | 1, _ => first | (simp; done) | (simp [go_sem]; done)
    | 2, _ => first | (simp; done) | (simp [go_sem]; done)
    | 3, _ => first | (simp; done) | (simp [go_sem]; done))).mono ?_
  rintro e w1 ⟨s, rfl, hs, hrd, hgr⟩
  have Hs := Lib.hid hs
  have Hr := Lib.hid hrd
  have Hg := Lib.hid (grown_trans (grown_alloc (grown_refl w (some R)) _) hgr)
  clear hs hrd hgr h
  go_wp2
  go_ret
  exact ⟨s, rfl, Hs.out, Hr.out, Hg.out⟩

/-- A drawn row of short texts. -/
def DrawnRow (w : World) (R : Nat) (bs : List Int) (p c : Int) (e : Ending) (w' : World) : Prop :=
  ∃ r : RowV, e = .returned (.agg #[.string r.k, .string r.t, .int .i64 r.f, .int .i64 r.e]) ∧ (r.k.size ≤ 20 ∧ r.t.size ≤ 20) ∧ ∃ p', p ≤ p' ∧ p' ≤ p + c ∧ Rd w' R bs p' ∧ w.grownBy w' (some R)
/-- The same, and where its span may lie. -/
def DrawnRowB (w : World) (R : Nat) (bs : List Int) (p c : Int) (e : Ending) (w' : World) : Prop :=
  ∃ r : RowV, e = .returned (.agg #[.string r.k, .string r.t, .int .i64 r.f, .int .i64 r.e]) ∧ (r.k.size ≤ 20 ∧ r.t.size ≤ 20) ∧ (0 ≤ r.f ∧ r.f ≤ 100 ∧ 0 ≤ r.e ∧ r.e ≤ 100) ∧ ∃ p', p ≤ p' ∧ p' ≤ p + c ∧ Rd w' R bs p' ∧ w.grownBy w' (some R)

set_option maxHeartbeats 4000000 in
theorem l20RowB_any (R : Nat) (bs : List Int) (p : Int) (w : World) (h : Rd w R bs p) (hp0 : 0 ≤ p) (hp1 : p ≤ 800000) :
    Calls Try.prog 127 #[.pointer (some ⟨R, 0, none⟩)] w (DrawnRowB w R bs p 5) := by
  have hR := h.lt
  have hne : w.heap.size ≠ R := by omega
  go_enter Try.func127, Try.ntmps127
  go_wp2_with fail
  refine (l20Key_any R bs p _ (rd_alloc h _) hp0 (by omega)).mono ?_
  rintro e w1 ⟨k, rfl, hk, hrd1, hgr1⟩
  have HK := Lib.hid hk
  clear hk
  have hz1 : w.heap.size < w1.heap.size := by have := hgr1.size; simp at this; omega
  go_wp2_with fail
  refine (of_any R w1.heap.size 5 bs [⟨#[120]⟩, ⟨#[121]⟩, ⟨#[122]⟩, ⟨#[97]⟩, ⟨#[98]⟩] (p + 1) _ (rd_alloc hrd1 _) (by omega) (by omega) (by simp) (by simp) (by have := (hrd1).lt; omega) (by decide) (by
    intro i hi
    match i, hi with
    | 0, _ => first | (simp; done) | (simp [go_sem]; done)
    | 1, _ => first | (simp; done) | (simp [go_sem]; done)
    | 2, _ => first | (simp; done) | (simp [go_sem]; done)
    | 3, _ => first | (simp; done) | (simp [go_sem]; done)
    | 4, _ => first | (simp; done) | (simp [go_sem]; done))).mono ?_
  rintro e w2 ⟨t, rfl, ht, hrd2, hgr2⟩
  have HT := Lib.hid ht
  clear ht
  go_wp2_with fail
  refine (l20Span_any R bs (p + 1 + 1) _ hrd2 (by omega) (by omega)).mono ?_
  rintro e w3 ⟨a, b, rfl, hab, p3, hp3a, hp3b, hrd3, hgr3⟩
  have HAB := Lib.hid hab
  clear hab
  have gA := grown_trans hgr1 (grown_trans (grown_trans (grown_alloc (grown_refl w1 (some R)) _) hgr2) hgr3)
  have e0 : w3.cell? ⟨w.heap.size, 0, none⟩ = some (.string ⟨#[]⟩) := grown_cell gA hne (by simp)
  have e1 : w3.cell? ⟨w.heap.size, 1, none⟩ = some (.string ⟨#[]⟩) := grown_cell gA hne (by simp)
  have e2 : w3.cell? ⟨w.heap.size, 2, none⟩ = some (.int .i64 0) := grown_cell gA hne (by simp)
  have e3 : w3.cell? ⟨w.heap.size, 3, none⟩ = some (.int .i64 0) := grown_cell gA hne (by simp)
  have f0 : ∀ o, w3.frozen? ⟨w.heap.size, o, none⟩ = false := fun o => ((gcell gA).2 _ _ (by simp) hne).trans (by simp)
  have HG := Lib.hid (grown_trans (grown_alloc (grown_refl w (some R)) _) gA)
  have HR := Lib.hid hrd3
  clear hgr1 hgr2 hgr3 gA hrd1 hrd2 hrd3 h
  go_wp2
  refine bodyPost_ret (v := .agg #[.string k, .string t, .int .i64 a, .int .i64 b]) (by simp [results, Try.results127, go_sem, e0, e1, e2, e3]) rfl ?_
  exact ⟨⟨k, t, a, b⟩, rfl, ⟨HK.out, HT.out⟩, HAB.out, p3, by omega, by omega, (by repeat (first | exact HR.out | refine rd_set ?_ (by omega) _)), (by repeat (first | exact HG.out | refine grown_set_new ?_ (Nat.le_refl _) _))⟩
theorem l20Row_any (R : Nat) (bs : List Int) (p : Int) (w : World) (h : Rd w R bs p) (hp0 : 0 ≤ p) (hp1 : p ≤ 800000) :
    Calls Try.prog 127 #[.pointer (some ⟨R, 0, none⟩)] w (DrawnRow w R bs p 5) :=
  (l20RowB_any R bs p w h hp0 hp1).mono fun _ _ ⟨r, h1, h2, _, h3⟩ => ⟨r, h1, h2, h3⟩

set_option maxRecDepth 100000 in
set_option maxHeartbeats 4000000 in
theorem l20AnyRow_any (R : Nat) (bs : List Int) (p : Int) (w : World) (h : Rd w R bs p) (hp0 : 0 ≤ p) (hp1 : p ≤ 700000) :
    Calls Try.prog 110 #[.pointer (some ⟨R, 0, none⟩)] w (DrawnRow w R bs p 11) := by
  have hR := h.lt
  have hne : w.heap.size ≠ R := by omega
  go_enter Try.func110, Try.ntmps110
  go_wp2_with fail
  refine (l20Row_any R bs p _ (rd_alloc h _) hp0 (by omega)).mono ?_
  rintro e w1 ⟨r, rfl, hr, p1, hp1a, hp1b, hrd1, hgr1⟩
  obtain ⟨HRk, HRt⟩ := hr
  have hR1 := hrd1.lt
  have hne1 : w1.heap.size ≠ R := by omega
  have hz1 : w.heap.size < w1.heap.size := by have := hgr1.size; simp at this; omega
  go_wp2_with fail
  refine (pick_any R bs p1 _ _ (rd_alloc hrd1 _) (by omega) (by omega) (by omega) (by omega)).mono ?_
  rintro e w2 ⟨v, rfl, v0, v1, hrd2, hgr2⟩
  have gA := grown_trans hgr1 (grown_trans (grown_alloc (grown_refl w1 (some R)) (Obj.cells #[.string r.k, .string r.t, .int .i64 r.f, .int .i64 r.e] 60)) hgr2)
  have hz2 := hgr2.size
  simp at hz2
  have k0 : w2.cell? ⟨w1.heap.size, 0, none⟩ = some (.string r.k) := grown_cell hgr2 hne1 (by simp)
  have k1 : w2.cell? ⟨w1.heap.size, 1, none⟩ = some (.string r.t) := grown_cell hgr2 hne1 (by simp)
  have k2 : w2.cell? ⟨w1.heap.size, 2, none⟩ = some (.int .i64 r.f) := grown_cell hgr2 hne1 (by simp)
  have k3 : w2.cell? ⟨w1.heap.size, 3, none⟩ = some (.int .i64 r.e) := grown_cell hgr2 hne1 (by simp)
  have r0 : w2.cell? ⟨w.heap.size, 0, none⟩ = some (.string ⟨#[]⟩) := grown_cell gA hne (by simp)
  have r1 : w2.cell? ⟨w.heap.size, 1, none⟩ = some (.string ⟨#[]⟩) := grown_cell gA hne (by simp)
  have r2 : w2.cell? ⟨w.heap.size, 2, none⟩ = some (.int .i64 0) := grown_cell gA hne (by simp)
  have r3 : w2.cell? ⟨w.heap.size, 3, none⟩ = some (.int .i64 0) := grown_cell gA hne (by simp)
  have f1 : ∀ o, w2.frozen? ⟨w1.heap.size, o, none⟩ = false := fun o => ((gcell hgr2).2 _ _ (by simp) hne1).trans (by simp)
  have f0 : ∀ o, w2.frozen? ⟨w.heap.size, o, none⟩ = false := fun o => ((gcell gA).2 _ _ (by simp) hne).trans (by simp)
  have hdiff : w.heap.size ≠ w1.heap.size := by omega
  have hdiff2 : w1.heap.size ≠ w.heap.size := by omega
  have HG := Lib.hid (grown_trans (grown_alloc (grown_refl w (some R)) _) gA)
  have HR := Lib.hid hrd2
  clear hgr1 hgr2 gA hrd1 hrd2 h
  by_cases e0 : v = 0
  · subst e0
    go_wp2_with fail
    refine (of_any R w2.heap.size 3 bs [⟨#[]⟩, ⟨#[65]⟩, ⟨#[116, 111, 111, 108, 111, 110, 103, 107, 101, 121]⟩] (p1 + 1) _ (rd_alloc HR.out _) (by omega) (by omega) (by simp) (by simp) (by have := (HR.out).lt; omega) (by decide) (by
      intro i hi
      match i, hi with
      | 0, _ => first | (simp; done) | (simp [go_sem]; done)
      | 1, _ => first | (simp; done) | (simp [go_sem]; done)
      | 2, _ => first | (simp; done) | (simp [go_sem]; done))).mono ?_
    rintro e w3 ⟨t, rfl, ht, hrd3, hgr3⟩
    have HT := Lib.hid ht
    clear ht
    have gB := grown_trans (grown_alloc (grown_refl w2 (some R)) _) hgr3
    replace k0 := grown_cell gB hne1 k0
    replace k1 := grown_cell gB hne1 k1
    replace k2 := grown_cell gB hne1 k2
    replace k3 := grown_cell gB hne1 k3
    replace r0 := grown_cell gB hne r0
    replace r1 := grown_cell gB hne r1
    replace r2 := grown_cell gB hne r2
    replace r3 := grown_cell gB hne r3
    replace f1 : ∀ o, w3.frozen? ⟨w1.heap.size, o, none⟩ = false := fun o => ((gcell gB).2 _ _ (by omega) hne1).trans (f1 o)
    replace f0 : ∀ o, w3.frozen? ⟨w.heap.size, o, none⟩ = false := fun o => ((gcell gB).2 _ _ (by omega) hne).trans (f0 o)
    have HG3 := Lib.hid (grown_trans HG.out gB)
    have HR3 := Lib.hid hrd3
    clear gB hgr3 hrd3
    go_upto_region 9 with fail
    obtain ⟨W, hW⟩ : ∃ W, (w3.setCell ⟨w1.heap.size, 0, none⟩ (.string t)) = W := ⟨_, rfl⟩
    have K0 : W.cell? ⟨w1.heap.size, 0, none⟩ = some (.string t) := by rw [← hW]; exact World.cell?_setCell_same' _ _ _ (by first | (rw [k0]; rfl) | (rw [World.cell?_setCell_other _ _ _ _ (by simp), k0]; rfl))
    have K1 : W.cell? ⟨w1.heap.size, 1, none⟩ = some (.string r.t) := by rw [← hW]; rw [World.cell?_setCell_other _ _ _ _ (by simp)]; exact k1
    have K2 : W.cell? ⟨w1.heap.size, 2, none⟩ = some (.int .i64 r.f) := by rw [← hW]; rw [World.cell?_setCell_other _ _ _ _ (by simp)]; exact k2
    have K3 : W.cell? ⟨w1.heap.size, 3, none⟩ = some (.int .i64 r.e) := by rw [← hW]; rw [World.cell?_setCell_other _ _ _ _ (by simp)]; exact k3
    have Q0 : W.cell? ⟨w.heap.size, 0, none⟩ = some (.string ⟨#[]⟩) := by rw [← hW]; rw [World.cell?_setCell_other _ _ _ _ (by first | (simp; done) | (simp; omega))]; exact r0
    have Q1 : W.cell? ⟨w.heap.size, 1, none⟩ = some (.string ⟨#[]⟩) := by rw [← hW]; rw [World.cell?_setCell_other _ _ _ _ (by first | (simp; done) | (simp; omega))]; exact r1
    have Q2 : W.cell? ⟨w.heap.size, 2, none⟩ = some (.int .i64 0) := by rw [← hW]; rw [World.cell?_setCell_other _ _ _ _ (by first | (simp; done) | (simp; omega))]; exact r2
    have Q3 : W.cell? ⟨w.heap.size, 3, none⟩ = some (.int .i64 0) := by rw [← hW]; rw [World.cell?_setCell_other _ _ _ _ (by first | (simp; done) | (simp; omega))]; exact r3
    have F0 : ∀ o, W.frozen? ⟨w.heap.size, o, none⟩ = false := fun o => by rw [← hW]; rw [World.frozen?_setCell]; exact f0 o
    have HGW := Lib.hid (show w.grownBy W (some R) from by rw [← hW]; repeat (first | exact HG3.out | refine grown_set_new ?_ (by omega) _))
    have HRW := Lib.hid (show Rd W R bs (p1 + 1 + 1) from by rw [← hW]; repeat (first | exact HR3.out | refine rd_set ?_ (by omega) _))
    rw [hW]
    clear hW k0 k1 k2 k3 r0 r1 r2 r3 f0 f1 HG3 HR3 HG HR
    go_wp2
    refine bodyPost_ret (v := .agg #[.string t, .string r.t, .int .i64 r.f, .int .i64 r.e]) (by simp [results, Try.results110, go_sem, Q0, Q1, Q2, Q3]) rfl ?_
    exact ⟨⟨t, r.t, r.f, r.e⟩, rfl, ⟨HT.out, HRt⟩, p1 + 1 + 1, by omega, by omega, (by repeat (first | exact HRW.out | refine rd_set ?_ (by omega) _)), (by repeat (first | exact HGW.out | refine grown_set_new ?_ (by omega) _))⟩
  · have e0' : (v == 0) = false := by simpa using e0
    clear e0
    by_cases e1 : v = 1
    · subst e1
      go_wp2_with fail
      refine (of_any R w2.heap.size 3 bs [⟨#[]⟩, ⟨#[97, 32, 98]⟩, ⟨#[45]⟩] (p1 + 1) _ (rd_alloc HR.out _) (by omega) (by omega) (by simp) (by simp) (by have := (HR.out).lt; omega) (by decide) (by
        intro i hi
        match i, hi with
        | 0, _ => first | (simp; done) | (simp [go_sem]; done)
        | 1, _ => first | (simp; done) | (simp [go_sem]; done)
        | 2, _ => first | (simp; done) | (simp [go_sem]; done))).mono ?_
      rintro e w3 ⟨t, rfl, ht, hrd3, hgr3⟩
      have HT := Lib.hid ht
      clear ht
      have gB := grown_trans (grown_alloc (grown_refl w2 (some R)) _) hgr3
      replace k0 := grown_cell gB hne1 k0
      replace k1 := grown_cell gB hne1 k1
      replace k2 := grown_cell gB hne1 k2
      replace k3 := grown_cell gB hne1 k3
      replace r0 := grown_cell gB hne r0
      replace r1 := grown_cell gB hne r1
      replace r2 := grown_cell gB hne r2
      replace r3 := grown_cell gB hne r3
      replace f1 : ∀ o, w3.frozen? ⟨w1.heap.size, o, none⟩ = false := fun o => ((gcell gB).2 _ _ (by omega) hne1).trans (f1 o)
      replace f0 : ∀ o, w3.frozen? ⟨w.heap.size, o, none⟩ = false := fun o => ((gcell gB).2 _ _ (by omega) hne).trans (f0 o)
      have HG3 := Lib.hid (grown_trans HG.out gB)
      have HR3 := Lib.hid hrd3
      clear gB hgr3 hrd3
      go_upto_region 9 with fail
      obtain ⟨W, hW⟩ : ∃ W, (w3.setCell ⟨w1.heap.size, 1, none⟩ (.string t)) = W := ⟨_, rfl⟩
      have K0 : W.cell? ⟨w1.heap.size, 0, none⟩ = some (.string r.k) := by rw [← hW]; rw [World.cell?_setCell_other _ _ _ _ (by simp)]; exact k0
      have K1 : W.cell? ⟨w1.heap.size, 1, none⟩ = some (.string t) := by rw [← hW]; exact World.cell?_setCell_same' _ _ _ (by first | (rw [k1]; rfl) | (rw [World.cell?_setCell_other _ _ _ _ (by simp), k1]; rfl))
      have K2 : W.cell? ⟨w1.heap.size, 2, none⟩ = some (.int .i64 r.f) := by rw [← hW]; rw [World.cell?_setCell_other _ _ _ _ (by simp)]; exact k2
      have K3 : W.cell? ⟨w1.heap.size, 3, none⟩ = some (.int .i64 r.e) := by rw [← hW]; rw [World.cell?_setCell_other _ _ _ _ (by simp)]; exact k3
      have Q0 : W.cell? ⟨w.heap.size, 0, none⟩ = some (.string ⟨#[]⟩) := by rw [← hW]; rw [World.cell?_setCell_other _ _ _ _ (by first | (simp; done) | (simp; omega))]; exact r0
      have Q1 : W.cell? ⟨w.heap.size, 1, none⟩ = some (.string ⟨#[]⟩) := by rw [← hW]; rw [World.cell?_setCell_other _ _ _ _ (by first | (simp; done) | (simp; omega))]; exact r1
      have Q2 : W.cell? ⟨w.heap.size, 2, none⟩ = some (.int .i64 0) := by rw [← hW]; rw [World.cell?_setCell_other _ _ _ _ (by first | (simp; done) | (simp; omega))]; exact r2
      have Q3 : W.cell? ⟨w.heap.size, 3, none⟩ = some (.int .i64 0) := by rw [← hW]; rw [World.cell?_setCell_other _ _ _ _ (by first | (simp; done) | (simp; omega))]; exact r3
      have F0 : ∀ o, W.frozen? ⟨w.heap.size, o, none⟩ = false := fun o => by rw [← hW]; rw [World.frozen?_setCell]; exact f0 o
      have HGW := Lib.hid (show w.grownBy W (some R) from by rw [← hW]; repeat (first | exact HG3.out | refine grown_set_new ?_ (by omega) _))
      have HRW := Lib.hid (show Rd W R bs (p1 + 1 + 1) from by rw [← hW]; repeat (first | exact HR3.out | refine rd_set ?_ (by omega) _))
      rw [hW]
      clear hW k0 k1 k2 k3 r0 r1 r2 r3 f0 f1 HG3 HR3 HG HR
      go_wp2
      refine bodyPost_ret (v := .agg #[.string r.k, .string t, .int .i64 r.f, .int .i64 r.e]) (by simp [results, Try.results110, go_sem, Q0, Q1, Q2, Q3]) rfl ?_
      exact ⟨⟨r.k, t, r.f, r.e⟩, rfl, ⟨HRk, HT.out⟩, p1 + 1 + 1, by omega, by omega, (by repeat (first | exact HRW.out | refine rd_set ?_ (by omega) _)), (by repeat (first | exact HGW.out | refine grown_set_new ?_ (by omega) _))⟩
    · have e1' : (v == 1) = false := by simpa using e1
      clear e1
      by_cases e2 : v = 2
      · subst e2
        go_wp2_with fail
        refine (l20AnySpan_any R bs (p1 + 1) _ HR.out (by omega) (by omega)).mono ?_
        rintro e w3 ⟨a, b, rfl, -, p3, hp3a, hp3b, hrd3, hgr3⟩
        have gB := hgr3
        replace k0 := grown_cell gB hne1 k0
        replace k1 := grown_cell gB hne1 k1
        replace k2 := grown_cell gB hne1 k2
        replace k3 := grown_cell gB hne1 k3
        replace r0 := grown_cell gB hne r0
        replace r1 := grown_cell gB hne r1
        replace r2 := grown_cell gB hne r2
        replace r3 := grown_cell gB hne r3
        replace f1 : ∀ o, w3.frozen? ⟨w1.heap.size, o, none⟩ = false := fun o => ((gcell gB).2 _ _ (by omega) hne1).trans (f1 o)
        replace f0 : ∀ o, w3.frozen? ⟨w.heap.size, o, none⟩ = false := fun o => ((gcell gB).2 _ _ (by omega) hne).trans (f0 o)
        have HG3 := Lib.hid (grown_trans HG.out gB)
        have HR3 := Lib.hid hrd3
        clear gB hgr3 hrd3
        go_upto_region 9 with fail
        obtain ⟨W, hW⟩ : ∃ W, ((w3.setCell ⟨w1.heap.size, 2, none⟩ (.int .i64 a)).setCell ⟨w1.heap.size, 3, none⟩ (.int .i64 b)) = W := ⟨_, rfl⟩
        have K0 : W.cell? ⟨w1.heap.size, 0, none⟩ = some (.string r.k) := by rw [← hW]; rw [World.cell?_setCell_other _ _ _ _ (by simp)]; rw [World.cell?_setCell_other _ _ _ _ (by simp)]; exact k0
        have K1 : W.cell? ⟨w1.heap.size, 1, none⟩ = some (.string r.t) := by rw [← hW]; rw [World.cell?_setCell_other _ _ _ _ (by simp)]; rw [World.cell?_setCell_other _ _ _ _ (by simp)]; exact k1
        have K2 : W.cell? ⟨w1.heap.size, 2, none⟩ = some (.int .i64 a) := by rw [← hW]; rw [World.cell?_setCell_other _ _ _ _ (by simp)]; exact World.cell?_setCell_same' _ _ _ (by first | (rw [k2]; rfl) | (rw [World.cell?_setCell_other _ _ _ _ (by simp), k2]; rfl))
        have K3 : W.cell? ⟨w1.heap.size, 3, none⟩ = some (.int .i64 b) := by rw [← hW]; exact World.cell?_setCell_same' _ _ _ (by first | (rw [k3]; rfl) | (rw [World.cell?_setCell_other _ _ _ _ (by simp), k3]; rfl))
        have Q0 : W.cell? ⟨w.heap.size, 0, none⟩ = some (.string ⟨#[]⟩) := by rw [← hW]; rw [World.cell?_setCell_other _ _ _ _ (by first | (simp; done) | (simp; omega))]; rw [World.cell?_setCell_other _ _ _ _ (by first | (simp; done) | (simp; omega))]; exact r0
        have Q1 : W.cell? ⟨w.heap.size, 1, none⟩ = some (.string ⟨#[]⟩) := by rw [← hW]; rw [World.cell?_setCell_other _ _ _ _ (by first | (simp; done) | (simp; omega))]; rw [World.cell?_setCell_other _ _ _ _ (by first | (simp; done) | (simp; omega))]; exact r1
        have Q2 : W.cell? ⟨w.heap.size, 2, none⟩ = some (.int .i64 0) := by rw [← hW]; rw [World.cell?_setCell_other _ _ _ _ (by first | (simp; done) | (simp; omega))]; rw [World.cell?_setCell_other _ _ _ _ (by first | (simp; done) | (simp; omega))]; exact r2
        have Q3 : W.cell? ⟨w.heap.size, 3, none⟩ = some (.int .i64 0) := by rw [← hW]; rw [World.cell?_setCell_other _ _ _ _ (by first | (simp; done) | (simp; omega))]; rw [World.cell?_setCell_other _ _ _ _ (by first | (simp; done) | (simp; omega))]; exact r3
        have F0 : ∀ o, W.frozen? ⟨w.heap.size, o, none⟩ = false := fun o => by rw [← hW]; rw [World.frozen?_setCell]; rw [World.frozen?_setCell]; exact f0 o
        have HGW := Lib.hid (show w.grownBy W (some R) from by rw [← hW]; repeat (first | exact HG3.out | refine grown_set_new ?_ (by omega) _))
        have HRW := Lib.hid (show Rd W R bs p3 from by rw [← hW]; repeat (first | exact HR3.out | refine rd_set ?_ (by omega) _))
        rw [hW]
        clear hW k0 k1 k2 k3 r0 r1 r2 r3 f0 f1 HG3 HR3 HG HR
        go_wp2
        refine bodyPost_ret (v := .agg #[.string r.k, .string r.t, .int .i64 a, .int .i64 b]) (by simp [results, Try.results110, go_sem, Q0, Q1, Q2, Q3]) rfl ?_
        exact ⟨⟨r.k, r.t, a, b⟩, rfl, ⟨HRk, HRt⟩, p3, by omega, by omega, (by repeat (first | exact HRW.out | refine rd_set ?_ (by omega) _)), (by repeat (first | exact HGW.out | refine grown_set_new ?_ (by omega) _))⟩
      · have e2' : (v == 2) = false := by simpa using e2
        clear e2
        go_wp2
        refine bodyPost_ret (v := .agg #[.string r.k, .string r.t, .int .i64 r.f, .int .i64 r.e]) (by simp [results, Try.results110, go_sem, r0, r1, r2, r3]) rfl ?_
        exact ⟨r, rfl, ⟨HRk, HRt⟩, p1 + 1, by omega, by omega, (by repeat (first | exact HR.out | refine rd_set ?_ (by omega) _)), (by repeat (first | exact HG.out | refine grown_set_new ?_ (by omega) _))⟩
end Go.Proofs.Ytjopilcpmmfclaa
