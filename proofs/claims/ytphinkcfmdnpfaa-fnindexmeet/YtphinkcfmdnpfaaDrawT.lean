/-
  Walks: what is drawn of a code: tables.
-/
import Derived.Test.YtphinkcfmdnpfaaDrawB
import Derived.Test.YtphinkcfmdnpfaaRowD
import Derived.Deep.Cut
import Derived.Test.YtphinkcfmdnpfaaDmlS
import Derived.Test.YtphinkcfmdnpfaaDmlL
namespace Go.Proofs.Ytphinkcfmdnpfaa
open Go.RowKit Go.Lib

/-- A text of a few letters, and the reader one further. -/
def PickedText (w : World) (R : Nat) (bs : List Int) (p : Int) (e : Ending) (w' : World) : Prop :=
  ∃ s : ByteArray, e = .returned (.string s) ∧ s.size ≤ 20 ∧ Rd w' R bs (p + 1) ∧ w.grownBy w' (some R)
theorem getDT_mem {L : List ByteArray} {k : Nat} (h : k < L.length) : L.getD k ⟨#[]⟩ ∈ L := by
  rw [show L.getD k ⟨#[]⟩ = L[k] from by simp [h]]; exact List.getElem_mem h

set_option maxHeartbeats 1000000 in
theorem of_any (R g cap : Nat) (bs : List Int) (L : List ByteArray) (p : Int) (w : World) (h : Rd w R bs p) (hp0 : 0 ≤ p) (hp1 : p ≤ 1000000) (hL0 : 1 ≤ L.length) (hL1 : L.length ≤ 1000) (hg : g ≠ R) (hS : L.all (fun s => decide (s.size ≤ 20)) = true)
    (hc : ∀ i, i < L.length → w.cell? ⟨g, i, none⟩ = some (.string (L.getD i ⟨#[]⟩))) :
    Calls Try.prog 144 #[.pointer (some ⟨R, 0, none⟩), .slice (some ⟨g, 0, none⟩) L.length cap] w (PickedText w R bs p) := by
  go_enter Try.func144, Try.ntmps144
  go_wp2_with fail
  refine (pick_any R bs p _ _ h hp0 hp1 (by omega) (by omega)).mono ?_
  rintro e w1 ⟨v, rfl, v0, v1, hrd, hgr⟩
  obtain ⟨j, rfl⟩ := Int.eq_ofNat_of_zero_le v0
  have hj : j < L.length := by omega
  have hcj := grown_cell hgr hg (hc j hj)
  have hm : (L.getD j ⟨#[]⟩).size ≤ 20 := by simpa using List.all_eq_true.1 hS _ (getDT_mem hj)
  clear hc hS
  generalize L.getD j ⟨#[]⟩ = v at *
  have Hm := Lib.hid hm
  have Hr := Lib.hid hrd
  have Hg := Lib.hid hgr
  clear hrd hgr h hm
  go_wp2
  go_ret
  exact ⟨v, rfl, Hm.out, Hr.out, Hg.out⟩

set_option maxHeartbeats 1000000 in
theorem l20Key_any (R : Nat) (bs : List Int) (p : Int) (w : World) (h : Rd w R bs p) (hp0 : 0 ≤ p) (hp1 : p ≤ 1000000) :
    Calls Try.prog 162 #[.pointer (some ⟨R, 0, none⟩)] w (PickedText w R bs p) := by
  go_enter Try.func162, Try.ntmps162
  go_wp2_with fail
  refine (of_any R w.heap.size 4 bs [⟨#[97]⟩, ⟨#[98]⟩, ⟨#[99]⟩, ⟨#[107, 49]⟩] p _ (rd_alloc h _) (by omega) (by omega) (by simp) (by simp) (by have := (h).lt; omega) (by decide) (by
    intro i hi
    match i, hi with
    | 0, _ => first | (simp; done) | (simp [go_sem]; done)
    | 1, _ => first | (simp; done) | (simp [go_sem]; done)
    | 2, _ => first | (simp; done) | (simp [go_sem]; done)
    | 3, _ => first | (simp; done) | (simp [go_sem]; done))).mono ?_
  rintro e w1 ⟨s, rfl, hs, hrd, hgr⟩
  have Hs := Lib.hid hs
  have Hr := Lib.hid hrd
  have Hg := Lib.hid (grown_trans (grown_alloc (grown_refl w (some R)) _) hgr)
  clear hs hrd hgr h
  go_wp2
  go_ret
  exact ⟨s, rfl, Hs.out, Hr.out, Hg.out⟩

/-- A drawn row of short texts. -/
def DrawnRow (w : World) (R : Nat) (bs : List Int) (p c : Int) (e : Ending) (w' : World) : Prop :=
  ∃ r : RowV, e = .returned (.agg #[.string r.k, .string r.t, .int .i64 r.f, .int .i64 r.e]) ∧ (r.k.size ≤ 20 ∧ r.t.size ≤ 20) ∧ ∃ p', p ≤ p' ∧ p' ≤ p + c ∧ Rd w' R bs p' ∧ w.grownBy w' (some R)
/-- The same, and where its span may lie. -/
def DrawnRowB (w : World) (R : Nat) (bs : List Int) (p c : Int) (e : Ending) (w' : World) : Prop :=
  ∃ r : RowV, e = .returned (.agg #[.string r.k, .string r.t, .int .i64 r.f, .int .i64 r.e]) ∧ (r.k.size ≤ 20 ∧ r.t.size ≤ 20) ∧ (0 ≤ r.f ∧ r.f ≤ 100 ∧ 0 ≤ r.e ∧ r.e ≤ 100) ∧ ∃ p', p ≤ p' ∧ p' ≤ p + c ∧ Rd w' R bs p' ∧ w.grownBy w' (some R)

set_option maxHeartbeats 4000000 in
theorem l20RowB_any (R : Nat) (bs : List Int) (p : Int) (w : World) (h : Rd w R bs p) (hp0 : 0 ≤ p) (hp1 : p ≤ 800000) :
    Calls Try.prog 143 #[.pointer (some ⟨R, 0, none⟩)] w (DrawnRowB w R bs p 5) := by
  have hR := h.lt
  have hne : w.heap.size ≠ R := by omega
  go_enter Try.func143, Try.ntmps143
  go_wp2_with fail
  refine (l20Key_any R bs p _ (rd_alloc h _) hp0 (by omega)).mono ?_
  rintro e w1 ⟨k, rfl, hk, hrd1, hgr1⟩
  have HK := Lib.hid hk
  clear hk
  have hz1 : w.heap.size < w1.heap.size := by have := hgr1.size; simp at this; omega
  go_wp2_with fail
  refine (of_any R w1.heap.size 5 bs [⟨#[120]⟩, ⟨#[121]⟩, ⟨#[122]⟩, ⟨#[97]⟩, ⟨#[98]⟩] (p + 1) _ (rd_alloc hrd1 _) (by omega) (by omega) (by simp) (by simp) (by have := (hrd1).lt; omega) (by decide) (by
    intro i hi
    match i, hi with
    | 0, _ => first | (simp; done) | (simp [go_sem]; done)
    | 1, _ => first | (simp; done) | (simp [go_sem]; done)
    | 2, _ => first | (simp; done) | (simp [go_sem]; done)
    | 3, _ => first | (simp; done) | (simp [go_sem]; done)
    | 4, _ => first | (simp; done) | (simp [go_sem]; done))).mono ?_
  rintro e w2 ⟨t, rfl, ht, hrd2, hgr2⟩
  have HT := Lib.hid ht
  clear ht
  go_wp2_with fail
  refine (l20Span_any R bs (p + 1 + 1) _ hrd2 (by omega) (by omega)).mono ?_
  rintro e w3 ⟨a, b, rfl, hab, p3, hp3a, hp3b, hrd3, hgr3⟩
  have HAB := Lib.hid hab
  clear hab
  have gA := grown_trans hgr1 (grown_trans (grown_trans (grown_alloc (grown_refl w1 (some R)) _) hgr2) hgr3)
  have e0 : w3.cell? ⟨w.heap.size, 0, none⟩ = some (.string ⟨#[]⟩) := grown_cell gA hne (by simp)
  have e1 : w3.cell? ⟨w.heap.size, 1, none⟩ = some (.string ⟨#[]⟩) := grown_cell gA hne (by simp)
  have e2 : w3.cell? ⟨w.heap.size, 2, none⟩ = some (.int .i64 0) := grown_cell gA hne (by simp)
  have e3 : w3.cell? ⟨w.heap.size, 3, none⟩ = some (.int .i64 0) := grown_cell gA hne (by simp)
  have f0 : ∀ o, w3.frozen? ⟨w.heap.size, o, none⟩ = false := fun o => ((gcell gA).2 _ _ (by simp) hne).trans (by simp)
  have HG := Lib.hid (grown_trans (grown_alloc (grown_refl w (some R)) _) gA)
  have HR := Lib.hid hrd3
  clear hgr1 hgr2 hgr3 gA hrd1 hrd2 hrd3 h
  go_wp2
  refine bodyPost_ret (v := .agg #[.string k, .string t, .int .i64 a, .int .i64 b]) (by simp [results, Try.results143, go_sem, e0, e1, e2, e3]) rfl ?_
  exact ⟨⟨k, t, a, b⟩, rfl, ⟨HK.out, HT.out⟩, HAB.out, p3, by omega, by omega, (by repeat (first | exact HR.out | refine rd_set ?_ (by omega) _)), (by repeat (first | exact HG.out | refine grown_set_new ?_ (Nat.le_refl _) _))⟩
theorem l20Row_any (R : Nat) (bs : List Int) (p : Int) (w : World) (h : Rd w R bs p) (hp0 : 0 ≤ p) (hp1 : p ≤ 800000) :
    Calls Try.prog 143 #[.pointer (some ⟨R, 0, none⟩)] w (DrawnRow w R bs p 5) :=
  (l20RowB_any R bs p w h hp0 hp1).mono fun _ _ ⟨r, h1, h2, _, h3⟩ => ⟨r, h1, h2, h3⟩

set_option maxRecDepth 100000 in
set_option maxHeartbeats 4000000 in
theorem l20AnyRow_any (R : Nat) (bs : List Int) (p : Int) (w : World) (h : Rd w R bs p) (hp0 : 0 ≤ p) (hp1 : p ≤ 700000) :
    Calls Try.prog 111 #[.pointer (some ⟨R, 0, none⟩)] w (DrawnRow w R bs p 11) := by
  have hR := h.lt
  have hne : w.heap.size ≠ R := by omega
  go_enter Try.func111, Try.ntmps111
  go_wp2_with fail
  refine (l20Row_any R bs p _ (rd_alloc h _) hp0 (by omega)).mono ?_
  rintro e w1 ⟨r, rfl, hr, p1, hp1a, hp1b, hrd1, hgr1⟩
  obtain ⟨HRk, HRt⟩ := hr
  have hR1 := hrd1.lt
  have hne1 : w1.heap.size ≠ R := by omega
  have hz1 : w.heap.size < w1.heap.size := by have := hgr1.size; simp at this; omega
  go_wp2_with fail
  refine (pick_any R bs p1 _ _ (rd_alloc hrd1 _) (by omega) (by omega) (by omega) (by omega)).mono ?_
  rintro e w2 ⟨v, rfl, v0, v1, hrd2, hgr2⟩
  have gA := grown_trans hgr1 (grown_trans (grown_alloc (grown_refl w1 (some R)) (Obj.cells #[.string r.k, .string r.t, .int .i64 r.f, .int .i64 r.e] 70)) hgr2)
  have hz2 := hgr2.size
  simp at hz2
  have k0 : w2.cell? ⟨w1.heap.size, 0, none⟩ = some (.string r.k) := grown_cell hgr2 hne1 (by simp)
  have k1 : w2.cell? ⟨w1.heap.size, 1, none⟩ = some (.string r.t) := grown_cell hgr2 hne1 (by simp)
  have k2 : w2.cell? ⟨w1.heap.size, 2, none⟩ = some (.int .i64 r.f) := grown_cell hgr2 hne1 (by simp)
  have k3 : w2.cell? ⟨w1.heap.size, 3, none⟩ = some (.int .i64 r.e) := grown_cell hgr2 hne1 (by simp)
  have r0 : w2.cell? ⟨w.heap.size, 0, none⟩ = some (.string ⟨#[]⟩) := grown_cell gA hne (by simp)
  have r1 : w2.cell? ⟨w.heap.size, 1, none⟩ = some (.string ⟨#[]⟩) := grown_cell gA hne (by simp)
  have r2 : w2.cell? ⟨w.heap.size, 2, none⟩ = some (.int .i64 0) := grown_cell gA hne (by simp)
  have r3 : w2.cell? ⟨w.heap.size, 3, none⟩ = some (.int .i64 0) := grown_cell gA hne (by simp)
  have f1 : ∀ o, w2.frozen? ⟨w1.heap.size, o, none⟩ = false := fun o => ((gcell hgr2).2 _ _ (by simp) hne1).trans (by simp)
  have f0 : ∀ o, w2.frozen? ⟨w.heap.size, o, none⟩ = false := fun o => ((gcell gA).2 _ _ (by simp) hne).trans (by simp)
  have hdiff : w.heap.size ≠ w1.heap.size := by omega
  have hdiff2 : w1.heap.size ≠ w.heap.size := by omega
  have HG := Lib.hid (grown_trans (grown_alloc (grown_refl w (some R)) _) gA)
  have HR := Lib.hid hrd2
  clear hgr1 hgr2 gA hrd1 hrd2 h
  by_cases e0 : v = 0
  · subst e0
    go_wp2_with fail
    refine (of_any R w2.heap.size 3 bs [⟨#[]⟩, ⟨#[65]⟩, ⟨#[116, 111, 111, 108, 111, 110, 103, 107, 101, 121]⟩] (p1 + 1) _ (rd_alloc HR.out _) (by omega) (by omega) (by simp) (by simp) (by have := (HR.out).lt; omega) (by decide) (by
      intro i hi
      match i, hi with
      | 0, _ => first | (simp; done) | (simp [go_sem]; done)
      | 1, _ => first | (simp; done) | (simp [go_sem]; done)
      | 2, _ => first | (simp; done) | (simp [go_sem]; done))).mono ?_
    rintro e w3 ⟨t, rfl, ht, hrd3, hgr3⟩
    have HT := Lib.hid ht
    clear ht
    have gB := grown_trans (grown_alloc (grown_refl w2 (some R)) _) hgr3
    replace k0 := grown_cell gB hne1 k0
    replace k1 := grown_cell gB hne1 k1
    replace k2 := grown_cell gB hne1 k2
    replace k3 := grown_cell gB hne1 k3
    replace r0 := grown_cell gB hne r0
    replace r1 := grown_cell gB hne r1
    replace r2 := grown_cell gB hne r2
    replace r3 := grown_cell gB hne r3
    replace f1 : ∀ o, w3.frozen? ⟨w1.heap.size, o, none⟩ = false := fun o => ((gcell gB).2 _ _ (by omega) hne1).trans (f1 o)
    replace f0 : ∀ o, w3.frozen? ⟨w.heap.size, o, none⟩ = false := fun o => ((gcell gB).2 _ _ (by omega) hne).trans (f0 o)
    have HG3 := Lib.hid (grown_trans HG.out gB)
    have HR3 := Lib.hid hrd3
    clear gB hgr3 hrd3
    go_upto_region 9 with fail
    obtain ⟨W, hW⟩ : ∃ W, (w3.setCell ⟨w1.heap.size, 0, none⟩ (.string t)) = W := ⟨_, rfl⟩
    have K0 : W.cell? ⟨w1.heap.size, 0, none⟩ = some (.string t) := by rw [← hW]; exact World.cell?_setCell_same' _ _ _ (by first | (rw [k0]; rfl) | (rw [World.cell?_setCell_other _ _ _ _ (by simp), k0]; rfl))
    have K1 : W.cell? ⟨w1.heap.size, 1, none⟩ = some (.string r.t) := by rw [← hW]; rw [World.cell?_setCell_other _ _ _ _ (by simp)]; exact k1
    have K2 : W.cell? ⟨w1.heap.size, 2, none⟩ = some (.int .i64 r.f) := by rw [← hW]; rw [World.cell?_setCell_other _ _ _ _ (by simp)]; exact k2
    have K3 : W.cell? ⟨w1.heap.size, 3, none⟩ = some (.int .i64 r.e) := by rw [← hW]; rw [World.cell?_setCell_other _ _ _ _ (by simp)]; exact k3
    have Q0 : W.cell? ⟨w.heap.size, 0, none⟩ = some (.string ⟨#[]⟩) := by rw [← hW]; rw [World.cell?_setCell_other _ _ _ _ (by first | (simp; done) | (simp; omega))]; exact r0
    have Q1 : W.cell? ⟨w.heap.size, 1, none⟩ = some (.string ⟨#[]⟩) := by rw [← hW]; rw [World.cell?_setCell_other _ _ _ _ (by first | (simp; done) | (simp; omega))]; exact r1
    have Q2 : W.cell? ⟨w.heap.size, 2, none⟩ = some (.int .i64 0) := by rw [← hW]; rw [World.cell?_setCell_other _ _ _ _ (by first | (simp; done) | (simp; omega))]; exact r2
    have Q3 : W.cell? ⟨w.heap.size, 3, none⟩ = some (.int .i64 0) := by rw [← hW]; rw [World.cell?_setCell_other _ _ _ _ (by first | (simp; done) | (simp; omega))]; exact r3
    have F0 : ∀ o, W.frozen? ⟨w.heap.size, o, none⟩ = false := fun o => by rw [← hW]; rw [World.frozen?_setCell]; exact f0 o
    have HGW := Lib.hid (show w.grownBy W (some R) from by rw [← hW]; repeat (first | exact HG3.out | refine grown_set_new ?_ (by omega) _))
    have HRW := Lib.hid (show Rd W R bs (p1 + 1 + 1) from by rw [← hW]; repeat (first | exact HR3.out | refine rd_set ?_ (by omega) _))
    rw [hW]
    clear hW k0 k1 k2 k3 r0 r1 r2 r3 f0 f1 HG3 HR3 HG HR
    go_wp2
    refine bodyPost_ret (v := .agg #[.string t, .string r.t, .int .i64 r.f, .int .i64 r.e]) (by simp [results, Try.results111, go_sem, Q0, Q1, Q2, Q3]) rfl ?_
    exact ⟨⟨t, r.t, r.f, r.e⟩, rfl, ⟨HT.out, HRt⟩, p1 + 1 + 1, by omega, by omega, (by repeat (first | exact HRW.out | refine rd_set ?_ (by omega) _)), (by repeat (first | exact HGW.out | refine grown_set_new ?_ (by omega) _))⟩
  · have e0' : (v == 0) = false := by simpa using e0
    clear e0
    by_cases e1 : v = 1
    · subst e1
      go_wp2_with fail
      refine (of_any R w2.heap.size 3 bs [⟨#[]⟩, ⟨#[97, 32, 98]⟩, ⟨#[45]⟩] (p1 + 1) _ (rd_alloc HR.out _) (by omega) (by omega) (by simp) (by simp) (by have := (HR.out).lt; omega) (by decide) (by
        intro i hi
        match i, hi with
        | 0, _ => first | (simp; done) | (simp [go_sem]; done)
        | 1, _ => first | (simp; done) | (simp [go_sem]; done)
        | 2, _ => first | (simp; done) | (simp [go_sem]; done))).mono ?_
      rintro e w3 ⟨t, rfl, ht, hrd3, hgr3⟩
      have HT := Lib.hid ht
      clear ht
      have gB := grown_trans (grown_alloc (grown_refl w2 (some R)) _) hgr3
      replace k0 := grown_cell gB hne1 k0
      replace k1 := grown_cell gB hne1 k1
      replace k2 := grown_cell gB hne1 k2
      replace k3 := grown_cell gB hne1 k3
      replace r0 := grown_cell gB hne r0
      replace r1 := grown_cell gB hne r1
      replace r2 := grown_cell gB hne r2
      replace r3 := grown_cell gB hne r3
      replace f1 : ∀ o, w3.frozen? ⟨w1.heap.size, o, none⟩ = false := fun o => ((gcell gB).2 _ _ (by omega) hne1).trans (f1 o)
      replace f0 : ∀ o, w3.frozen? ⟨w.heap.size, o, none⟩ = false := fun o => ((gcell gB).2 _ _ (by omega) hne).trans (f0 o)
      have HG3 := Lib.hid (grown_trans HG.out gB)
      have HR3 := Lib.hid hrd3
      clear gB hgr3 hrd3
      go_upto_region 9 with fail
      obtain ⟨W, hW⟩ : ∃ W, (w3.setCell ⟨w1.heap.size, 1, none⟩ (.string t)) = W := ⟨_, rfl⟩
      have K0 : W.cell? ⟨w1.heap.size, 0, none⟩ = some (.string r.k) := by rw [← hW]; rw [World.cell?_setCell_other _ _ _ _ (by simp)]; exact k0
      have K1 : W.cell? ⟨w1.heap.size, 1, none⟩ = some (.string t) := by rw [← hW]; exact World.cell?_setCell_same' _ _ _ (by first | (rw [k1]; rfl) | (rw [World.cell?_setCell_other _ _ _ _ (by simp), k1]; rfl))
      have K2 : W.cell? ⟨w1.heap.size, 2, none⟩ = some (.int .i64 r.f) := by rw [← hW]; rw [World.cell?_setCell_other _ _ _ _ (by simp)]; exact k2
      have K3 : W.cell? ⟨w1.heap.size, 3, none⟩ = some (.int .i64 r.e) := by rw [← hW]; rw [World.cell?_setCell_other _ _ _ _ (by simp)]; exact k3
      have Q0 : W.cell? ⟨w.heap.size, 0, none⟩ = some (.string ⟨#[]⟩) := by rw [← hW]; rw [World.cell?_setCell_other _ _ _ _ (by first | (simp; done) | (simp; omega))]; exact r0
      have Q1 : W.cell? ⟨w.heap.size, 1, none⟩ = some (.string ⟨#[]⟩) := by rw [← hW]; rw [World.cell?_setCell_other _ _ _ _ (by first | (simp; done) | (simp; omega))]; exact r1
      have Q2 : W.cell? ⟨w.heap.size, 2, none⟩ = some (.int .i64 0) := by rw [← hW]; rw [World.cell?_setCell_other _ _ _ _ (by first | (simp; done) | (simp; omega))]; exact r2
      have Q3 : W.cell? ⟨w.heap.size, 3, none⟩ = some (.int .i64 0) := by rw [← hW]; rw [World.cell?_setCell_other _ _ _ _ (by first | (simp; done) | (simp; omega))]; exact r3
      have F0 : ∀ o, W.frozen? ⟨w.heap.size, o, none⟩ = false := fun o => by rw [← hW]; rw [World.frozen?_setCell]; exact f0 o
      have HGW := Lib.hid (show w.grownBy W (some R) from by rw [← hW]; repeat (first | exact HG3.out | refine grown_set_new ?_ (by omega) _))
      have HRW := Lib.hid (show Rd W R bs (p1 + 1 + 1) from by rw [← hW]; repeat (first | exact HR3.out | refine rd_set ?_ (by omega) _))
      rw [hW]
      clear hW k0 k1 k2 k3 r0 r1 r2 r3 f0 f1 HG3 HR3 HG HR
      go_wp2
      refine bodyPost_ret (v := .agg #[.string r.k, .string t, .int .i64 r.f, .int .i64 r.e]) (by simp [results, Try.results111, go_sem, Q0, Q1, Q2, Q3]) rfl ?_
      exact ⟨⟨r.k, t, r.f, r.e⟩, rfl, ⟨HRk, HT.out⟩, p1 + 1 + 1, by omega, by omega, (by repeat (first | exact HRW.out | refine rd_set ?_ (by omega) _)), (by repeat (first | exact HGW.out | refine grown_set_new ?_ (by omega) _))⟩
    · have e1' : (v == 1) = false := by simpa using e1
      clear e1
      by_cases e2 : v = 2
      · subst e2
        go_wp2_with fail
        refine (l20AnySpan_any R bs (p1 + 1) _ HR.out (by omega) (by omega)).mono ?_
        rintro e w3 ⟨a, b, rfl, -, p3, hp3a, hp3b, hrd3, hgr3⟩
        have gB := hgr3
        replace k0 := grown_cell gB hne1 k0
        replace k1 := grown_cell gB hne1 k1
        replace k2 := grown_cell gB hne1 k2
        replace k3 := grown_cell gB hne1 k3
        replace r0 := grown_cell gB hne r0
        replace r1 := grown_cell gB hne r1
        replace r2 := grown_cell gB hne r2
        replace r3 := grown_cell gB hne r3
        replace f1 : ∀ o, w3.frozen? ⟨w1.heap.size, o, none⟩ = false := fun o => ((gcell gB).2 _ _ (by omega) hne1).trans (f1 o)
        replace f0 : ∀ o, w3.frozen? ⟨w.heap.size, o, none⟩ = false := fun o => ((gcell gB).2 _ _ (by omega) hne).trans (f0 o)
        have HG3 := Lib.hid (grown_trans HG.out gB)
        have HR3 := Lib.hid hrd3
        clear gB hgr3 hrd3
        go_upto_region 9 with fail
        obtain ⟨W, hW⟩ : ∃ W, ((w3.setCell ⟨w1.heap.size, 2, none⟩ (.int .i64 a)).setCell ⟨w1.heap.size, 3, none⟩ (.int .i64 b)) = W := ⟨_, rfl⟩
        have K0 : W.cell? ⟨w1.heap.size, 0, none⟩ = some (.string r.k) := by rw [← hW]; rw [World.cell?_setCell_other _ _ _ _ (by simp)]; rw [World.cell?_setCell_other _ _ _ _ (by simp)]; exact k0
        have K1 : W.cell? ⟨w1.heap.size, 1, none⟩ = some (.string r.t) := by rw [← hW]; rw [World.cell?_setCell_other _ _ _ _ (by simp)]; rw [World.cell?_setCell_other _ _ _ _ (by simp)]; exact k1
        have K2 : W.cell? ⟨w1.heap.size, 2, none⟩ = some (.int .i64 a) := by rw [← hW]; rw [World.cell?_setCell_other _ _ _ _ (by simp)]; exact World.cell?_setCell_same' _ _ _ (by first | (rw [k2]; rfl) | (rw [World.cell?_setCell_other _ _ _ _ (by simp), k2]; rfl))
        have K3 : W.cell? ⟨w1.heap.size, 3, none⟩ = some (.int .i64 b) := by rw [← hW]; exact World.cell?_setCell_same' _ _ _ (by first | (rw [k3]; rfl) | (rw [World.cell?_setCell_other _ _ _ _ (by simp), k3]; rfl))
        have Q0 : W.cell? ⟨w.heap.size, 0, none⟩ = some (.string ⟨#[]⟩) := by rw [← hW]; rw [World.cell?_setCell_other _ _ _ _ (by first | (simp; done) | (simp; omega))]; rw [World.cell?_setCell_other _ _ _ _ (by first | (simp; done) | (simp; omega))]; exact r0
        have Q1 : W.cell? ⟨w.heap.size, 1, none⟩ = some (.string ⟨#[]⟩) := by rw [← hW]; rw [World.cell?_setCell_other _ _ _ _ (by first | (simp; done) | (simp; omega))]; rw [World.cell?_setCell_other _ _ _ _ (by first | (simp; done) | (simp; omega))]; exact r1
        have Q2 : W.cell? ⟨w.heap.size, 2, none⟩ = some (.int .i64 0) := by rw [← hW]; rw [World.cell?_setCell_other _ _ _ _ (by first | (simp; done) | (simp; omega))]; rw [World.cell?_setCell_other _ _ _ _ (by first | (simp; done) | (simp; omega))]; exact r2
        have Q3 : W.cell? ⟨w.heap.size, 3, none⟩ = some (.int .i64 0) := by rw [← hW]; rw [World.cell?_setCell_other _ _ _ _ (by first | (simp; done) | (simp; omega))]; rw [World.cell?_setCell_other _ _ _ _ (by first | (simp; done) | (simp; omega))]; exact r3
        have F0 : ∀ o, W.frozen? ⟨w.heap.size, o, none⟩ = false := fun o => by rw [← hW]; rw [World.frozen?_setCell]; rw [World.frozen?_setCell]; exact f0 o
        have HGW := Lib.hid (show w.grownBy W (some R) from by rw [← hW]; repeat (first | exact HG3.out | refine grown_set_new ?_ (by omega) _))
        have HRW := Lib.hid (show Rd W R bs p3 from by rw [← hW]; repeat (first | exact HR3.out | refine rd_set ?_ (by omega) _))
        rw [hW]
        clear hW k0 k1 k2 k3 r0 r1 r2 r3 f0 f1 HG3 HR3 HG HR
        go_wp2
        refine bodyPost_ret (v := .agg #[.string r.k, .string r.t, .int .i64 a, .int .i64 b]) (by simp [results, Try.results111, go_sem, Q0, Q1, Q2, Q3]) rfl ?_
        exact ⟨⟨r.k, r.t, a, b⟩, rfl, ⟨HRk, HRt⟩, p3, by omega, by omega, (by repeat (first | exact HRW.out | refine rd_set ?_ (by omega) _)), (by repeat (first | exact HGW.out | refine grown_set_new ?_ (by omega) _))⟩
      · have e2' : (v == 2) = false := by simpa using e2
        clear e2
        go_wp2
        refine bodyPost_ret (v := .agg #[.string r.k, .string r.t, .int .i64 r.f, .int .i64 r.e]) (by simp [results, Try.results111, go_sem, r0, r1, r2, r3]) rfl ?_
        exact ⟨r, rfl, ⟨HRk, HRt⟩, p1 + 1, by omega, by omega, (by repeat (first | exact HR.out | refine rd_set ?_ (by omega) _)), (by repeat (first | exact HG.out | refine grown_set_new ?_ (by omega) _))⟩
end Go.Proofs.Ytphinkcfmdnpfaa
namespace Go.Proofs.Ytphinkcfmdnpfaa
open Go.Shelf Go.RowKit Go.Lib Go.Sort

theorem grown_newR {w a b : World} {R g : Nat} (h : w.grownBy a (some R)) (k : a.grownBy b (some g)) (hg : w.heap.size ≤ g) : w.grownBy b (some R) :=
  ⟨k.os.trans h.os, k.tape.trans h.tape, k.output.trans h.output, Nat.le_trans h.size k.size, fun j hj hne => (k.block j (Nat.lt_of_lt_of_le hj h.size) (fun e => by injection e with e; omega)).trans (h.block j hj hne)⟩
theorem rd_grownR {a b : World} {R g : Nat} {zs : List Int} {p : Int} (h : Rd a R zs p) (k : a.grownBy b (some g)) (hg : R < g) : Rd b R zs p := by
  have hR := h.lt
  obtain ⟨A, cap, h0, h1, h2, h3, h4, h5⟩ := h
  refine ⟨A, cap, grown_cell k (by omega) h0, grown_cell k (by omega) h1, (World.frozen?_of_block (a := ⟨R, 1, none⟩) (k.block R hR (fun e => by injection e with e; omega))).trans h2, h3, h4, fun hn => ?_⟩
  obtain ⟨b, off, e, hlt, hc⟩ := h5 hn
  exact ⟨b, off, e, hlt, fun i hi => grown_cell k (by omega) (hc i hi)⟩

/-- A drawn table, and the reader further. -/
def DrawnRows (w : World) (R : Nat) (bs : List Int) (p c : Int) (N : Nat) (e : Ending) (w' : World) : Prop :=
  ∃ (zs : List RowV) (A : Option Addr) (cap : Nat), e = .returned (.slice A zs.length cap) ∧ zs.length ≤ N ∧ Short zs ∧ w'.ownsRow w.heap.size 70 4 (.slice A zs.length cap) zs.length (flatOf rowC zs) ∧
    ∃ p', p ≤ p' ∧ p' ≤ p + c ∧ Rd w' R bs p' ∧ w.grownBy w' (some R)
/-- Between two rounds. -/
def RelR (w : World) (R : Nat) (bs : List Int) (p : Int) (m : Nat) (v : Value) (wr : World) : Prop :=
  ∃ (zs : List RowV) (p' : Int), zs.length ≤ 24 ∧ Short zs ∧ wr.ownsRow w.heap.size 70 4 v zs.length (flatOf rowC zs) ∧ p ≤ p' ∧ p' + 5 * m ≤ p + 71 ∧ Rd wr R bs p' ∧ w.grownBy wr (some R)
theorem owns_notR {w : World} {base n R : Nat} {v : Value} {xs : List Value} {t : TypeId} {k : Nat} (h : w.ownsRow base t k v n xs) (hR : R < base) : v.ownBlock = none ∨ v.ownBlock ≠ some R := .inr fun e => by have := (h.lt R e).1; omega

set_option maxRecDepth 100000 in
set_option maxHeartbeats 4000000 in
theorem l20Rel_any (R : Nat) (bs : List Int) (p : Int) (w : World) (h : Rd w R bs p) (hp0 : 0 ≤ p) (hp1 : p ≤ 600000) :
    Calls Try.prog 109 #[.pointer (some ⟨R, 0, none⟩)] w (DrawnRows w R bs p 71 24) := by
  obtain ⟨i0, hi, hz0, hz1, hz2⟩ := info_parts Try.infoR70
  have Hi := Lib.hid hi
  have Hz0 := Lib.hid hz0
  have Hz1 := Lib.hid hz1
  have Hz2 := Lib.hid hz2
  clear hi hz0 hz1 hz2
  have hR := h.lt
  go_enter Try.func109, Try.ntmps109
  go_wp2_with fail
  refine (one_any R (w.heap.size + 1) 4 bs [0, 3, 8, 14] p _ (rd_alloc (rd_alloc h _) _) hp0 (by omega) (by simp) (by simp) (by omega) (by
    intro i hi
    match i, hi with
    | 0, _ => first | (simp; done) | (simp [go_sem]; done)
    | 1, _ => first | (simp; done) | (simp [go_sem]; done)
    | 2, _ => first | (simp; done) | (simp [go_sem]; done)
    | 3, _ => first | (simp; done) | (simp [go_sem]; done))).mono ?_
  rintro e w1 ⟨v, rfl, hv, hrd, hgr⟩
  obtain ⟨m, rfl, hm⟩ : ∃ m : Nat, v = (m : Int) ∧ m ≤ 14 := by
    simp at hv
    rcases hv with rfl | rfl | rfl | rfl
    · exact ⟨0, rfl, by omega⟩
    · exact ⟨3, rfl, by omega⟩
    · exact ⟨8, rfl, by omega⟩
    · exact ⟨14, rfl, by omega⟩
  have ho0 : (w.alloc (Obj.cells #[] 70)).ownsRow w.heap.size 70 4 (.slice (some ⟨w.heap.size, 0, none⟩) 0 0) 0 (flatOf rowC []) := by
    have := World.ownsRow_lit (base := w.heap.size) (e := 70) (size := 4) w #[] 0 (Nat.le_refl _) (by simp [maxLen]) (by simp)
    simpa [flatOf] using this
  have ho2 := ho0.alloc (Obj.cells #[Value.int IntKind.i64 0, Value.int IntKind.i64 3, Value.int IntKind.i64 8, Value.int IntKind.i64 14] 3)
  have ho1 := Lib.hid (ho2.kept hgr (owns_notR ho2 hR))
  have HG := Lib.hid (grown_trans (grown_alloc (grown_alloc (grown_refl w (some R)) _) _) hgr)
  have HR := Lib.hid hrd
  clear ho0 ho2 hgr hrd h hv
  go_wp2
  go_loopw [3, 4] (fun v i wr => ∃ m : Nat, m ≤ 14 ∧ i = .int .i64 m ∧ RelR w R bs p m v wr) (fun _ i _ => (intOf i).toNat)
  case atStart => exact ⟨m, hm, rfl, [], p + 1, by simp, (fun y hy => by cases hy), ho1.out, by omega, by omega, HR.out, HG.out⟩
  case round =>
    obtain ⟨j, hj, rfl, zs, p', hzl, hsh, hown, hpa, hpb, hrd, hgr⟩ := hrel
    obtain ⟨A5, c5, rfl⟩ := owns_formN hown
    have Hown := Lib.hid hown
    have HS := Lib.hid hsh
    clear hown hsh ho1 HG HR
    have hs5 := hgr.size
    by_cases hj0 : 0 < j
    · go_wp2_with fail
      refine (l20Row_any R bs p' _ hrd (by omega) (by omega)).mono ?_
      rintro e w2 ⟨r, rfl, hr, p2, hp2a, hp2b, hrd2, hgr2⟩
      have HRr := Lib.hid (short20 hr)
      have Own2 := Lib.hid (Hown.out.kept hgr2 (owns_notR Hown.out hR))
      have hgr3 := grown_trans hgr hgr2
      have hs3 := hgr3.size
      clear hgr hgr2 hrd Hown hr
      go_wp2_with fail
      refine (sRelMerge_any A5 c5 zs r _ (rowsA_own Own2.out rfl) (owns_nilcap Own2.out) (by omega) HS.out HRr.out).mono ?_
      have hml := mergeS_len zs r
      have HMS := Lib.hid (mergeS_short HS.out HRr.out)
      generalize mergeS zs r = q at *
      obtain ⟨q1, q2⟩ := q
      rintro e w3 ⟨A6, c6, rfl, ho6, hb6⟩
      have O6 := Lib.hid (owns_baseE ho6 hs3)
      have G6 := Lib.hid (grown_trans hgr3 (grown_of_below hb6))
      have R6 := Lib.hid (hrd2.kept hb6)
      clear ho6 hb6 hgr3 hrd2 Own2
      go_wp2
      go_roundw
      case rel => exact ⟨j - 1, by omega, by go_num, q1, p2, hml, HMS.out, O6.out, by omega, by omega, R6.out, G6.out⟩
      case measure => simp [intOf]; omega
    · have OL := Lib.hid (World.ownsRow_lit (base := w.heap.size) (e := 70) (size := 4) wr #[] 0 hs5 (by simp [maxLen]) (by simp))
      have SL := Lib.hid (src_below (rowsA_own Hown.out rfl) (owns_nilcap Hown.out) ((Below.refl wr.heap.size wr).alloc (Nat.le_refl _) (.cells #[] 70)))
      have hRr := hrd.lt
      go_wp2_with (at_builtin; refine wpList_append_src _ rfl _ _ 23 rfl w.heap.size 70 i0 _ 48 Try.underlying23 Hi.out Hz0.out Hz1.out Hz2.out rfl (.slice (some ⟨wr.heap.size, 0, none⟩) 0 0) 0 [] rfl OL.out _ zs rfl SL.out (by unfold maxLen; omega) (by omega) (by simp; omega) ?_; rw [List.nil_append, Nat.zero_add]; intro v1 w9 ho1 hg1; obtain ⟨A1, k1, rfl⟩ := owns_formN ho1; have O1 := Lib.hid ho1; have G1 := Lib.hid (grown_newR (grown_alloc hgr _) (show (wr.alloc (.cells #[] 70)).grownBy w9 (some wr.heap.size) from hg1) hs5); have R1 := Lib.hid (rd_grownR (rd_alloc hrd _) (show (wr.alloc (.cells #[] 70)).grownBy w9 (some wr.heap.size) from hg1) hRr); clear ho1 hg1)
      go_ret
      exact ⟨zs, A1, k1, rfl, hzl, HS.out, O1.out, p', by omega, by omega, R1.out, G1.out⟩

set_option maxRecDepth 100000 in
set_option maxHeartbeats 4000000 in
theorem l20AnyRel_any (R : Nat) (bs : List Int) (p : Int) (w : World) (h : Rd w R bs p) (hp0 : 0 ≤ p) (hp1 : p ≤ 500000) :
    Calls Try.prog 55 #[.pointer (some ⟨R, 0, none⟩)] w (DrawnRows w R bs p 84 25) := by
  obtain ⟨i0, hi, hz0, hz1, hz2⟩ := info_parts Try.infoR70
  have Hi := Lib.hid hi
  have Hz0 := Lib.hid hz0
  have Hz1 := Lib.hid hz1
  have Hz2 := Lib.hid hz2
  clear hi hz0 hz1 hz2
  have hR := h.lt
  go_enter Try.func55, Try.ntmps55
  go_wp2_with fail
  refine (l20Rel_any R bs p _ h hp0 (by omega)).mono ?_
  rintro e w1 ⟨zs, A, cap, rfl, hzl, hsh, ho, p1, hp1a, hp1b, hrd1, hgr1⟩
  have HS := Lib.hid hsh
  have O1 := Lib.hid ho
  clear hsh ho h
  by_cases hn : 0 < zs.length
  · obtain ⟨g, c, e0, hgb, hgl⟩ := ownsForm O1.out (fun e => by injection e with _ e; omega)
    injection e0 with e0 _ e2
    subst e0 e2
    have hi' : (0 : Int) < (zs.length : Int) := by omega
    go_wp2_with fail
    refine (pick_any R bs p1 _ _ hrd1 (by omega) (by omega) (by omega) (by omega)).mono ?_
    rintro e w2 ⟨v, rfl, v0, v1, hrd2, hgr2⟩
    obtain ⟨k, rfl⟩ := Int.eq_ofNat_of_zero_le v0
    have hk : k < zs.length := by omega
    have O2 := Lib.hid (O1.out.kept hgr2 (owns_notR O1.out hR))
    have g2 := grown_trans hgr1 hgr2
    clear hgr1 hgr2 hrd1 O1
    go_wp2_with fail
    refine (pick_any R bs (p1 + 1) _ _ hrd2 (by omega) (by omega) (by omega) (by omega)).mono ?_
    rintro e w3 ⟨v, rfl, u0, u1, hrd3, hgr3⟩
    have O3 := Lib.hid (O2.out.kept hgr3 (owns_notR O2.out hR))
    have g3 := grown_trans g2 hgr3
    have hs3 := g3.size
    clear g2 hgr3 hrd2 O2
    by_cases e0 : v = 0
    · subst e0
      go_wp2_with fail
      refine (l20AnyRow_any R bs (p1 + 1 + 1) _ hrd3 (by omega) (by omega)).mono ?_
      rintro e w4 ⟨r, rfl, hr, p4, hp4a, hp4b, hrd4, hgr4⟩
      have HRr := Lib.hid (short20 hr)
      have O4 := Lib.hid (O3.out.kept hgr4 (owns_notR O3.out hR))
      have G4 := Lib.hid (grown_trans g3 hgr4)
      have R4 := Lib.hid hrd4
      have fr : ∀ j, w4.frozen? ⟨g, j, none⟩ = false := fun j => by simpa using O4.out.frozenAt j
      have hx := List.getElem?_eq_getElem hk
      have ce : ∀ j, j < 4 → w4.cell? ⟨g, k * 4 + j, none⟩ = (rowC zs[k])[j]? := fun j hj => by
        have := O4.out.cellAt (k * 4 + j) (by omega)
        rw [flatOf_get rowC_len zs k _ j hx hj] at this
        exact this
      have c0 : w4.cell? ⟨g, k * 4, none⟩ = some (.string zs[k].k) := ce 0 (by omega)
      have c1 : w4.cell? ⟨g, k * 4 + 1, none⟩ = some (.string zs[k].t) := ce 1 (by omega)
      have c2 : w4.cell? ⟨g, k * 4 + 2, none⟩ = some (.int .i64 zs[k].f) := ce 2 (by omega)
      have c3 : w4.cell? ⟨g, k * 4 + 3, none⟩ = some (.int .i64 zs[k].e) := ce 3 (by omega)
      generalize zs[k] = x at c0 c1 c2 c3
      have hkz : (k : Int) < (zs.length : Int) := by omega
      have hkz0 : (0 : Int) ≤ (k : Int) := by omega
      have hRg : R < g := by omega
      clear hrd4 hgr4 g3 hrd3 O3 hr hx ce
      go_wp2
      go_ret
      have s1 := (O4.out.stored (k * 4) (.string r.k)).1
      have s2 := (s1.stored (k * 4 + 1) (.string r.t)).1
      have s3 := (s2.stored (k * 4 + 2) (.int .i64 r.f)).1
      have s4 := (s3.stored (k * 4 + 3) (.int .i64 r.e)).1
      have es : ((((flatOf rowC zs).set (k * 4) (.string r.k)).set (k * 4 + 1) (.string r.t)).set (k * 4 + 2) (.int .i64 r.f)).set (k * 4 + 3) (.int .i64 r.e) = flatOf rowC (zs.set k r) := flatOf_set rowC_len r zs k hk
      rw [es] at s4
      refine ⟨zs.set k r, some ⟨g, 0, none⟩, cap, by rw [List.length_set]; rfl, by rw [List.length_set]; omega, short_set HS.out HRr.out, by rw [List.length_set]; exact s4, p4, by omega, by omega, (by repeat (first | exact R4.out | refine rd_set ?_ hRg _)), (by repeat (first | exact G4.out | refine grown_set_new ?_ hgb _))⟩
    · have e0' : (v == 0) = false := by simpa using e0
      clear e0
      by_cases e1 : v = 1
      · subst e1
        have hx := List.getElem?_eq_getElem hk
        have ce : ∀ j, j < 4 → w3.cell? ⟨g, k * 4 + j, none⟩ = (rowC zs[k])[j]? := fun j hj => by
          have := O3.out.cellAt (k * 4 + j) (by omega)
          rw [flatOf_get rowC_len zs k _ j hx hj] at this
          exact this
        have c0 : w3.cell? ⟨g, k * 4, none⟩ = some (.string zs[k].k) := ce 0 (by omega)
        have c1 : w3.cell? ⟨g, k * 4 + 1, none⟩ = some (.string zs[k].t) := ce 1 (by omega)
        have c2 : w3.cell? ⟨g, k * 4 + 2, none⟩ = some (.int .i64 zs[k].f) := ce 2 (by omega)
        have c3 : w3.cell? ⟨g, k * 4 + 3, none⟩ = some (.int .i64 zs[k].e) := ce 3 (by omega)
        have HXr := Lib.hid (HS.out zs[k] (List.getElem_mem hk))
        generalize zs[k] = x at c0 c1 c2 c3 HXr
        have hkz : (k : Int) < (zs.length : Int) := by omega
        have hkz0 : (0 : Int) ≤ (k : Int) := by omega
        have G3 := Lib.hid g3
        have R3 := Lib.hid hrd3
        have hR3 := hrd3.lt
        have hRg : R < g := by omega
        clear g3 hrd3 hx ce
        go_wp2_with (at_builtin; refine wpList_append_own _ rfl _ _ 23 rfl w.heap.size 70 i0 _ 4 48 Try.underlying23 Hi.out Hz0.out Hz1.out Hz2.out rfl (by decide) _ zs.length (flatOf rowC zs) rfl (O3.out.alloc _) ⟨w3.heap.size, 0, none⟩ 1 1 [.string x.k, .string x.t, .int .i64 x.f, .int .i64 x.e] rfl rfl (newsFour (by simp) (by simp) (by simp) (by simp)) (by simp [Value.oneCell']) (by unfold maxLen; omega) (by omega) (by simp; omega) ?_; intro v1 w9 ho1 hg1 hnil; obtain ⟨A1, k1, rfl⟩ := owns_formN ho1; have O9 := Lib.hid ho1; have G1 := Lib.hid (grown_newR (grown_alloc G3.out _) (show (w3.alloc _).grownBy w9 (some g) from hg1) hgb); have R1 := Lib.hid (rd_grownR (rd_alloc R3.out _) (show (w3.alloc _).grownBy w9 (some g) from hg1) hRg); clear ho1 hg1 hnil)
        go_ret
        exact ⟨zs ++ [x], A1, k1, by rw [List.length_append, List.length_singleton]; rfl, by rw [List.length_append, List.length_singleton]; omega, short_snoc HS.out HXr.out, by rw [flatOf_append, flatOf_one, List.length_append, List.length_singleton]; exact O9.out, p1 + 1 + 1, by omega, by omega, R1.out, G1.out⟩
      · have e1' : (v == 1) = false := by simpa using e1
        clear e1
        go_wp2
        go_ret
        exact ⟨zs, some ⟨g, 0, none⟩, cap, rfl, by omega, HS.out, O3.out, p1 + 1 + 1, by omega, by omega, hrd3, g3⟩
  · have hn' : ¬ (0 : Int) < (zs.length : Int) := by omega
    have hd' : decide (0 < zs.length) = false := decide_eq_false (by omega)
    have hdd : decide ((0 : Int) < (zs.length : Int)) = false := decide_eq_false (by omega)
    have HN := Lib.hid hn
    clear hn
    go_wp2
    go_ret
    exact ⟨zs, A, cap, rfl, by omega, HS.out, O1.out, p1, by omega, by omega, hrd1, hgr1⟩
end Go.Proofs.Ytphinkcfmdnpfaa
