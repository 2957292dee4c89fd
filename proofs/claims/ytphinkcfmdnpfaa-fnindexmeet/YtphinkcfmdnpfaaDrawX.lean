/-
  Walks: what is drawn of a code: a tree, a span or a point beside it.
-/
import Derived.Test.YtphinkcfmdnpfaaTreB
import Derived.Test.YtphinkcfmdnpfaaIdxF
import Derived.Test.YtphinkcfmdnpfaaDrawT
namespace Go.Proofs.Ytphinkcfmdnpfaa
open Go.Shelf Go.RowKit Go.Lib

/-- A drawn list of nodes, and the reader further. -/
def DrawnNods (w : World) (R : Nat) (bs : List Int) (p c : Int) (e : Ending) (w' : World) : Prop :=
  ∃ (zs : List NodV) (A : Option Addr) (cap : Nat), e = .returned (.slice A zs.length cap) ∧ zs.length ≤ 24 ∧ ShortN zs ∧ w'.ownsRow w.heap.size 72 6 (.slice A zs.length cap) zs.length (flatOf nodC zs) ∧
    ∃ p', p ≤ p' ∧ p' ≤ p + c ∧ Rd w' R bs p' ∧ w.grownBy w' (some R)
theorem indexL_shortS {t : List RowV} (h : Short t) : ShortN (indexL t) := by
  cases ho : relOk t with
  | true =>
    intro x hx
    exact h _ ((index_perm ho).subset (List.mem_map.2 ⟨x, hx, rfl⟩))
  | false =>
    have e : indexL t = [] := if_neg (by rw [ho]; simp)
    rw [e]
    intro x hx
    cases hx
theorem shortN_set {zs : List NodV} {x : NodV} {k : Nat} (h : ShortN zs) (hx : x.r.k.size ≤ maxLen ∧ x.r.t.size ≤ maxLen) : ShortN (zs.set k x) := fun y hy => by
  rcases List.mem_or_eq_of_mem_set hy with h' | rfl
  · exact h y h'
  · exact hx
theorem nod_cell {w : World} {base g cap : Nat} {zs : List NodV} {k : Nat} (h : w.ownsRow base 72 6 (.slice (some ⟨g, 0, none⟩) zs.length cap) zs.length (flatOf nodC zs)) (hk : k < zs.length) (j : Nat) (hj : j < 6) : w.cell? ⟨g, k * 6 + j, none⟩ = (nodC zs[k])[j]? := by
  have := h.cellAt (k * 6 + j) (by omega)
  rw [flatOf_get nodC_len zs k _ j (List.getElem?_eq_getElem hk) hj] at this
  exact this
theorem flat_atN {zs : List NodV} {k : Nat} (hk : k < zs.length) (j : Nat) (hj : j < 6) : (flatOf nodC zs)[k * 6 + j]? = (nodC zs[k])[j]? := flatOf_get nodC_len zs k _ j (List.getElem?_eq_getElem hk) hj
theorem set_sameN {l : List Value} {i : Nat} {v : Value} (h : l[i]? = some v) : l.set i v = l := by
  obtain ⟨hi, e⟩ := List.getElem?_eq_some_iff.1 h
  rw [← e]; exact List.set_getElem_self hi
theorem owns_last_set {w : World} {base g cap : Nat} {zs : List NodV} {k : Nat} (u : Int) (h : w.ownsRow base 72 6 (.slice (some ⟨g, 0, none⟩) zs.length cap) zs.length (flatOf nodC zs)) (hk : k < zs.length) :
    (w.setCell ⟨g, k * 6 + 5, none⟩ (.int .i64 u)).ownsRow base 72 6 (.slice (some ⟨g, 0, none⟩) zs.length cap) zs.length (flatOf nodC (zs.set k ⟨zs[k].r, zs[k].i, u⟩)) := by
  have s1 := (h.stored (k * 6 + 5) (.int .i64 u)).1
  have es := flatOf_set nodC_len (⟨zs[k].r, zs[k].i, u⟩ : NodV) zs k hk
  have es : ((((((flatOf nodC zs).set (k * 6) (.string zs[k].r.k)).set (k * 6 + 1) (.string zs[k].r.t)).set (k * 6 + 2) (.int .i64 zs[k].r.f)).set (k * 6 + 3) (.int .i64 zs[k].r.e)).set (k * 6 + 4) (.int .i64 zs[k].i)).set (k * 6 + 5) (.int .i64 u) = flatOf nodC (zs.set k ⟨zs[k].r, zs[k].i, u⟩) := es
  have e0 := flat_atN hk 0 (by omega)
  rw [set_sameN (i := k * 6) (v := .string zs[k].r.k) e0, set_sameN (v := .string zs[k].r.t) (flat_atN hk 1 (by omega)), set_sameN (v := .int .i64 zs[k].r.f) (flat_atN hk 2 (by omega)), set_sameN (v := .int .i64 zs[k].r.e) (flat_atN hk 3 (by omega)), set_sameN (v := .int .i64 zs[k].i) (flat_atN hk 4 (by omega))] at es
  rw [es] at s1
  exact s1
theorem owns_left_set {w : World} {base g cap : Nat} {zs : List NodV} {k : Nat} (u : Int) (h : w.ownsRow base 72 6 (.slice (some ⟨g, 0, none⟩) zs.length cap) zs.length (flatOf nodC zs)) (hk : k < zs.length) :
    (w.setCell ⟨g, k * 6 + 4, none⟩ (.int .i64 u)).ownsRow base 72 6 (.slice (some ⟨g, 0, none⟩) zs.length cap) zs.length (flatOf nodC (zs.set k ⟨zs[k].r, u, zs[k].o⟩)) := by
  have s1 := (h.stored (k * 6 + 4) (.int .i64 u)).1
  have es : ((((((flatOf nodC zs).set (k * 6) (.string zs[k].r.k)).set (k * 6 + 1) (.string zs[k].r.t)).set (k * 6 + 2) (.int .i64 zs[k].r.f)).set (k * 6 + 3) (.int .i64 zs[k].r.e)).set (k * 6 + 4) (.int .i64 u)).set (k * 6 + 5) (.int .i64 zs[k].o) = flatOf nodC (zs.set k ⟨zs[k].r, u, zs[k].o⟩) := flatOf_set nodC_len (⟨zs[k].r, u, zs[k].o⟩ : NodV) zs k hk
  have e0 := flat_atN hk 0 (by omega)
  rw [set_sameN (i := k * 6) (v := .string zs[k].r.k) e0, set_sameN (v := .string zs[k].r.t) (flat_atN hk 1 (by omega)), set_sameN (v := .int .i64 zs[k].r.f) (flat_atN hk 2 (by omega)), set_sameN (v := .int .i64 zs[k].r.e) (flat_atN hk 3 (by omega)), set_sameN (i := k * 6 + 5) (v := .int .i64 zs[k].o) (by rw [List.getElem?_set_ne (by omega)]; exact flat_atN hk 5 (by omega))] at es
  rw [es] at s1
  exact s1
theorem owns_row_setN {w : World} {base g cap : Nat} {zs : List NodV} {k : Nat} (r : RowV) (h : w.ownsRow base 72 6 (.slice (some ⟨g, 0, none⟩) zs.length cap) zs.length (flatOf nodC zs)) (hk : k < zs.length) :
    ((((w.setCell ⟨g, k * 6, none⟩ (.string r.k)).setCell ⟨g, k * 6 + 1, none⟩ (.string r.t)).setCell ⟨g, k * 6 + 2, none⟩ (.int .i64 r.f)).setCell ⟨g, k * 6 + 3, none⟩ (.int .i64 r.e)).ownsRow base 72 6 (.slice (some ⟨g, 0, none⟩) zs.length cap) zs.length (flatOf nodC (zs.set k ⟨r, zs[k].i, zs[k].o⟩)) := by
  have s1 := (h.stored (k * 6) (.string r.k)).1
  have s2 := (s1.stored (k * 6 + 1) (.string r.t)).1
  have s3 := (s2.stored (k * 6 + 2) (.int .i64 r.f)).1
  have s4 := (s3.stored (k * 6 + 3) (.int .i64 r.e)).1
  have es : ((((((flatOf nodC zs).set (k * 6) (.string r.k)).set (k * 6 + 1) (.string r.t)).set (k * 6 + 2) (.int .i64 r.f)).set (k * 6 + 3) (.int .i64 r.e)).set (k * 6 + 4) (.int .i64 zs[k].i)).set (k * 6 + 5) (.int .i64 zs[k].o) = flatOf nodC (zs.set k ⟨r, zs[k].i, zs[k].o⟩) := flatOf_set nodC_len (⟨r, zs[k].i, zs[k].o⟩ : NodV) zs k hk
  have e4 := flat_atN hk 4 (by omega)
  have e5 := flat_atN hk 5 (by omega)
  rw [set_sameN (v := .int .i64 zs[k].i) (by
    rw [List.getElem?_set_ne (by omega), List.getElem?_set_ne (by omega), List.getElem?_set_ne (by omega), List.getElem?_set_ne (by omega)]; exact e4), set_sameN (v := .int .i64 zs[k].o) (by
    rw [List.getElem?_set_ne (by omega), List.getElem?_set_ne (by omega), List.getElem?_set_ne (by omega), List.getElem?_set_ne (by omega)]; exact e5)] at es
  rw [es] at s4
  exact s4

set_option maxRecDepth 100000 in
set_option maxHeartbeats 8000000 in
theorem l20Index_any (R : Nat) (bs : List Int) (p : Int) (w : World) (h : Rd w R bs p) (hp0 : 0 ≤ p) (hp1 : p ≤ 500000) :
    Calls Try.prog 105 #[.pointer (some ⟨R, 0, none⟩)] w (DrawnNods w R bs p 100) := by
  have hR := h.lt
  go_enter Try.func105, Try.ntmps105
  go_wp2_with fail
  refine (l20Rel_any R bs p _ h hp0 (by omega)).mono ?_
  rintro e w0 ⟨ts, A0, cap0, rfl, htl, hsh, ho0, p1, hp1a, hp1b, hrd0, hgr0⟩
  have HTS := Lib.hid (indexL_shortS hsh)
  have hxl := indexL_len ts
  have HC := Lib.hid (sIndexOf_any A0 cap0 ts w0 (rowsA_own ho0 rfl) (by omega) hsh)
  obtain ⟨zs, hzs⟩ : ∃ zs, indexL ts = zs := ⟨_, rfl⟩
  rw [hzs] at HTS hxl HC
  clear h hsh ho0 hzs
  go_wp2_with fail
  refine HC.out.mono ?_
  rintro e w1 ⟨A, cap, rfl, ho, hb⟩
  have hs0 := hgr0.size
  have O1 := Lib.hid (ownsBase (base' := w.heap.size) ho hs0)
  have hrd1 := hrd0.kept hb
  have hgr1 := grown_trans hgr0 (belowGrown hb (some R))
  clear ho hb hrd0 hgr0 HC hs0
  by_cases hn : 0 < zs.length
  · obtain ⟨g, c, e0, hgb, hgl⟩ := ownsForm O1.out (fun e => by injection e with _ e; omega)
    injection e0 with e0 _ e2
    subst e0 e2
    have hi' : (0 : Int) < (zs.length : Int) := by omega
    have hRg : R < g := by omega
    go_wp2_with fail
    refine (pick_any R bs p1 _ _ hrd1 (by omega) (by omega) (by omega) (by omega)).mono ?_
    rintro e w2 ⟨v, rfl, v0, v1, hrd2, hgr2⟩
    have O2 := Lib.hid (O1.out.kept hgr2 (owns_notR O1.out hR))
    have G2 := Lib.hid (grown_trans hgr1 hgr2)
    have R2 := Lib.hid hrd2
    clear hgr1 hgr2 hrd1 hrd2 O1
    by_cases hv : v = 0
    · subst hv
      go_wp2_with fail
      refine (pick_any R bs (p1 + 1) _ _ R2.out (by omega) (by omega) (by omega) (by omega)).mono ?_
      rintro e w3 ⟨v, rfl, u0, u1, hrd3, hgr3⟩
      obtain ⟨k, rfl⟩ := Int.eq_ofNat_of_zero_le u0
      have hk : k < zs.length := by omega
      have O3 := Lib.hid (O2.out.kept hgr3 (owns_notR O2.out hR))
      have G3 := Lib.hid (grown_trans G2.out hgr3)
      have R3 := Lib.hid hrd3
      clear hgr3 hrd3 O2 G2 R2
      go_wp2_with fail
      refine (pick_any R bs (p1 + 1 + 1) _ _ R3.out (by omega) (by omega) (by omega) (by omega)).mono ?_
      rintro e w4 ⟨v, rfl, t0, t1, hrd4, hgr4⟩
      have O4 := Lib.hid (O3.out.kept hgr4 (owns_notR O3.out hR))
      have G4 := Lib.hid (grown_trans G3.out hgr4)
      have R4 := Lib.hid hrd4
      have hs4 := G4.out.size
      have hgw : g < w4.heap.size := (O4.out.lt g rfl).2
      clear hgr4 hrd4 O3 G3 R3
      have hkz : (k : Int) < (zs.length : Int) := by omega
      have hkz0 : (0 : Int) ≤ (k : Int) := by omega
      have HZ := Lib.hid (HTS.out zs[k] (List.getElem_mem hk))
      by_cases e0 : v = 0
      · subst e0
        have c5 : w4.cell? ⟨g, k * 6 + 5, none⟩ = some (.int .i64 zs[k].o) := nod_cell O4.out hk 5 (by omega)
        have fr : ∀ j, w4.frozen? ⟨g, j, none⟩ = false := fun j => by simpa using O4.out.frozenAt j
        have HS5 := Lib.hid (fun u => owns_last_set u O4.out hk)
        obtain ⟨x, hx⟩ : ∃ x, zs[k] = x := ⟨_, rfl⟩
        rw [hx] at c5 HZ HS5
        clear hx
        go_wp2
        go_ret
        refine ⟨zs.set k ⟨x.r, x.i, wrap64 (x.o + 1)⟩, some ⟨g, 0, none⟩, cap, by rw [List.length_set]; rfl, by rw [List.length_set]; exact hxl, shortN_set HTS.out HZ.out, by rw [List.length_set]; exact HS5.out _, p1 + 1 + 1 + 1, by omega, by omega, rd_set R4.out hRg _, grown_set_new G4.out hgb _⟩
      · have d0 : (v == 0) = false := by simpa using e0
        by_cases e1 : v = 1
        · subst e1
          have hx1 : w4.heap.size ≠ R := by omega
          have hrdA := rd_alloc R4.out (.cells #[.int .i64 (-1), .int .i64 0, .int .i64 9] 3)
          go_wp2_with fail
          refine (one_any R w4.heap.size 3 bs [-1, 0, 9] _ _ hrdA (by omega) (by omega) (by simp) (by simp) hx1 (by
            intro i hi
            match i, hi with
            | 0, _ => first | (simp; done) | (simp [go_sem]; done)
            | 1, _ => first | (simp; done) | (simp [go_sem]; done)
            | 2, _ => first | (simp; done) | (simp [go_sem]; done))).mono ?_
          rintro e w5 ⟨m, rfl, hm5, hrd5, hgr5⟩
          have gA := grown_trans (grown_alloc (grown_refl w4 (some R)) (.cells #[.int .i64 (-1), .int .i64 0, .int .i64 9] 3)) hgr5
          have O5 := Lib.hid (O4.out.kept gA (owns_notR O4.out hR))
          have G5 := Lib.hid (grown_trans G4.out gA)
          have R5 := Lib.hid hrd5
          have c4 : w5.cell? ⟨g, k * 6 + 4, none⟩ = some (.int .i64 zs[k].i) := nod_cell O5.out hk 4 (by omega)
          have fr : ∀ j, w5.frozen? ⟨g, j, none⟩ = false := fun j => by simpa using O5.out.frozenAt j
          have HS5 := Lib.hid (owns_left_set m O5.out hk)
          obtain ⟨x, hx⟩ : ∃ x, zs[k] = x := ⟨_, rfl⟩
          rw [hx] at c4 HZ HS5
          clear hx gA hgr5 hrd5 hrdA hm5 O4 G4 R4 d0 e0
          go_wp2
          go_ret
          exact ⟨zs.set k ⟨x.r, m, x.o⟩, some ⟨g, 0, none⟩, cap, by rw [List.length_set]; rfl, by rw [List.length_set]; exact hxl, shortN_set HTS.out HZ.out, by rw [List.length_set]; exact HS5.out, p1 + 1 + 1 + 1 + 1, by omega, by omega, rd_set R5.out hRg _, grown_set_new G5.out hgb _⟩
        · have d1 : (v == 1) = false := by simpa using e1
          clear e0 e1
          go_wp2_with fail
          refine (l20AnyRow_any R bs (p1 + 1 + 1 + 1) _ R4.out (by omega) (by omega)).mono ?_
          rintro e w5 ⟨r, rfl, hr, p4, hp4a, hp4b, hrd5, hgr5⟩
          have HRr := Lib.hid (short20 hr)
          have O5 := Lib.hid (O4.out.kept hgr5 (owns_notR O4.out hR))
          have G5 := Lib.hid (grown_trans G4.out hgr5)
          have R5 := Lib.hid hrd5
          have fr : ∀ j, w5.frozen? ⟨g, j, none⟩ = false := fun j => by simpa using O5.out.frozenAt j
          have c0 : w5.cell? ⟨g, k * 6, none⟩ = some (.string zs[k].r.k) := nod_cell O5.out hk 0 (by omega)
          have c1 : w5.cell? ⟨g, k * 6 + 1, none⟩ = some (.string zs[k].r.t) := nod_cell O5.out hk 1 (by omega)
          have c2 : w5.cell? ⟨g, k * 6 + 2, none⟩ = some (.int .i64 zs[k].r.f) := nod_cell O5.out hk 2 (by omega)
          have c3 : w5.cell? ⟨g, k * 6 + 3, none⟩ = some (.int .i64 zs[k].r.e) := nod_cell O5.out hk 3 (by omega)
          have HS5 := Lib.hid (owns_row_setN r O5.out hk)
          obtain ⟨x, hx⟩ : ∃ x, zs[k] = x := ⟨_, rfl⟩
          rw [hx] at c0 c1 c2 c3 HS5
          clear hx hgr5 hrd5 hr O4 G4 R4 HZ
          go_wp2
          go_ret
          exact ⟨zs.set k ⟨r, x.i, x.o⟩, some ⟨g, 0, none⟩, cap, by rw [List.length_set]; rfl, by rw [List.length_set]; exact hxl, shortN_set HTS.out HRr.out, by rw [List.length_set]; exact HS5.out, p4, by omega, by omega, (by repeat (first | exact R5.out | refine rd_set ?_ hRg _)), (by repeat (first | exact G5.out | refine grown_set_new ?_ hgb _))⟩
    · have d0 : (v == 0) = false := by simpa using hv
      clear hv
      go_wp2
      go_ret
      exact ⟨zs, some ⟨g, 0, none⟩, cap, rfl, hxl, HTS.out, O2.out, p1 + 1, by omega, by omega, R2.out, G2.out⟩
  · have hn' : ¬ (0 : Int) < (zs.length : Int) := by omega
    have hd' : decide (0 < zs.length) = false := decide_eq_false (by omega)
    have HN := Lib.hid hn
    have R1 := Lib.hid hrd1
    have G1 := Lib.hid hgr1
    clear hn hrd1 hgr1
    go_wp2
    go_ret
    exact ⟨zs, A, cap, rfl, hxl, HTS.out, O1.out, p1, by omega, by omega, R1.out, G1.out⟩

theorem bytes_belowX {w w' : World} {B : Nat} {A : Option Addr} {zs : List Int} (h : Bytes w w.heap.size A zs) (hb : Below w.heap.size w w') (hB : w.heap.size ≤ B) : Bytes w' B A zs :=
  ⟨h.1, fun hn => by
    obtain ⟨b, off, e, hlt, hc⟩ := h.2 hn
    exact ⟨b, off, e, by omega, fun i hi => (hb.cell (p := ⟨b, off + i, none⟩) hlt).trans (hc i hi)⟩⟩
/-- A drawn tree and a span. -/
def DrawnXS (w : World) (e : Ending) (w' : World) : Prop :=
  ∃ (zs : List NodV) (A : Option Addr) (cap : Nat) (a b : Int), e = .returned (.tuple #[.slice A zs.length cap, .agg #[.int .i64 a, .int .i64 b]]) ∧ zs.length ≤ 24 ∧ ShortN zs ∧ w'.ownsRow w.heap.size 72 6 (.slice A zs.length cap) zs.length (flatOf nodC zs) ∧ Below w.heap.size w w'
/-- A drawn tree and a point. -/
def DrawnXP (w : World) (e : Ending) (w' : World) : Prop :=
  ∃ (zs : List NodV) (A : Option Addr) (cap : Nat) (c : Int), e = .returned (.tuple #[.slice A zs.length cap, .int .i64 c]) ∧ -1 ≤ c ∧ c ≤ 100 ∧ zs.length ≤ 24 ∧ ShortN zs ∧ w'.ownsRow w.heap.size 72 6 (.slice A zs.length cap) zs.length (flatOf nodC zs) ∧ Below w.heap.size w w'

set_option maxRecDepth 100000 in
set_option maxHeartbeats 4000000 in
theorem DrawIndexStab_any (A : Option Addr) (cap : Nat) (bs : List Int) (w : World) (h : Bytes w w.heap.size A bs) (hc : bs.length ≤ cap) (hm : cap ≤ maxLen) :
    Calls Try.prog 54 #[.slice A bs.length cap] w (DrawnXP w) := by
  go_enter Try.func54, Try.ntmps54
  go_wp2_with fail
  refine (l20Open_any A cap bs _ h hc hm).mono ?_
  rintro e w1 ⟨zs0, rfl, hrd1, hb1⟩
  have hl1 := hrd1.lt
  clear h
  go_wp2_with fail
  refine (l20Index_any _ zs0 0 _ hrd1 (by omega) (by omega)).mono ?_
  rintro e w2 ⟨zs, A2, c2, rfl, hll, hsh, hol, p', hpa, hpb, hrd2, hgr2⟩
  have hs1 := hb1.size
  have O2 := Lib.hid hol
  have HS := Lib.hid hsh
  have G2 := Lib.hid hgr2
  have hs2 := hgr2.size
  have hne : w2.heap.size ≠ w.heap.size := by omega
  have hrdA := rd_alloc hrd2 (.cells #[.int .i64 0, .int .i64 5, .int .i64 10, .int .i64 15, .int .i64 20, .int .i64 99, .int .i64 (-1), .int .i64 100] 3)
  clear hol hsh hrd1 hrd2 hgr2
  go_wp2_with fail
  refine (one_any w.heap.size w2.heap.size 8 zs0 [0, 5, 10, 15, 20, 99, -1, 100] p' _ hrdA (by omega) (by omega) (by simp) (by simp) hne (by
    intro i hi
    match i, hi with
    | 0, _ => first | (simp; done) | (simp [go_sem]; done)
    | 1, _ => first | (simp; done) | (simp [go_sem]; done)
    | 2, _ => first | (simp; done) | (simp [go_sem]; done)
    | 3, _ => first | (simp; done) | (simp [go_sem]; done)
    | 4, _ => first | (simp; done) | (simp [go_sem]; done)
    | 5, _ => first | (simp; done) | (simp [go_sem]; done)
    | 6, _ => first | (simp; done) | (simp [go_sem]; done)
    | 7, _ => first | (simp; done) | (simp [go_sem]; done))).mono ?_
  rintro e w3 ⟨c, rfl, hc3, hrd3, hgr3⟩
  have hcb : -1 ≤ c ∧ c ≤ 100 := by
    simp at hc3
    omega
  have gA := grown_trans (grown_alloc (grown_refl w2 (some w.heap.size)) (.cells #[.int .i64 0, .int .i64 5, .int .i64 10, .int .i64 15, .int .i64 20, .int .i64 99, .int .i64 (-1), .int .i64 100] 3)) hgr3
  have O3 := Lib.hid (owns_baseE (O2.out.kept gA (owns_notR O2.out (by omega))) hs1)
  have HB := Lib.hid (grown_below hb1 (grown_trans G2.out gA) (Nat.le_refl _))
  clear gA hgr3 hrd3 hrdA hc3 O2 G2 hb1
  go_wp2
  refine bodyPost_ret (v := .tuple #[.slice A2 zs.length c2, .int .i64 c]) (by simp [results, Try.results54, go_sem]) rfl ?_
  exact ⟨zs, A2, c2, c, rfl, hcb.1, hcb.2, hll, HS.out, O3.out, HB.out⟩

set_option maxRecDepth 100000 in
set_option maxHeartbeats 4000000 in
theorem DrawIndexMeet_any (A : Option Addr) (cap : Nat) (bs : List Int) (w : World) (h : Bytes w w.heap.size A bs) (hc : bs.length ≤ cap) (hm : cap ≤ maxLen) :
    Calls Try.prog 52 #[.slice A bs.length cap] w (DrawnXS w) := by
  have hb0 : Below w.heap.size w (w.alloc (Obj.cells #[Value.int IntKind.i64 0, Value.int IntKind.i64 0] 29)) := (Below.refl _ _).alloc (Nat.le_refl _) _
  go_enter Try.func52, Try.ntmps52
  go_wp2_with fail
  refine (l20Open_any A cap bs _ (bytes_belowX h hb0 (by simp)) hc hm).mono ?_
  rintro e w1 ⟨zs0, rfl, hrd1, hb1⟩
  simp only [World.size_alloc] at hrd1 hb1
  have r0 : w1.cell? ⟨w.heap.size, 0, none⟩ = some (.int .i64 0) := cell_below hb1 (by omega) (by simp)
  have r1 : w1.cell? ⟨w.heap.size, 1, none⟩ = some (.int .i64 0) := cell_below hb1 (by omega) (by simp)
  have s0 : w1.frozen? ⟨w.heap.size, 0, none⟩ = false := (hb1.frozen (p := ⟨w.heap.size, 0, none⟩) (by show w.heap.size < _; omega)).trans (by simp)
  have s1 : w1.frozen? ⟨w.heap.size, 1, none⟩ = false := (hb1.frozen (p := ⟨w.heap.size, 1, none⟩) (by show w.heap.size < _; omega)).trans (by simp)
  have hB1 : Below w.heap.size w w1 := hb0.trans (hb1.mono (by omega))
  have hl1 := hrd1.lt
  have n0 : w.heap.size ≠ w.heap.size + 1 := by omega
  clear hb0 hb1 h
  go_wp2_with fail
  refine (l20Index_any _ zs0 0 _ hrd1 (by omega) (by omega)).mono ?_
  rintro e w2 ⟨zs, A2, c2, rfl, hll, hsh, hol, p', hpa, hpb, hrd2, hgr2⟩
  have Hol := Lib.hid hol
  have HS := Lib.hid hsh
  have q0 := grown_cell hgr2 n0 r0
  have q1 := grown_cell hgr2 n0 r1
  have t0 := ((gcell hgr2).2 _ 0 (by omega) n0).trans s0
  have t1 := ((gcell hgr2).2 _ 1 (by omega) n0).trans s1
  have hz2 := hgr2.size
  clear hol hsh r0 r1 s0 s1
  go_wp2_with fail
  refine (l20AnySpan_any _ zs0 p' _ hrd2 (by omega) (by omega)).mono ?_
  rintro e w3 ⟨a, b, rfl, -, p3, hp3a, hp3b, hrd3, hgr3⟩
  have Hol3 := Lib.hid (Hol.out.kept hgr3 (owns_notR Hol.out (by omega)))
  have HB := Lib.hid (grown_below hB1 (grown_trans hgr2 hgr3) (by omega))
  have u0 := grown_cell hgr3 n0 q0
  have u1 := grown_cell hgr3 n0 q1
  have v0 := ((gcell hgr3).2 _ 0 (by omega) n0).trans t0
  have v1 := ((gcell hgr3).2 _ 1 (by omega) n0).trans t1
  clear hgr2 hgr3 hrd1 hrd2 hrd3 Hol q0 q1 t0 t1 hB1
  go_wp2
  refine bodyPost_ret (v := .tuple #[.slice A2 zs.length c2, .agg #[.int .i64 a, .int .i64 b]]) (by simp [results, Try.results52, go_sem, u0, u1]) rfl ?_
  refine ⟨zs, A2, c2, a, b, rfl, hll, HS.out, ?_, by repeat (first | exact HB.out | refine Below.setCell ?_ (by simp) _)⟩
  exact owns_baseE (Hol3.out.kept (grown_trans (grown_set _) (grown_set _)) (owns_notR Hol3.out (by omega))) (by omega)
end Go.Proofs.Ytphinkcfmdnpfaa
