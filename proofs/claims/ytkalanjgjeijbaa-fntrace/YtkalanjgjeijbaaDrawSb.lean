/-
  Walks: what is drawn of a code: stores that are ok.
-/
import Derived.Test.YtkalanjgjeijbaaStoAs
import Derived.Test.YtkalanjgjeijbaaDrawT
import Derived.Maps.AppendAt
import Derived.Test.YtkalanjgjeijbaaDelS
namespace Go.Proofs.Ytkalanjgjeijbaa
open Go.RowKit Go.Lib

/-- The slice is owned, and each of its tables lies apart from it. -/
def TabsO (w : World) (base : Nat) (v : Value) (tts : List (List RowV)) : Prop :=
  ∃ sl : List Value, sl.length = tts.length ∧ w.ownsRow base 28 1 v tts.length sl ∧ ∀ (i : Nat) (t : List RowV), tts[i]? = some t → ∃ (At : Option Addr) (ct : Nat), sl[i]? = some (Value.slice At t.length ct) ∧ RowsA w At t ∧ ∀ b off, At = some ⟨b, off, none⟩ → base ≤ b ∧ b < w.heap.size ∧ v.ownBlock ≠ some b
theorem TabsO.below {w w' : World} {base : Nat} {v : Value} {tts : List (List RowV)} (h : TabsO w base v tts) (hb : Below w.heap.size w w') : TabsO w' base v tts := by
  obtain ⟨sl, hl, ho, ht⟩ := h
  refine ⟨sl, hl, ownsKeep ho hb, fun i t e => ?_⟩
  obtain ⟨At, ct, h1, h2, h3⟩ := ht i t e
  exact ⟨At, ct, h1, h2.below hb, fun b off e => ⟨(h3 b off e).1, Nat.lt_of_lt_of_le (h3 b off e).2.1 hb.size, (h3 b off e).2.2⟩⟩
theorem TabsO.grown {w w' : World} {base g : Nat} {v : Value} {tts : List (List RowV)} (h : TabsO w base v tts) (hg : w.grownBy w' (some g)) (hne : g < base ∨ w.heap.size ≤ g) : TabsO w' base v tts := by
  obtain ⟨sl, hl, ho, ht⟩ := h
  refine ⟨sl, hl, ho.kept hg (.inr fun e => by have := ho.lt g e; omega), fun i t e => ?_⟩
  obtain ⟨At, ct, h1, h2, h3⟩ := ht i t e
  exact ⟨At, ct, h1, ElAt.grown h2 hg (fun b off e e' => by have := h3 b off e; injection e' with e'; omega), fun b off e => ⟨(h3 b off e).1, Nat.lt_of_lt_of_le (h3 b off e).2.1 hg.size, (h3 b off e).2.2⟩⟩
theorem TabsO.nil {w : World} {base : Nat} {v : Value} (h : w.ownsRow base 28 1 v 0 []) : TabsO w base v [] := ⟨[], rfl, h, fun i t e => by simp at e⟩
theorem TabsO.base {w : World} {base base' : Nat} {v : Value} {tts : List (List RowV)} (h : TabsO w base v tts) (hb : base' ≤ base) : TabsO w base' v tts := by
  obtain ⟨sl, hl, ho, ht⟩ := h
  refine ⟨sl, hl, ownsBase ho hb, fun i t e => ?_⟩
  obtain ⟨At, ct, h1, h2, h3⟩ := ht i t e
  exact ⟨At, ct, h1, h2, fun b off e => ⟨Nat.le_trans hb (h3 b off e).1, (h3 b off e).2⟩⟩
theorem TabsO.form {w : World} {base : Nat} {v : Value} {tts : List (List RowV)} (h : TabsO w base v tts) : ∃ A cap, v = .slice A tts.length cap := by
  obtain ⟨sl, _, ho, _⟩ := h
  rcases ho.2 with ⟨h0, h1⟩ | ⟨g, c, cur, e1, _⟩
  · exact ⟨none, 0, by rw [h0, h1]⟩
  · exact ⟨_, _, e1⟩
/-- What it holds. -/
theorem TabsO.tabs {w : World} {base cap : Nat} {A : Option Addr} {tts : List (List RowV)} (h : TabsO w base (.slice A tts.length cap) tts) : TabsA w A tts := fun i t ht => by
  obtain ⟨sl, hl, ho, hts⟩ := h
  obtain ⟨At, ct, h1, h2, _⟩ := hts i t ht
  have hi : i < tts.length := (List.getElem?_eq_some_iff.1 ht).1
  rcases ho.2 with ⟨h0, h0'⟩ | ⟨g, c, cur, e1, h2', h3, _⟩
  · omega
  · injection e1 with e1 e2 e3
    subst e1
    refine ⟨g, 0, At, ct, rfl, (Array.getElem?_eq_some_iff.1 h3).1, ?_, h2⟩
    rw [Nat.zero_add, ho.cellAt i (by omega), h1]
/-- Behind append: one table more. -/
theorem TabsO.snoc {w w' : World} {base ct : Nat} {v v' : Value} {tts : List (List RowV)} {t : List RowV} {At : Option Addr} {sl : List Value} (hl : sl.length = tts.length)
    (ht : ∀ (i : Nat) (t : List RowV), tts[i]? = some t → ∃ (At : Option Addr) (ct : Nat), sl[i]? = some (Value.slice At t.length ct) ∧ RowsA w At t ∧ ∀ b off, At = some ⟨b, off, none⟩ → base ≤ b ∧ b < w.heap.size ∧ v.ownBlock ≠ some b)
    (hown : w'.ownsRow base 28 1 v' (tts.length + 1) (sl ++ [Value.slice At t.length ct]))
    (hg : w.grownBy w' v.ownBlock) (hat : v'.ownBlock = v.ownBlock ∨ v'.ownBlock = some w.heap.size) (hr : RowsA w At t)
    (hb : ∀ b off, At = some ⟨b, off, none⟩ → base ≤ b ∧ b < w.heap.size ∧ v.ownBlock ≠ some b) : TabsO w' base v' (tts ++ [t]) := by
  have far : ∀ {A : Option Addr} {l : List RowV}, RowsA w A l → (∀ b off, A = some ⟨b, off, none⟩ → base ≤ b ∧ b < w.heap.size ∧ v.ownBlock ≠ some b) → RowsA w' A l ∧ ∀ b off, A = some ⟨b, off, none⟩ → base ≤ b ∧ b < w'.heap.size ∧ v'.ownBlock ≠ some b := fun hA hB =>
    ⟨ElAt.grown hA hg (fun b off e e' => (hB b off e).2.2 e'.symm), fun b off e => ⟨(hB b off e).1, Nat.lt_of_lt_of_le (hB b off e).2.1 hg.size, by
      rcases hat with h' | h'
      · rw [h']; exact (hB b off e).2.2
      · rw [h']; intro e'; injection e' with e'; have := (hB b off e).2.1; omega⟩⟩
  refine ⟨sl ++ [Value.slice At t.length ct], by rw [List.length_append, List.length_append, hl]; rfl, by rw [List.length_append]; exact hown, fun i u e => ?_⟩
  by_cases hi : i < tts.length
  · rw [List.getElem?_append_left hi] at e
    obtain ⟨A1, c1, h1, h2, h3⟩ := ht i u e
    have := far h2 h3
    exact ⟨A1, c1, by rw [List.getElem?_append_left (by omega)]; exact h1, this.1, this.2⟩
  · have hi2 : i = tts.length := by
      have := (List.getElem?_eq_some_iff.1 e).1
      rw [List.length_append, List.length_singleton] at this
      omega
    subst hi2
    rw [List.getElem?_append_right (Nat.le_refl _), Nat.sub_self] at e
    simp at e
    subst e
    have := far hr hb
    exact ⟨At, ct, by rw [List.getElem?_append_right (by omega), hl, Nat.sub_self]; rfl, this.1, this.2⟩
end Go.Proofs.Ytkalanjgjeijbaa
namespace Go.Proofs.Ytkalanjgjeijbaa
open Go.Shelf Go.RowKit Go.Lib Go.Sort

theorem Try.infoTT : (Try.prog.info? 28).map (fun i => (i.zero, i.size, i.bytes)) = some (some (.slice none 0 0), 1, 24) := by kernel_rfl
/-- Drawn tables, and the reader further. -/
def DrawnTabs (w : World) (R : Nat) (bs : List Int) (p c : Int) (N : Nat) (e : Ending) (w' : World) : Prop :=
  ∃ (tts : List (List RowV)) (A : Option Addr) (cap : Nat), e = .returned (.slice A tts.length cap) ∧ tts.length ≤ N ∧ (∀ t ∈ tts, t.length ≤ 24 ∧ Short t) ∧ TabsO w' w.heap.size (.slice A tts.length cap) tts ∧
    ∃ p', p ≤ p' ∧ p' ≤ p + c ∧ Rd w' R bs p' ∧ w.grownBy w' (some R)
/-- Between two rounds: what is there, and the table at hand apart from it. -/
def RelT (w : World) (R : Nat) (bs : List Int) (p : Int) (N : Nat) (c : Int) (v3 v4 : Value) (wr : World) : Prop :=
  ∃ (tts : List (List RowV)) (zs : List RowV) (p' : Int), tts.length ≤ N ∧ (∀ t ∈ tts, t.length ≤ 24 ∧ Short t) ∧ TabsO wr w.heap.size v3 tts ∧ zs.length ≤ 24 ∧ Short zs ∧
    wr.ownsRow w.heap.size 57 4 v4 zs.length (flatOf rowC zs) ∧ (v4.ownBlock = none ∨ v4.ownBlock ≠ v3.ownBlock) ∧ p ≤ p' ∧ p' ≤ p + c ∧ Rd wr R bs p' ∧ w.grownBy wr (some R)
theorem tabs_apart {w w' : World} {base base' n : Nat} {v v' : Value} {tts : List (List RowV)} {xs : List Value} (h : TabsO w base v tts) (hb : w.heap.size ≤ base') (h' : w'.ownsRow base' 57 4 v' n xs) : v'.ownBlock = none ∨ v'.ownBlock ≠ v.ownBlock := by
  obtain ⟨sl, _, ho, _⟩ := h
  exact apSym (ownsApart ho (Nat.le_refl _) hb h')
theorem tabs_far {w : World} {base n c : Nat} {A : Option Addr} {v : Value} {tts : List (List RowV)} {xs : List Value} {w' : World} (h : TabsO w base v tts) (hbb : base ≤ w.heap.size) (h' : w'.ownsRow w.heap.size 57 4 (.slice A n c) n xs) : ∀ b off, A = some ⟨b, off, none⟩ → base ≤ b ∧ b < w'.heap.size ∧ v.ownBlock ≠ some b := by
  rintro b off rfl
  obtain ⟨sl, _, ho, _⟩ := h
  have h1 : w.heap.size ≤ b ∧ b < w'.heap.size := by
    rcases h'.2 with ⟨h0, _⟩ | ⟨g, c', cur, e1, h2, h3, _⟩
    · cases h0
    · injection e1 with e1
      injection e1 with e1
      injection e1 with e1
      subst e1
      exact ⟨h2, (Array.getElem?_eq_some_iff.1 h3).1⟩
  exact ⟨by omega, h1.2, fun e => by have := (ho.lt b e).2; omega⟩

theorem rd_grown3 {a b : World} {R : Nat} {v : Value} {zs : List Int} {p : Int} (h : Rd a R zs p) (k : a.grownBy b v.ownBlock) (hg : ∀ g, v.ownBlock = some g → R < g) : Rd b R zs p := by
  cases e : v.ownBlock with
  | none =>
    rw [e] at k
    exact rd_grownR (g := R + 1) h ⟨k.os, k.tape, k.output, k.size, fun i hi _ => k.block i hi (by simp)⟩ (by omega)
  | some g => rw [e] at k; exact rd_grownR h k (hg g e)
theorem grown_new3 {w a b : World} {R : Nat} {v : Value} (h : w.grownBy a (some R)) (k : a.grownBy b v.ownBlock) (hg : ∀ g, v.ownBlock = some g → w.heap.size ≤ g) : w.grownBy b (some R) := by
  cases e : v.ownBlock with
  | none =>
    rw [e] at k
    exact ⟨k.os.trans h.os, k.tape.trans h.tape, k.output.trans h.output, Nat.le_trans h.size k.size, fun j hj hne => (k.block j (Nat.lt_of_lt_of_le hj h.size) (by simp)).trans (h.block j hj hne)⟩
  | some g => rw [e] at k; exact grown_newR h k (hg g e)
theorem news1T {w : World} {g : Nat} {f : Value} (h0 : w.cell? ⟨g, 0, none⟩ = some f) : ∀ j u, [f][j]? = some u → w.cell? ((⟨g, 0, none⟩ : Addr).add j) = some u := by
  intro j u h
  match j, h with
  | 0, h => simp at h; subst h; simpa [Addr.add] using h0
  | j + 1, h => simp at h

set_option maxRecDepth 100000 in
set_option maxHeartbeats 8000000 in
theorem l20Rels_any (R : Nat) (bs : List Int) (p : Int) (w : World) (h : Rd w R bs p) (hp0 : 0 ≤ p) (hp1 : p ≤ 600000) :
    Calls Try.prog 57 #[.pointer (some ⟨R, 0, none⟩)] w (DrawnTabs w R bs p 280 5) := by
  obtain ⟨i0, hi, hz0, hz1, hz2⟩ := info_parts Try.infoR57
  have Hi := Lib.hid hi
  have Hz0 := Lib.hid hz0
  have Hz1 := Lib.hid hz1
  have Hz2 := Lib.hid hz2
  clear hi hz0 hz1 hz2
  obtain ⟨j0, hi, hz0, hz1, hz2⟩ := info_parts Try.infoTT
  have Ji := Lib.hid hi
  have Jz0 := Lib.hid hz0
  have Jz1 := Lib.hid hz1
  have Jz2 := Lib.hid hz2
  clear hi hz0 hz1 hz2
  have hR := h.lt
  go_enter Try.func57, Try.ntmps57
  go_wp2_with fail
  have ho0 : (w.alloc (Obj.cells #[] 28)).ownsRow w.heap.size 28 1 (.slice (some ⟨w.heap.size, 0, none⟩) 0 0) 0 [] := by
    have := World.ownsRow_lit (base := w.heap.size) (e := 28) (size := 1) w #[] 0 (Nat.le_refl _) (by simp [maxLen]) (by simp)
    simpa using this
  have T0 := Lib.hid (TabsO.nil ho0)
  have g0 := grown_alloc (grown_refl w (some R)) (Obj.cells #[] 28)
  have hrd0 := rd_alloc h (Obj.cells #[] 28)
  have z0 : w.heap.size < (w.alloc (Obj.cells #[] 28)).heap.size := by simp
  generalize w.alloc (Obj.cells #[] 28) = W0 at *
  clear ho0 h
  refine (l20Rel_any R bs p W0 hrd0 hp0 hp1).mono ?_
  rintro e w1 ⟨zs, A4, c4, rfl, hzl, hsh, ho, p1, hp1a, hp1b, hrd1, hgr1⟩
  have O1 := Lib.hid ho
  have AP1 := Lib.hid (tabs_apart T0.out (Nat.le_refl _) ho)
  have T1 := Lib.hid (T0.out.grown hgr1 (.inl hR))
  have g1 := grown_trans g0 hgr1
  have hs1 := hgr1.size
  clear ho hgr1 hrd0 T0 g0
  go_wp2_with fail
  refine (pick_any R bs p1 6 _ hrd1 (by omega) (by omega) (by omega) (by omega)).mono ?_
  rintro e w2 ⟨v, rfl, v0, v1, hrd2, hgr2⟩
  obtain ⟨m, rfl⟩ : ∃ m : Nat, v = (m : Int) := ⟨v.toNat, by omega⟩
  have hm5 : m ≤ 5 := by omega
  have T2 := Lib.hid (T1.out.grown hgr2 (.inl hR))
  have O2 := Lib.hid (owns_baseE (base' := w.heap.size) (O1.out.kept hgr2 (owns_notR O1.out (by omega))) (by omega))
  have g2 := Lib.hid (grown_trans g1 hgr2)
  have R2 := Lib.hid hrd2
  have HSh := Lib.hid hsh
  clear hgr2 hrd2 hrd1 g1 T1 O1 v0 v1 hsh
  go_wp2
  go_loopw [3, 4, 5] (fun v3 v4 i wr => ∃ m : Nat, m ≤ 5 ∧ i = .int .i64 m ∧ RelT w R bs p (5 - m) (72 + 40 * (5 - (m : Int))) v3 v4 wr) (fun _ _ i _ => (intOf i).toNat)
  case atStart => exact ⟨m, hm5, rfl, [], zs, p1 + 1, Nat.zero_le _, (fun t ht => by cases ht), T2.out, hzl, HSh.out, O2.out, AP1.out, by omega, by omega, R2.out, g2.out⟩
  case round =>
    obtain ⟨j, hj, rfl, tts, xs, p', htl, hall, hT, hxl, hxs, hown, hap, hpa, hpb, hrd, hgr⟩ := hrel
    obtain ⟨A5, c5, rfl⟩ := owns_formN hown
    have HT := Lib.hid hT
    have Hown := Lib.hid hown
    have HS := Lib.hid hxs
    have HAll := Lib.hid hall
    have HAP := Lib.hid hap
    clear hown hxs hall hap hT T2 O2 g2 R2 HSh AP1 hzl hs1
    have hs5 := hgr.size
    by_cases hj0 : 0 < j
    · have OL := Lib.hid (World.ownsRow_lit (base := wr.heap.size) (e := 57) (size := 4) wr #[] 0 (Nat.le_refl _) (by simp [maxLen]) (by simp))
      have SL := Lib.hid (src_below (rowsA_own Hown.out rfl) (owns_nilcap Hown.out) ((Below.refl wr.heap.size wr).alloc (Nat.le_refl _) (.cells #[] 57)))
      go_wp2_with (first
        | (at_builtin; refine wpList_append_src _ rfl _ _ 28 rfl wr.heap.size 57 i0 _ 48 Try.underlying28 Hi.out Hz0.out Hz1.out Hz2.out rfl (.slice (some ⟨wr.heap.size, 0, none⟩) 0 0) 0 [] rfl OL.out _ xs rfl SL.out (by unfold maxLen; omega) (by omega) (by simp) ?_; rw [List.nil_append, Nat.zero_add]; intro v1 w9 ho1 hg1; obtain ⟨A1, k1, rfl⟩ := owns_formN ho1; have O1 := Lib.hid ho1; have G9 := Lib.hid (grown_trans (grown_alloc (grown_refl wr (some wr.heap.size)) (.cells #[] 57)) (show (wr.alloc (.cells #[] 57)).grownBy w9 (some wr.heap.size) from hg1)); have T9 := Lib.hid ((HT.out.grown G9.out (.inr (Nat.le_refl _))).below ((Below.refl _ _).alloc (Nat.le_refl _) (.cells #[.slice A1 xs.length k1] 28))); obtain ⟨sl, hsl, hso, hst⟩ := T9.out; have HSL := Lib.hid hsl; have HSO := Lib.hid hso; have HST := Lib.hid hst; clear hsl hso hst T9; have Own9 := Lib.hid (Hown.out.kept G9.out (.inr (fun e => by have := (Hown.out.lt _ e).2; omega))); have R9 := Lib.hid (rd_grownR hrd G9.out (by have := hrd.lt; omega)); have F9 := Lib.hid (tabs_far HT.out hs5 ho1); have H9 := Lib.hid (grown_newR hgr G9.out hs5); have hs9 : w.heap.size ≤ w9.heap.size := (grown_newR hgr G9.out hs5).size; have RA9 := Lib.hid (rowsA_own ho1 rfl); clear ho1 hg1 OL SL)
        | (at_builtin; refine wpList_append_own_at _ rfl _ _ 91 rfl w.heap.size 28 j0 _ 1 24 Try.underlying91 Ji.out Jz0.out Jz1.out Jz2.out rfl (by decide) u3 tts.length sl rfl HSO.out ⟨w9.heap.size, 0, none⟩ 1 1 [.slice A1 xs.length k1] rfl rfl (news1T (by simp)) (by simp [Value.oneCell']) (by unfold maxLen; omega) (by omega) (by simp; omega) ?_; intro v' w8 hown' hg8 hnil hat; have H8 := Lib.hid hown'; have G8 := Lib.hid hg8; have AT8 := Lib.hid hat; clear hown' hg8 hnil hat))
      have hlt10 : w9.heap.size < (w9.alloc (Obj.cells #[Value.slice A1 xs.length k1] 28)).heap.size := by simp
      have B10 := (Below.refl w9.heap.size w9).alloc (Nat.le_refl _) (.cells #[.slice A1 xs.length k1] 28)
      have T8 := Lib.hid (TabsO.snoc HSL.out HST.out H8.out G8.out AT8.out (RA9.out.below B10) (fun b off e => ⟨(F9.out b off e).1, by have := (F9.out b off e).2.1; omega, (F9.out b off e).2.2⟩))
      have Own8 := Lib.hid ((Own9.out.alloc _).kept G8.out HAP.out)
      have AP8 := Lib.hid (show (Value.slice A5 xs.length c5).ownBlock = none ∨ (Value.slice A5 xs.length c5).ownBlock ≠ v'.ownBlock from by
        rcases AT8.out with e | e
        · rw [e]; exact HAP.out
        · rw [e]; exact .inr (fun e' => by have := (Own9.out.lt _ e').2; omega))
      have hlt3 : ∀ k, u3.ownBlock = some k → w.heap.size ≤ k := fun k e => (HSO.out.lt k e).1
      have R8 := Lib.hid (rd_grown3 (rd_alloc R9.out (.cells #[.slice A1 xs.length k1] 28)) G8.out (fun k e => by have := hlt3 k e; omega))
      have W8 := Lib.hid (grown_new3 (grown_alloc H9.out (.cells #[.slice A1 xs.length k1] 28)) G8.out hlt3)
      have AL8 := Lib.hid (show ∀ t ∈ tts ++ [xs], t.length ≤ 24 ∧ Short t from fun t ht => by
        rcases List.mem_append.1 ht with ht | ht
        · exact HAll.out t ht
        · rw [List.mem_singleton.1 ht]; exact ⟨hxl, HS.out⟩)
      have hs8 : w.heap.size ≤ w8.heap.size := W8.out.size
      have htl8 : (tts ++ [xs]).length ≤ 5 - j + 1 := by rw [List.length_append, List.length_singleton]; omega
      clear HT Hown HAll HAP O1 G9 R9 F9 H9 RA9 HSL HSO HST H8 G8 AT8 Own9 hlt3 B10 hlt10 hrd hgr hs9
      generalize tts ++ [xs] = tts8 at *
      refine (pick_any R bs p' 3 _ R8.out (by omega) (by omega) (by omega) (by omega)).mono ?_
      rintro e w7 ⟨v, rfl, v0, v1, hrd7, hgr7⟩
      obtain ⟨n, rfl⟩ : ∃ n : Nat, v = (n : Int) := ⟨v.toNat, by omega⟩
      have hn2 : n ≤ 2 := by omega
      have T7 := Lib.hid (T8.out.grown hgr7 (.inl hR))
      have Own7 := Lib.hid (Own8.out.kept hgr7 (owns_notR Own8.out hR))
      have W7 := Lib.hid (grown_trans W8.out hgr7)
      have R7 := Lib.hid hrd7
      clear hrd7 hgr7 T8 Own8 W8 R8 v0 v1
      go_wp2
      go_loopw [4, 6] (fun v4 i wq => ∃ k : Nat, k ≤ n ∧ i = .int .i64 k ∧ ∃ (ys : List RowV) (q : Int), TabsO wq w.heap.size v' tts8 ∧ ys.length ≤ 24 ∧ Short ys ∧ wq.ownsRow w.heap.size 57 4 v4 ys.length (flatOf rowC ys) ∧ (v4.ownBlock = none ∨ v4.ownBlock ≠ v'.ownBlock) ∧ p ≤ q ∧ q + 5 * (k : Int) ≤ p' + 11 ∧ Rd wq R bs q ∧ w.grownBy wq (some R)) (fun _ i _ => (intOf i).toNat)
      case atStart => exact ⟨n, Nat.le_refl _, rfl, xs, p' + 1, T7.out, hxl, HS.out, Own7.out, AP8.out, by omega, by omega, R7.out, W7.out⟩
      case round =>
        obtain ⟨k, hk, rfl, ys, q, hT, hyl, hys, hown, hap, hqa, hqb, hrd, hgr⟩ := hrel
        obtain ⟨A6, c6, rfl⟩ := owns_formN hown
        have HT := Lib.hid hT
        have Hown := Lib.hid hown
        have HYS := Lib.hid hys
        have HAP := Lib.hid hap
        clear hown hys hap hT T7 Own7 W7 R7 AP8
        have hs6 := hgr.size
        by_cases hk0 : 0 < k
        · go_wp2_with fail
          refine (l20Row_any R bs q _ hrd (by omega) (by omega)).mono ?_
          rintro e w2 ⟨r, rfl, hr, p2, hp2a, hp2b, hrd2, hgr2⟩
          have HRr := Lib.hid (short20 hr)
          have Own2 := Lib.hid (Hown.out.kept hgr2 (owns_notR Hown.out hR))
          have TT2 := Lib.hid (HT.out.grown hgr2 (.inl hR))
          have hgr3 := grown_trans hgr hgr2
          have hs3 := hgr3.size
          clear hgr hgr2 hrd Hown hr HT
          go_wp2_with fail
          refine (sRelMerge_any A6 c6 ys r _ (rowsA_own Own2.out rfl) (owns_nilcap Own2.out) (by omega) HYS.out HRr.out).mono ?_
          have hml := mergeS_len ys r
          have HMS := Lib.hid (mergeS_short HYS.out HRr.out)
          generalize mergeS ys r = qq at *
          obtain ⟨q1, q2⟩ := qq
          rintro e w3 ⟨A7, c7, rfl, ho6, hb6⟩
          have O6 := Lib.hid (owns_baseE ho6 hs3)
          have AP6 := Lib.hid (tabs_apart TT2.out (Nat.le_refl _) ho6)
          have T6 := Lib.hid (TT2.out.below hb6)
          have G6 := Lib.hid (grown_trans hgr3 (grown_of_below hb6))
          have R6 := Lib.hid (hrd2.kept hb6)
          clear ho6 hb6 hgr3 hrd2 Own2 TT2
          go_wp2
          go_roundw
          case rel => exact ⟨k - 1, by omega, by go_num, q1, p2, T6.out, hml, HMS.out, O6.out, AP6.out, by omega, by omega, R6.out, G6.out⟩
          case measure => simp [intOf]; omega
        · obtain rfl : k = 0 := by omega
          go_wp2_with fail
          refine (pick_any R bs q 3 _ hrd (by omega) (by omega) (by omega) (by omega)).mono ?_
          rintro e w2 ⟨v, rfl, v0, v1, hrd2, hgr2⟩
          have Own2 := Lib.hid (Hown.out.kept hgr2 (owns_notR Hown.out hR))
          have TT2 := Lib.hid (HT.out.grown hgr2 (.inl hR))
          have hgr3 := Lib.hid (grown_trans hgr hgr2)
          have hs3 := hgr3.out.size
          have R3 := Lib.hid hrd2
          clear hgr hgr2 hrd Hown HT hrd2
          by_cases hv : v = 0
          · subst hv
            go_wp2_with fail
            refine (l20Key_any R bs (q + 1) _ R3.out (by omega) (by omega)).mono ?_
            rintro e w4 ⟨key, rfl, hkey, hrd4, hgr4⟩
            have Own4 := Lib.hid (Own2.out.kept hgr4 (owns_notR Own2.out hR))
            have TT4 := Lib.hid (TT2.out.grown hgr4 (.inl hR))
            have g4 := Lib.hid (grown_trans hgr3.out hgr4)
            clear hgr4 Own2 TT2 R3 hgr3
            go_wp2_with fail
            refine (l20Span_any R bs (q + 1 + 1) _ hrd4 (by omega) (by omega)).mono ?_
            rintro e w5 ⟨a, b, rfl, hab, p5, hp5a, hp5b, hrd5, hgr5⟩
            have Own5 := Lib.hid (Own4.out.kept hgr5 (owns_notR Own4.out hR))
            have TT5 := Lib.hid (TT4.out.grown hgr5 (.inl hR))
            have g5 := grown_trans g4.out hgr5
            have hs5' := g5.size
            clear hgr5 Own4 TT4 g4 hrd4 hab
            go_wp2_with fail
            refine (sRelDelete_any A6 c6 ys key a b _ (rowsA_own Own5.out rfl) (owns_nilcap Own5.out) (by omega) HYS.out (by unfold maxLen; omega)).mono ?_
            have hml := deleteS_len ys key a b
            have HMS := Lib.hid (deleteS_short (key := key) (a := a) (b := b) HYS.out)
            generalize deleteS ys key a b = qq at *
            obtain ⟨q1, q2⟩ := qq
            rintro e w6 ⟨A7, c7, rfl, ho6, hb6⟩
            have O6 := Lib.hid (owns_baseE ho6 hs5')
            have AP6 := Lib.hid (tabs_apart TT5.out (Nat.le_refl _) ho6)
            have T6 := Lib.hid (TT5.out.below hb6)
            have G6 := Lib.hid (grown_trans g5 (grown_of_below hb6))
            have R6 := Lib.hid (hrd5.kept hb6)
            clear ho6 hb6 g5 hrd5 Own5 TT5
            go_wp2
            go_roundw
            case rel => exact ⟨j - 1, by omega, by go_num, tts8, q1, p5, by omega, AL8.out, T6.out, hml, HMS.out, O6.out, AP6.out, by omega, by omega, R6.out, G6.out⟩
            case measure => simp [intOf]; omega
          · go_wp2
            go_roundw
            case rel => exact ⟨j - 1, by omega, by go_num, tts8, ys, q + 1, by omega, AL8.out, TT2.out, hyl, HYS.out, Own2.out, HAP.out, by omega, by omega, R3.out, hgr3.out⟩
            case measure => simp [intOf]; omega
    · obtain rfl : j = 0 := by omega
      obtain ⟨A', c', rfl⟩ := HT.out.form
      go_wp2
      go_ret
      exact ⟨tts, A', c', rfl, by omega, HAll.out, HT.out, p', by omega, by omega, hrd, hgr⟩
end Go.Proofs.Ytkalanjgjeijbaa
namespace Go.Proofs.Ytkalanjgjeijbaa
open Go.Shelf Go.RowKit Go.Lib Go.Sort

theorem all_ok : ∀ (tts : List (List RowV)) (now : Int) (zs : List VerV), storeB zs now = true → storeB (allFrom now zs tts).2.1 (allFrom now zs tts).1 = true
  | [], _, _, h => h
  | t :: ts, now, zs, h => by
    unfold allFrom
    split
    · rename_i hg
      exact all_ok ts _ _ (set_ok h hg)
    · exact none_ok
/-- A drawn store that is ok, and the reader further. -/
def DrawnSt (w : World) (R : Nat) (bs : List Int) (p c : Int) (e : Ending) (w' : World) : Prop :=
  ∃ (zs : List VerV) (now : Int) (A : Option Addr) (cap : Nat), e = .returned (.agg #[.int .i64 now, .slice A zs.length cap]) ∧ storeB zs now = true ∧ w'.ownsRow w.heap.size 62 6 (.slice A zs.length cap) zs.length (flatOf verC zs) ∧
    ∃ p', p ≤ p' ∧ p' ≤ p + c ∧ Rd w' R bs p' ∧ w.grownBy w' (some R)

set_option maxRecDepth 100000 in
set_option maxHeartbeats 4000000 in
theorem l20Store_any (R : Nat) (bs : List Int) (p : Int) (w : World) (h : Rd w R bs p) (hp0 : 0 ≤ p) (hp1 : p ≤ 600000) :
    Calls Try.prog 37 #[.pointer (some ⟨R, 0, none⟩)] w (DrawnSt w R bs p 280) := by
  have hR := h.lt
  go_enter Try.func37, Try.ntmps37
  go_wp2_with fail
  have hrd0 := rd_alloc h (.cells #[.int .i64 0, .slice none 0 0] 25)
  have g0 := grown_alloc (grown_refl w (some R)) (.cells #[.int .i64 0, .slice none 0 0] 25)
  generalize hW : w.alloc _ = W0 at *
  have r0 : W0.cell? ⟨w.heap.size, 0, none⟩ = some (.int .i64 0) := by rw [← hW]; simp [go_sem]
  have r1 : W0.cell? ⟨w.heap.size, 1, none⟩ = some (.slice none 0 0) := by rw [← hW]; simp [go_sem]
  have rf : ∀ o, W0.frozen? ⟨w.heap.size, o, none⟩ = false := fun o => by rw [← hW]; simp [go_sem]
  have z0 : w.heap.size < W0.heap.size := by rw [← hW]; simp
  have hne : w.heap.size ≠ R := by omega
  clear hW h
  refine (l20Rels_any R bs p W0 hrd0 hp0 hp1).mono ?_
  rintro e w1 ⟨tts, A1, c1, rfl, htl, hall, hT, p1, hp1a, hp1b, hrd1, hgr1⟩
  replace r0 := grown_cell hgr1 hne r0
  replace r1 := grown_cell hgr1 hne r1
  replace rf : ∀ o, w1.frozen? ⟨w.heap.size, o, none⟩ = false := fun o => ((gcell hgr1).2 _ o z0 hne).trans (rf o)
  have g1 := grown_trans g0 hgr1
  have z1 : w.heap.size < w1.heap.size := Nat.lt_of_lt_of_le z0 hgr1.size
  clear hgr1 hrd0 g0 z0
  go_wp2_with fail
  refine (sStoreAll_any A1 c1 tts w1 hT.tabs (by omega) (fun t ht => ⟨by have := (hall t ht).1; omega, (hall t ht).2⟩)).mono ?_
  have hsb := all_ok tts 0 [] none_ok
  generalize allFrom 0 [] tts = q at *
  obtain ⟨now, zs, ok⟩ := q
  rintro e w2 ⟨A2, c2, rfl, ho, hb⟩
  have HSB := Lib.hid (show storeB zs now = true from hsb)
  have O2 := Lib.hid (show w2.ownsRow w1.heap.size 62 6 (.slice A2 zs.length c2) zs.length (flatOf verC zs) from ho)
  replace r0 := cellBelow hb z1 r0
  replace r1 := cellBelow hb z1 r1
  replace rf : ∀ o, w2.frozen? ⟨w.heap.size, o, none⟩ = false := fun o => ((bcell hb).2 _ o z1).trans (rf o)
  have R2 := Lib.hid (hrd1.kept hb)
  have G2 := Lib.hid (grown_trans g1 (grown_of_below hb))
  have z2 : w.heap.size < w2.heap.size := Nat.lt_of_lt_of_le z1 hb.size
  have hzl : zs.length ≤ 120 := versB_len (storeB_iff.1 HSB.out).2.1
  clear hsb ho hb hrd1 g1 hT hall htl z1
  go_wp2_with fail
  have V2 := el_of_owns verC_len O2.out
  have hb0 : Below w2.heap.size w2 (w2.alloc (.cells #[.int .i64 now, .slice A2 zs.length c2] 25)) := (Below.refl _ _).alloc (Nat.le_refl _) _
  refine (l5Copy_any A2 c2 zs now _ (ElAt.below V2 hb0) (owns_nilcap O2.out) (by omega)).mono ?_
  rintro e w3 ⟨A3, c3, rfl, ho3, hb3⟩
  have hb4 : Below w2.heap.size w2 w3 := hb0.trans (hb3.mono hb0.size)
  replace r0 := cellBelow hb4 z2 r0
  replace r1 := cellBelow hb4 z2 r1
  replace rf : ∀ o, w3.frozen? ⟨w.heap.size, o, none⟩ = false := fun o => ((bcell hb4).2 _ o z2).trans (rf o)
  have O3 := Lib.hid (ownsBase (base' := w.heap.size + 1) ho3 (by simp; omega))
  have R3 := Lib.hid (R2.out.kept hb4)
  have G3 := Lib.hid (grown_trans G2.out (grown_of_below hb4))
  clear ho3 hb3 hb4 hb0 V2 O2 R2 G2
  go_wp2
  refine bodyPost_ret (v := .agg #[.int .i64 now, .slice A3 zs.length c3]) (by simp [results, Try.results37, go_sem, r0, r1]) rfl ?_
  refine ⟨zs, now, A3, c3, rfl, HSB.out, ownsBase (base := w.heap.size + 1) (owns_set_farV (owns_set_farV O3.out (by omega)) (by omega)) (by omega), p1, by omega, by omega, rd_set (rd_set R3.out hR _) hR _, grown_set_new (grown_set_new G3.out (Nat.le_refl _) _) (Nat.le_refl _) _⟩
end Go.Proofs.Ytkalanjgjeijbaa
