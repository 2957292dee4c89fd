/-
  Walks: what is drawn of a code: tables.
-/
import Derived.Test.YtkalanjgjeijbaaDrawR
import Derived.Test.YtkalanjgjeijbaaDelS
namespace Go.Proofs.Ytkalanjgjeijbaa
open Go.Shelf Go.RowKit Go.Lib Go.Sort

theorem grown_newR {w a b : World} {R g : Nat} (h : w.grownBy a (some R)) (k : a.grownBy b (some g)) (hg : w.heap.size ≤ g) : w.grownBy b (some R) :=
  ⟨k.os.trans h.os, k.tape.trans h.tape, k.output.trans h.output, Nat.le_trans h.size k.size, fun j hj hne => (k.block j (Nat.lt_of_lt_of_le hj h.size) (fun e => by injection e with e; omega)).trans (h.block j hj hne)⟩
theorem rd_grownR {a b : World} {R g : Nat} {zs : List Int} {p : Int} (h : Rd a R zs p) (k : a.grownBy b (some g)) (hg : R < g) : Rd b R zs p := by
  have hR := h.lt
  obtain ⟨A, cap, h0, h1, h2, h3, h4, h5⟩ := h
  refine ⟨A, cap, grown_cell k (by omega) h0, grown_cell k (by omega) h1, (World.frozen?_of_block (a := ⟨R, 1, none⟩) (k.block R hR (fun e => by injection e with e; omega))).trans h2, h3, h4, fun hn => ?_⟩
  obtain ⟨b, off, e, hlt, hc⟩ := h5 hn
  exact ⟨b, off, e, hlt, fun i hi => grown_cell k (by omega) (hc i hi)⟩

/-- A drawn table, and the reader further. -/
def DrawnRows (w : World) (R : Nat) (bs : List Int) (p c : Int) (N : Nat) (e : Ending) (w' : World) : Prop :=
  ∃ (zs : List RowV) (A : Option Addr) (cap : Nat), e = .returned (.slice A zs.length cap) ∧ zs.length ≤ N ∧ Short zs ∧ w'.ownsRow w.heap.size 57 4 (.slice A zs.length cap) zs.length (flatOf rowC zs) ∧
    ∃ p', p ≤ p' ∧ p' ≤ p + c ∧ Rd w' R bs p' ∧ w.grownBy w' (some R)
/-- Between two rounds. -/
def RelR (w : World) (R : Nat) (bs : List Int) (p : Int) (m : Nat) (v : Value) (wr : World) : Prop :=
  ∃ (zs : List RowV) (p' : Int), zs.length ≤ 24 ∧ Short zs ∧ wr.ownsRow w.heap.size 57 4 v zs.length (flatOf rowC zs) ∧ p ≤ p' ∧ p' + 5 * m ≤ p + 71 ∧ Rd wr R bs p' ∧ w.grownBy wr (some R)
theorem owns_notR {w : World} {base n R : Nat} {v : Value} {xs : List Value} {t : TypeId} {k : Nat} (h : w.ownsRow base t k v n xs) (hR : R < base) : v.ownBlock = none ∨ v.ownBlock ≠ some R := .inr fun e => by have := (h.lt R e).1; omega

set_option maxRecDepth 100000 in
set_option maxHeartbeats 4000000 in
theorem l20Rel_any (R : Nat) (bs : List Int) (p : Int) (w : World) (h : Rd w R bs p) (hp0 : 0 ≤ p) (hp1 : p ≤ 600000) :
    Calls Try.prog 75 #[.pointer (some ⟨R, 0, none⟩)] w (DrawnRows w R bs p 71 24) := by
  obtain ⟨i0, hi, hz0, hz1, hz2⟩ := info_parts Try.infoR57
  have Hi := Lib.hid hi
  have Hz0 := Lib.hid hz0
  have Hz1 := Lib.hid hz1
  have Hz2 := Lib.hid hz2
  clear hi hz0 hz1 hz2
  have hR := h.lt
  go_enter Try.func75, Try.ntmps75
  go_wp2_with fail
  refine (one_any R (w.heap.size + 1) 4 bs [0, 3, 8, 14] p _ (rd_alloc (rd_alloc h _) _) hp0 (by omega) (by simp) (by simp) (by omega) (by
    intro i hi
    match i, hi with
    | 0, _ => first | (simp; done) | (simp [go_sem]; done)
    | 1, _ => first | (simp; done) | (simp [go_sem]; done)
    | 2, _ => first | (simp; done) | (simp [go_sem]; done)
    | 3, _ => first | (simp; done) | (simp [go_sem]; done))).mono ?_
  rintro e w1 ⟨v, rfl, hv, hrd, hgr⟩
  obtain ⟨m, rfl, hm⟩ : ∃ m : Nat, v = (m : Int) ∧ m ≤ 14 := by
    simp at hv
    rcases hv with rfl | rfl | rfl | rfl
    · exact ⟨0, rfl, by omega⟩
    · exact ⟨3, rfl, by omega⟩
    · exact ⟨8, rfl, by omega⟩
    · exact ⟨14, rfl, by omega⟩
  have ho0 : (w.alloc (Obj.cells #[] 57)).ownsRow w.heap.size 57 4 (.slice (some ⟨w.heap.size, 0, none⟩) 0 0) 0 (flatOf rowC []) := by
    have := World.ownsRow_lit (base := w.heap.size) (e := 57) (size := 4) w #[] 0 (Nat.le_refl _) (by simp [maxLen]) (by simp)
    simpa [flatOf] using this
  have ho2 := ho0.alloc (Obj.cells #[Value.int IntKind.i64 0, Value.int IntKind.i64 3, Value.int IntKind.i64 8, Value.int IntKind.i64 14] 3)
  have ho1 := Lib.hid (ho2.kept hgr (owns_notR ho2 hR))
  have HG := Lib.hid (grown_trans (grown_alloc (grown_alloc (grown_refl w (some R)) _) _) hgr)
  have HR := Lib.hid hrd
  clear ho0 ho2 hgr hrd h hv
  go_wp2
  go_loopw [3, 4] (fun v i wr => ∃ m : Nat, m ≤ 14 ∧ i = .int .i64 m ∧ RelR w R bs p m v wr) (fun _ i _ => (intOf i).toNat)
  case atStart => exact ⟨m, hm, rfl, [], p + 1, by simp, (fun y hy => by cases hy), ho1.out, by omega, by omega, HR.out, HG.out⟩
  case round =>
    obtain ⟨j, hj, rfl, zs, p', hzl, hsh, hown, hpa, hpb, hrd, hgr⟩ := hrel
    obtain ⟨A5, c5, rfl⟩ := owns_formN hown
    have Hown := Lib.hid hown
    have HS := Lib.hid hsh
    clear hown hsh ho1 HG HR
    have hs5 := hgr.size
    by_cases hj0 : 0 < j
    · go_wp2_with fail
      refine (l20Row_any R bs p' _ hrd (by omega) (by omega)).mono ?_
      rintro e w2 ⟨r, rfl, hr, p2, hp2a, hp2b, hrd2, hgr2⟩
      have HRr := Lib.hid (short20 hr)
      have Own2 := Lib.hid (Hown.out.kept hgr2 (owns_notR Hown.out hR))
      have hgr3 := grown_trans hgr hgr2
      have hs3 := hgr3.size
      clear hgr hgr2 hrd Hown hr
      go_wp2_with fail
      refine (sRelMerge_any A5 c5 zs r _ (rowsA_own Own2.out rfl) (owns_nilcap Own2.out) (by omega) HS.out HRr.out).mono ?_
      have hml := mergeS_len zs r
      have HMS := Lib.hid (mergeS_short HS.out HRr.out)
      generalize mergeS zs r = q at *
      obtain ⟨q1, q2⟩ := q
      rintro e w3 ⟨A6, c6, rfl, ho6, hb6⟩
      have O6 := Lib.hid (owns_baseE ho6 hs3)
      have G6 := Lib.hid (grown_trans hgr3 (grown_of_below hb6))
      have R6 := Lib.hid (hrd2.kept hb6)
      clear ho6 hb6 hgr3 hrd2 Own2
      go_wp2
      go_roundw
      case rel => exact ⟨j - 1, by omega, by go_num, q1, p2, hml, HMS.out, O6.out, by omega, by omega, R6.out, G6.out⟩
      case measure => simp [intOf]; omega
    · have OL := Lib.hid (World.ownsRow_lit (base := w.heap.size) (e := 57) (size := 4) wr #[] 0 hs5 (by simp [maxLen]) (by simp))
      have SL := Lib.hid (src_below (rowsA_own Hown.out rfl) (owns_nilcap Hown.out) ((Below.refl wr.heap.size wr).alloc (Nat.le_refl _) (.cells #[] 57)))
      have hRr := hrd.lt
      go_wp2_with (at_builtin; refine wpList_append_src _ rfl _ _ 28 rfl w.heap.size 57 i0 _ 48 Try.underlying28 Hi.out Hz0.out Hz1.out Hz2.out rfl (.slice (some ⟨wr.heap.size, 0, none⟩) 0 0) 0 [] rfl OL.out _ zs rfl SL.out (by unfold maxLen; omega) (by omega) (by simp; omega) ?_; rw [List.nil_append, Nat.zero_add]; intro v1 w9 ho1 hg1; obtain ⟨A1, k1, rfl⟩ := owns_formN ho1; have O1 := Lib.hid ho1; have G1 := Lib.hid (grown_newR (grown_alloc hgr _) (show (wr.alloc (.cells #[] 57)).grownBy w9 (some wr.heap.size) from hg1) hs5); have R1 := Lib.hid (rd_grownR (rd_alloc hrd _) (show (wr.alloc (.cells #[] 57)).grownBy w9 (some wr.heap.size) from hg1) hRr); clear ho1 hg1)
      go_ret
      exact ⟨zs, A1, k1, rfl, hzl, HS.out, O1.out, p', by omega, by omega, R1.out, G1.out⟩

end Go.Proofs.Ytkalanjgjeijbaa
