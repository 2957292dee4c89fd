/-
  Walks: what is drawn of a code: things to be done, some of them.
-/
import Derived.Test.YtmfpojminbkojaaDrawO
import Derived.Test.YtmfpojminbkojaaElI
namespace Go.Proofs.Ytmfpojminbkojaa
open Go.RowKit Go.Lib

/-- A thing to be done: its kind, its table, a row. -/
structure OpV where
  k : Int
  t : Int
  r : RowV
def opC (x : OpV) : List Value := opCells x.k x.t x.r
theorem opC_len (x : OpV) : (opC x).length = 6 := rfl
def OpsA (w : World) (A : Option Addr) (zs : List OpV) : Prop := ElAt opC 6 w A zs
theorem OpsA.below {w w' : World} {A : Option Addr} {l : List OpV} (h : OpsA w A l) (hb : Below w.heap.size w w') : OpsA w' A l := ElAt.below h hb
/-- As they are drawn. -/
def opB (x : OpV) : Prop := (x.r.k.size ≤ 20 ∧ x.r.t.size ≤ 20) ∧ ((1 ≤ x.k ∧ x.k ≤ 4) ∧ (0 ≤ x.t ∧ x.t ≤ 1) ∧ (0 ≤ x.r.f ∧ x.r.f ≤ 100 ∧ 0 ≤ x.r.e ∧ x.r.e ≤ 100))
def DrawnTx (w : World) (R : Nat) (bs : List Int) (p c : Int) (e : Ending) (w' : World) : Prop :=
  ∃ (zs : List OpV) (A : Option Addr) (cap : Nat), e = .returned (.slice A zs.length cap) ∧ zs.length ≤ 4 ∧ (∀ x ∈ zs, opB x) ∧ w'.ownsRow w.heap.size 119 6 (.slice A zs.length cap) zs.length (flatOf opC zs) ∧ ∃ p', p ≤ p' ∧ p' ≤ p + c ∧ Rd w' R bs p' ∧ w.grownBy w' (some R)

theorem grown_newY {w a b : World} {R g : Nat} (h : w.grownBy a (some R)) (k : a.grownBy b (some g)) (hg : w.heap.size ≤ g) : w.grownBy b (some R) :=
  ⟨k.os.trans h.os, k.tape.trans h.tape, k.output.trans h.output, Nat.le_trans h.size k.size, fun j hj hne => (k.block j (Nat.lt_of_lt_of_le hj h.size) (fun e => by injection e with e; omega)).trans (h.block j hj hne)⟩
theorem rd_grownY {a b : World} {R g : Nat} {zs : List Int} {p : Int} (h : Rd a R zs p) (k : a.grownBy b (some g)) (hg : R < g) : Rd b R zs p := by
  have hR := h.lt
  obtain ⟨A, cap, h0, h1, h2, h3, h4, h5⟩ := h
  refine ⟨A, cap, grown_cell k (by omega) h0, grown_cell k (by omega) h1, (World.frozen?_of_block (a := ⟨R, 1, none⟩) (k.block R hR (fun e => by injection e with e; omega))).trans h2, h3, h4, fun hn => ?_⟩
  obtain ⟨b, off, e, hlt, hc⟩ := h5 hn
  exact ⟨b, off, e, hlt, fun i hi => grown_cell k (by omega) (hc i hi)⟩

theorem rd_grownX {a b : World} {R : Nat} {v : Value} {zs : List Int} {p : Int} (h : Rd a R zs p) (k : a.grownBy b v.ownBlock) (hg : ∀ g, v.ownBlock = some g → R < g) : Rd b R zs p := by
  cases e : v.ownBlock with
  | none =>
    rw [e] at k
    exact rd_grownY (g := R + 1) h ⟨k.os, k.tape, k.output, k.size, fun i hi _ => k.block i hi (by simp)⟩ (by omega)
  | some g => rw [e] at k; exact rd_grownY h k (hg g e)
theorem owns_formX {w : World} {base n k : Nat} {t : TypeId} {v : Value} {xs : List Value} (h : w.ownsRow base t k v n xs) : ∃ A cap, v = .slice A n cap := by
  rcases h.2 with ⟨e0, h0⟩ | ⟨g, cap, cur, e0, _⟩
  · exact ⟨none, 0, by rw [e0, h0]⟩
  · exact ⟨_, _, e0⟩
theorem grown_newX {w a b : World} {R : Nat} {v : Value} (h : w.grownBy a (some R)) (k : a.grownBy b v.ownBlock) (hg : ∀ g, v.ownBlock = some g → w.heap.size ≤ g) : w.grownBy b (some R) := by
  cases e : v.ownBlock with
  | none =>
    rw [e] at k
    exact ⟨k.os.trans h.os, k.tape.trans h.tape, k.output.trans h.output, Nat.le_trans h.size k.size, fun j hj hne => (k.block j (Nat.lt_of_lt_of_le hj h.size) (by simp)).trans (h.block j hj hne)⟩
  | some g => rw [e] at k; exact grown_newY h k (hg g e)

theorem newsOp {w : World} {g : Nat} {a b c d e f : Value} (h0 : w.cell? ⟨g, 0, none⟩ = some a) (h1 : w.cell? ⟨g, 1, none⟩ = some b) (h2 : w.cell? ⟨g, 2, none⟩ = some c) (h3 : w.cell? ⟨g, 3, none⟩ = some d) (h4 : w.cell? ⟨g, 4, none⟩ = some e) (h5 : w.cell? ⟨g, 5, none⟩ = some f) : ∀ j u, [a, b, c, d, e, f][j]? = some u → w.cell? ((⟨g, 0, none⟩ : Addr).add j) = some u := by
  intro j u h
  match j, h with
  | 0, h => simp at h; subst h; simpa [Addr.add] using h0
  | 1, h => simp at h; subst h; simpa [Addr.add] using h1
  | 2, h => simp at h; subst h; simpa [Addr.add] using h2
  | 3, h => simp at h; subst h; simpa [Addr.add] using h3
  | 4, h => simp at h; subst h; simpa [Addr.add] using h4
  | 5, h => simp at h; subst h; simpa [Addr.add] using h5
  | j + 6, h => simp at h
theorem Try.infoOp119 : (Try.prog.info? 119).map (fun i => (i.zero, i.size, i.bytes)) = some (some (.agg #[.int .i64 0, .int .i64 0, .string ⟨#[]⟩, .string ⟨#[]⟩, .int .i64 0, .int .i64 0]), 6, 64) := by kernel_rfl

set_option maxRecDepth 100000 in
set_option maxHeartbeats 4000000 in
theorem l20Tx_any (R : Nat) (bs : List Int) (p : Int) (w : World) (h : Rd w R bs p) (hp0 : 0 ≤ p) (hp1 : p ≤ 500000) :
    Calls Try.prog 69 #[.pointer (some ⟨R, 0, none⟩)] w (DrawnTx w R bs p 41) := by
  have hR := h.lt
  obtain ⟨i0, hi, hz0, hz1, hz2⟩ := info_parts Try.infoOp119
  have Hi := Lib.hid hi
  have Hz0 := Lib.hid hz0
  have Hz1 := Lib.hid hz1
  have Hz2 := Lib.hid hz2
  clear hi hz0 hz1 hz2
  go_enter Try.func69, Try.ntmps69
  go_wp2_with fail
  have O0 : (w.alloc (.cells #[] 119)).ownsRow w.heap.size 119 6 (.slice (some ⟨w.heap.size, 0, none⟩) 0 0) 0 [] := by
    have := World.ownsRow_lit (base := w.heap.size) (e := 119) (size := 6) w #[] 0 (by simp) (by simp [maxLen]) (by simp)
    simpa using this
  have g0 := grown_alloc (grown_refl w (some R)) (.cells #[] 119)
  have hrd0 := rd_alloc h (.cells #[] 119)
  generalize hW : w.alloc _ = W0 at *
  have z0 : w.heap.size < W0.heap.size := by rw [← hW]; simp
  clear hW
  refine (pick_any R bs p 4 W0 hrd0 hp0 (by omega) (by omega) (by omega)).mono ?_
  rintro e w1 ⟨v, rfl, v0, v1, hrd1, hgr1⟩
  have O1 := Lib.hid (O0.kept hgr1 (.inr fun e => by have : w.heap.size = R := (by injection e); omega))
  have G1 := Lib.hid (grown_trans g0 hgr1)
  have hv : IntKind.i64.wrap (1 + v) = 1 + v := by rw [IntKind.wrap_i64]; omega
  have z1 := hgr1.size
  clear O0 g0 hrd0 hgr1 h
  go_wp2
  go_loopw [3, 4] (fun u i wr => ∃ (zs : List OpV) (A : Option Addr) (cap : Nat) (q : Int), u = .slice A zs.length cap ∧ i = .int .i64 (1 + v - zs.length) ∧ (zs.length : Int) ≤ 1 + v ∧ (∀ x ∈ zs, opB x) ∧ wr.ownsRow w.heap.size 119 6 (.slice A zs.length cap) zs.length (flatOf opC zs) ∧ (p ≤ q ∧ q ≤ p + 1 + 10 * zs.length) ∧ Rd wr R bs q ∧ w1.heap.size ≤ wr.heap.size ∧ w.grownBy wr (some R)) (fun _ i _ => (intOf i).toNat)
  case atStart => exact ⟨[], some ⟨w.heap.size, 0, none⟩, 0, p + 1, rfl, by simp, (by simp; omega), (fun x hx => by simp at hx), O1.out, ⟨by omega, by simp⟩, hrd1, Nat.le_refl _, G1.out⟩
  case round =>
    obtain ⟨zs, A, cap, q, rfl, rfl, hle, hB, hown, hq, hrd, zr, hgr⟩ := hrel
    have Hown := Lib.hid hown
    have HB := Lib.hid hB
    have GR := Lib.hid hgr
    clear hown hB hgr
    by_cases hlt : (zs.length : Int) < 1 + v
    · have hd : decide (0 < 1 + v - (zs.length : Int)) = true := decide_eq_true (by omega)
      go_wp2_with fail
      refine (l20OpK_any R bs q wr hrd (by omega) (by omega)).mono ?_
      rintro e w2 ⟨k, t, r, rfl, hr, hk, p2, hp2a, hp2b, hrd2, hgr2⟩
      have O2 := Lib.hid (Hown.out.kept hgr2 (.inr fun e => by have := (Hown.out.lt _ e).1; omega))
      have G2 := Lib.hid (grown_trans GR.out hgr2)
      have z2 := hgr2.size
      have R2 := Lib.hid hrd2
      have HK := Lib.hid (show opB ⟨k, t, r⟩ from ⟨hr, hk⟩)
      have hlo : ∀ g, (Value.slice A zs.length cap).ownBlock = some g → w.heap.size ≤ g := fun g e => (Hown.out.lt g e).1
      have hwr : IntKind.i64.wrap (1 + v - (zs.length : Int) - 1) = 1 + v - (zs.length : Int) - 1 := by rw [IntKind.wrap_i64]; omega
      have hz4 : zs.length ≤ 4 := by omega
      clear hrd2 hgr2 Hown GR hrd
      go_wp2_with (at_builtin; refine wpList_append_own _ rfl _ _ 98 rfl w.heap.size 119 i0 _ 6 64 Try.underlying98 Hi.out Hz0.out Hz1.out Hz2.out rfl (by decide) _ zs.length (flatOf opC zs) rfl (O2.out.alloc _) ⟨w2.heap.size, 0, none⟩ 1 1 [.int .i64 k, .int .i64 t, .string r.k, .string r.t, .int .i64 r.f, .int .i64 r.e] rfl rfl (newsOp (by simp) (by simp) (by simp) (by simp) (by simp) (by simp)) (by simp [Value.oneCell']) (by unfold maxLen; omega) (by omega) (by simp; omega) ?_; intro v' w9 ho1 hg1 hnil; obtain ⟨A1, k1, rfl⟩ := owns_formX ho1; have O9 := Lib.hid ho1; have G9 := Lib.hid (grown_newX (grown_alloc G2.out _) (show (w2.alloc _).grownBy w9 (Value.slice A zs.length cap).ownBlock from hg1) (fun g e => by have := hlo g e; omega)); have R9 := Lib.hid (rd_grownX (rd_alloc R2.out _) (show (w2.alloc _).grownBy w9 (Value.slice A zs.length cap).ownBlock from hg1) (fun g e => by have := hlo g e; omega)); have SZ9 := Lib.hid (show (w2.alloc _).heap.size ≤ w9.heap.size from hg1.size); clear ho1 hg1 hnil)
      have sz9 := SZ9.out
      simp only [World.size_alloc] at sz9
      go_roundw
      case rel =>
        refine ⟨zs ++ [⟨k, t, r⟩], A1, k1, p2, by simp, by simp; omega, by simp; omega, fun x hx => ?_, ?_, by simp; omega, R9.out, by omega, G9.out⟩
        · rcases List.mem_append.1 hx with hx | hx
          · exact HB.out x hx
          · obtain rfl := List.mem_singleton.1 hx
            exact HK.out
        · rw [List.length_append, flatOf_append]
          exact O9.out
      case measure => simp [intOf]; omega
    · have hd : decide (0 < 1 + v - (zs.length : Int)) = false := decide_eq_false (by omega)
      go_wp2
      go_ret
      exact ⟨zs, A, cap, rfl, by omega, HB.out, Hown.out, q, by omega, by omega, hrd, GR.out⟩
end Go.Proofs.Ytmfpojminbkojaa
