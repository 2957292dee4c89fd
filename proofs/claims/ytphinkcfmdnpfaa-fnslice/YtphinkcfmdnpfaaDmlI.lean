/-
  Walks: what becomes of a row: kept, removed; changes of a table.
-/
import Derived.Test.YtphinkcfmdnpfaaDmlL
import Derived.Test.YtphinkcfmdnpfaaSpanLE
import Derived.Test.YtphinkcfmdnpfaaRelOf
import Derived.Test.YtphinkcfmdnpfaaShelfC
namespace Go.Proofs.Ytphinkcfmdnpfaa
open Go.Shelf Go.RowKit Go.Lib Go.Sort

/-- What a change does to a row; what it has captured lies as in w0. -/
def Chg (g : Nat) (cb : Array Value) (F : RowV → List RowV) (H : RowV → Prop) (w0 : World) : Prop :=
  ∀ (W : World) (x : RowV), Below w0.heap.size w0 W → H x → Calls Try.prog g (#[.agg #[.string x.k, .string x.t, .int .i64 x.f, .int .i64 x.e]] ++ cb) W (GetsE rowC 4 70 W (F x))
theorem Chg.later {g : Nat} {cb : Array Value} {F : RowV → List RowV} {H : RowV → Prop} {w0 w1 : World} (h : Chg g cb F H w0) (hb : Below w0.heap.size w0 w1) : Chg g cb F H w1 := fun W x hW hx => h W x (hb.trans (hW.mono hb.size)) hx

theorem spanLess_left {f e a b : Int} (h1 : 0 ≤ f ∧ f < e ∧ e ≤ 100) (h2 : 0 ≤ a ∧ a < b ∧ b ≤ 100) : spanLessL f e a b = leftS f e a b := by
  unfold spanLessL
  rw [if_pos (by simp [okB, h1, h2]), less_left]

theorem short_flat {F : RowV → List RowV} {zs : List RowV} (h : ∀ x ∈ zs, Short (F x)) : Short (zs.flatMap F) := fun y hy => by
  obtain ⟨x, hx, hy⟩ := List.mem_flatMap.1 hy
  exact h x hx y hy
theorem flat_take {F : RowV → List RowV} {zs : List RowV} {k : Nat} {x : RowV} (hx : zs[k]? = some x) : (zs.take (k + 1)).flatMap F = (zs.take k).flatMap F ++ F x := by
  obtain ⟨hk, hx⟩ := List.getElem?_eq_some_iff.1 hx
  subst hx
  rw [List.take_succ_eq_append_getElem hk, List.flatMap_append]
  simp
theorem flat_len {F : RowV → List RowV} (n : Nat) : ∀ (zs : List RowV), (∀ x ∈ zs, (F x).length ≤ n) → (zs.flatMap F).length ≤ zs.length * n
  | [], _ => by simp
  | x :: l, h => by
    have h1 := h x (by simp)
    have h2 := flat_len n l (fun y hy => h y (by simp [hy]))
    rw [List.flatMap_cons, List.length_append, List.length_cons, Nat.add_mul]
    omega

/-- A table out of rows in order. -/
def GetsS (w : World) (all : List RowV) (e : Ending) (w' : World) : Prop := ∃ s : List RowV, Ordered s ∧ s.Perm all ∧ GetsRB w (tableP s) e w'

set_option maxRecDepth 100000 in
set_option maxHeartbeats 4000000 in
theorem changed_any (A : Option Addr) (cap : Nat) (zs : List RowV) (g : Nat) (cb : Array Value) (F : RowV → List RowV) (H : RowV → Prop) (u : Value) (ms : List RowV) (w : World) (eg : ∀ args w, (callFunc g args).run Try.prog w = .ok (.enter g args) w)
    (hz : RowsA w A zs) (hl : zs.length ≤ 24) (hC : Chg g cb F H w) (hH : ∀ x ∈ zs, H x) (hu : ∀ W, Below w.heap.size w W → Src W u ms) (hFl : ∀ x ∈ zs, (F x).length ≤ 3) (hFs : ∀ x ∈ zs, Short (F x)) (hml : ms.length ≤ 1) (hms : Short ms) :
    Calls Try.prog 82 #[.slice A zs.length cap, .func (.func g) #[] cb, u] w (GetsS w (zs.flatMap F ++ ms)) := by
  have HZ := Lib.hid hz
  have HC := Lib.hid hC
  have HH := Lib.hid hH
  have HU := Lib.hid hu
  have HFl := Lib.hid hFl
  have HSh := Lib.hid (show Short (zs.flatMap F ++ ms) from fun y hy => by
    rcases List.mem_append.1 hy with hy | hy
    · exact short_flat hFs y hy
    · exact hms y hy)
  have hfl := flat_len 3 zs hFl
  clear hz hC hH hu hFl hFs hms
  go_enter Try.func82, Try.ntmps82
  go_wp2
  generalize hW : w.alloc _ = W0
  have hbx : BoxO W0 w.heap.size (.slice none 0 0) := by rw [← hW]; exact heap_alloc_new w _
  have B0 := Lib.hid (show Below w.heap.size w W0 from by rw [← hW]; exact (Below.refl _ _).alloc (Nat.le_refl _) _)
  have HB0 := Lib.hid hbx
  clear hW hbx
  go_loopw [14] (fun i wr => ∃ k : Nat, k ≤ zs.length ∧ i = .int .i64 k ∧ ∃ v l, BoxO wr w.heap.size v ∧ wr.ownsRow w.heap.size 70 4 v l.length (flatOf rowC l) ∧ l.Perm ((zs.take k).flatMap F) ∧ Below w.heap.size w wr) (fun i _ => zs.length - (intOf i).toNat)
  case atStart => exact ⟨0, Nat.zero_le _, rfl, .slice none 0 0, [], HB0.out, World.ownsRow_nil _ _ _ _, by simp, B0.out⟩
  case round =>
    obtain ⟨k, hk, rfl, v, l, hbx, hown, hperm, hbr⟩ := hrel
    have HBx := Lib.hid hbx
    have Hown := Lib.hid hown
    have HP := Lib.hid hperm
    have hs5 := hbr.size
    have hll : l.length ≤ 75 := by
      rw [hperm.length_eq]
      have := flat_len (F := F) 3 (zs.take k) (fun x hx => HFl.out x (List.mem_of_mem_take hx))
      rw [List.length_take] at this
      omega
    clear hbx hown hperm
    by_cases hlt : k < zs.length
    · obtain ⟨b, off, x, rfl, hb, hx, q0, q1, q2, q3⟩ := (HZ.out.below hbr).at_ hlt
      have hm := List.mem_of_getElem? hx
      have HT := Lib.hid (flat_take (F := F) hx)
      have HHx := Lib.hid (HH.out x hm)
      have hfx := HFl.out x hm
      clear hx hm
      have BA := Lib.hid (hbr.alloc hs5 (.cells #[.string x.k, .string x.t, .int .i64 x.f, .int .i64 x.e] 70))
      have BoxA := Lib.hid (show BoxO (wr.alloc (.cells #[.string x.k, .string x.t, .int .i64 x.f, .int .i64 x.e] 70)) w.heap.size v from HBx.out.keep (Below.heap_alloc _ _ _ HBx.out.lt))
      have OA := Lib.hid (Hown.out.alloc (.cells #[.string x.k, .string x.t, .int .i64 x.f, .int .i64 x.e] 70))
      have hc := HC.out (wr.alloc (.cells #[.string x.k, .string x.t, .int .i64 x.f, .int .i64 x.e] 70)) x BA.out HHx.out
      go_wp2_with (go_at_fn g; refine hc.mono ?_; rintro e w2 ⟨A2, c2, rfl, ho2, hb2⟩; have O2 := Lib.hid ho2; have Box2 := Lib.hid (BoxA.out.keep (hb2.block _ BoxA.out.lt)); have OB2 := Lib.hid (ownsKeep OA.out hb2); have B2 := Lib.hid (BA.out.trans (hb2.mono BA.out.size)); clear ho2 hb2)
      refine (put_any w.heap.size w.heap.size v (.slice A2 (F x).length c2) l (F x) w2 Box2.out (Nat.le_refl _) OB2.out (src_of (rowsA_own O2.out rfl) (owns_nilcap O2.out)) (by omega)).mono ?_
      rintro e w3 ⟨rfl, v3, l3, hb3, ho3, -, hp3, hbl3⟩
      have B3 := Lib.hid (B2.out.trans hbl3)
      have HP3 := Lib.hid (show l3.Perm ((zs.take (k + 1)).flatMap F) from by rw [HT.out]; exact hp3.trans (HP.out.append_right _))
      have Box3 := Lib.hid hb3
      have O3 := Lib.hid ho3
      clear hb3 ho3 hp3 hbl3 hc q0 q1 q2 q3
      go_wp2
      go_roundw
      case rel => exact ⟨k + 1, by omega, by go_num, v3, l3, Box3.out, O3.out, HP3.out, B3.out⟩
      case measure => simp [intOf]; omega
    · obtain rfl : k = zs.length := by omega
      rw [List.take_length] at HP
      go_wp2_with fail
      refine (put_any w.heap.size w.heap.size v u l ms wr HBx.out (Nat.le_refl _) Hown.out (HU.out wr hbr) (by omega)).mono ?_
      rintro e w3 ⟨rfl, v3, l3, hb3, ho3, hord, hp3, hbl3⟩
      have c0 := hb3.cell0
      have c1 := hb3.cell1
      have B3 := Lib.hid (hbr.trans hbl3)
      have HPl := Lib.hid (show l3.Perm (zs.flatMap F ++ ms) from hp3.trans (HP.out.append_right _))
      have HOr := Lib.hid hord
      have O3 := Lib.hid ho3
      obtain ⟨A3, k3, rfl⟩ := owns_sliceE ho3
      have hl3 : l3.length ≤ 1048577 := by rw [HPl.out.length_eq, List.length_append]; omega
      have hs3 := B3.out.size
      clear hb3 ho3 hord hp3 hbl3 hbr
      go_wp2_with fail
      refine (tableOf_any w.heap.size _ l3 w3 O3.out hl3 (HSh.out.perm HPl.out)).mono ?_
      rintro e w4 ⟨A4, c4, rfl, ho4, hb4⟩
      have O4 := Lib.hid (owns_baseE ho4 hs3)
      have B4 := Lib.hid (B3.out.trans (hb4.mono hs3))
      clear ho4 hb4
      go_wp2
      refine bodyPost_ret (v := .tuple #[.slice A4 (tableP l3).1.length c4, .bool (tableP l3).2]) (by simp [results, Try.results82, go_sem]) rfl ?_
      exact ⟨l3, HOr.out, HPl.out, A4, c4, rfl, O4.out, B4.out⟩

theorem owns_addr {w : World} {base n k cap : Nat} {A : Option Addr} {t : TypeId} {xs : List Value} (h : w.ownsRow base t k (.slice A n cap) n xs) : A = none ∨ ∃ b off, A = some ⟨b, off, none⟩ := by
  rcases h.2 with ⟨e0, _⟩ | ⟨g, c, cur, e0, _⟩
  · injection e0 with e0; exact .inl e0
  · injection e0 with e0; exact .inr ⟨g, 0, e0⟩

end Go.Proofs.Ytphinkcfmdnpfaa
