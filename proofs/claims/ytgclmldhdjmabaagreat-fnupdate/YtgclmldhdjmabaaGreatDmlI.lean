/-
  Walks: what becomes of a row: kept, removed; changes of a table.
-/
import Derived.Test.YtgclmldhdjmabaaGreatDmlS
import Derived.Test.YtgclmldhdjmabaaGreatSpanLE
import Derived.Test.YtgclmldhdjmabaaGreatRelOf
import Derived.Test.YtgclmldhdjmabaaGreatShelfC
namespace Go.Proofs.YtgclmldhdjmabaaGreat
open Go.Shelf Go.RowKit Go.Lib Go.Sort

/-- What a change does to a row; what it has captured lies as in w0. -/
def Chg (g : Nat) (cb : Array Value) (F : RowV → List RowV) (H : RowV → Prop) (w0 : World) : Prop :=
  ∀ (W : World) (x : RowV), Below w0.heap.size w0 W → H x → Calls Tryz.prog g (#[.agg #[.string x.k, .string x.t, .int .i64 x.f, .int .i64 x.e]] ++ cb) W (GetsE rowC 4 27 W (F x))
theorem Chg.later {g : Nat} {cb : Array Value} {F : RowV → List RowV} {H : RowV → Prop} {w0 w1 : World} (h : Chg g cb F H w0) (hb : Below w0.heap.size w0 w1) : Chg g cb F H w1 := fun W x hW hx => h W x (hb.trans (hW.mono hb.size)) hx

set_option maxHeartbeats 1000000 in
theorem kept_any (x : RowV) (w : World) : Calls Tryz.prog 57 #[.agg #[.string x.k, .string x.t, .int .i64 x.f, .int .i64 x.e]] w (GetsE rowC 4 27 w [x]) := by
  have OL := Lib.hid (World.ownsRow_lit (base := w.heap.size) (e := 27) (size := 4) (w.alloc (.cells #[.string x.k, .string x.t, .int .i64 x.f, .int .i64 x.e] 27)) #[.string x.k, .string x.t, .int .i64 x.f, .int .i64 x.e] 1 (by simp) (by simp [maxLen]) (by simp))
  go_enter Tryz.func57, Tryz.ntmps57
  go_wp2
  go_ret
  refine ⟨some ⟨w.heap.size + 1, 0, none⟩, 1, rfl, ?_, by repeat (first | exact Below.refl _ _ | refine Below.alloc ?_ (by simp) _)⟩
  have := OL.out
  simpa [flatOf, rowC] using this

set_option maxHeartbeats 1000000 in
theorem removed_any (key : ByteArray) (a b : Int) (w : World) : Calls Tryz.prog 33 #[.string key, .agg #[.int .i64 a, .int .i64 b]] w fun e w' => ∃ kb sb : Nat, e = .returned (.func (.func 56) #[] #[.pointer (some ⟨kb, 0, none⟩), .pointer (some ⟨sb, 0, none⟩)]) ∧ w'.cell? ⟨kb, 0, none⟩ = some (.string key) ∧ w'.cell? ⟨sb, 0, none⟩ = some (.int .i64 a) ∧ w'.cell? ⟨sb, 1, none⟩ = some (.int .i64 b) ∧ kb < w'.heap.size ∧ sb < w'.heap.size ∧ Below w.heap.size w w' := by
  go_enter Tryz.func33, Tryz.ntmps33
  go_wp2
  go_ret
  exact ⟨w.heap.size, w.heap.size + 1, rfl, by first | (simp; done) | (simp [go_sem]; done), by first | (simp; done) | (simp [go_sem]; done), by first | (simp; done) | (simp [go_sem]; done), by simp; omega, by simp, by repeat (first | exact Below.refl _ _ | refine Below.alloc ?_ (by simp) _)⟩

theorem spanLess_left {f e a b : Int} (h1 : 0 ≤ f ∧ f < e ∧ e ≤ 100) (h2 : 0 ≤ a ∧ a < b ∧ b ≤ 100) : spanLessL f e a b = leftS f e a b := by
  unfold spanLessL
  rw [if_pos (by simp [okB, h1, h2]), less_left]

set_option maxRecDepth 100000 in
set_option maxHeartbeats 4000000 in
theorem removed1_any (kb sb : Nat) (key : ByteArray) (a b : Int) (x : RowV) (w : World) (k0 : w.cell? ⟨kb, 0, none⟩ = some (.string key)) (s0 : w.cell? ⟨sb, 0, none⟩ = some (.int .i64 a)) (s1 : w.cell? ⟨sb, 1, none⟩ = some (.int .i64 b)) (hx : 0 ≤ x.f ∧ x.f < x.e ∧ x.e ≤ 100) (hs : 0 ≤ a ∧ a < b ∧ b ≤ 100) :
    Calls Tryz.prog 56 #[.agg #[.string x.k, .string x.t, .int .i64 x.f, .int .i64 x.e], .pointer (some ⟨kb, 0, none⟩), .pointer (some ⟨sb, 0, none⟩)] w (GetsE rowC 4 27 w (cutRow key a b x)) := by
  obtain ⟨i0, hi, hz0, hz1, hz2⟩ := info_parts Tryz.infoR27
  have Hi := Lib.hid hi
  have Hz0 := Lib.hid hz0
  have Hz1 := Lib.hid hz1
  have Hz2 := Lib.hid hz2
  clear hi hz0 hz1 hz2
  have lk : kb < w.heap.size := World.block_lt_of_cell? _ _ k0
  have ls : sb < w.heap.size := World.block_lt_of_cell? _ _ s0
  have HX := Lib.hid hx
  have HS := Lib.hid hs
  clear hx hs
  go_enter Tryz.func56, Tryz.ntmps56
  have r0 : (w.alloc (.cells #[.string x.k, .string x.t, .int .i64 x.f, .int .i64 x.e] 27)).cell? ⟨w.heap.size, 0, none⟩ = some (.string x.k) := by simp
  have r1 : (w.alloc (.cells #[.string x.k, .string x.t, .int .i64 x.f, .int .i64 x.e] 27)).cell? ⟨w.heap.size, 1, none⟩ = some (.string x.t) := by simp
  have r2 : (w.alloc (.cells #[.string x.k, .string x.t, .int .i64 x.f, .int .i64 x.e] 27)).cell? ⟨w.heap.size, 2, none⟩ = some (.int .i64 x.f) := by simp
  have r3 : (w.alloc (.cells #[.string x.k, .string x.t, .int .i64 x.f, .int .i64 x.e] 27)).cell? ⟨w.heap.size, 3, none⟩ = some (.int .i64 x.e) := by simp
  replace k0 : (w.alloc (.cells #[.string x.k, .string x.t, .int .i64 x.f, .int .i64 x.e] 27)).cell? ⟨kb, 0, none⟩ = some (.string key) := (World.cell?_alloc_lt _ _ _ lk).trans k0
  replace s0 : (w.alloc (.cells #[.string x.k, .string x.t, .int .i64 x.f, .int .i64 x.e] 27)).cell? ⟨sb, 0, none⟩ = some (.int .i64 a) := (World.cell?_alloc_lt _ _ _ ls).trans s0
  replace s1 : (w.alloc (.cells #[.string x.k, .string x.t, .int .i64 x.f, .int .i64 x.e] 27)).cell? ⟨sb, 1, none⟩ = some (.int .i64 b) := (World.cell?_alloc_lt _ _ _ ls).trans s1
  have B0 := Lib.hid ((Below.refl w.heap.size w).alloc (Nat.le_refl _) (.cells #[.string x.k, .string x.t, .int .i64 x.f, .int .i64 x.e] 27))
  have hW : (w.alloc (.cells #[.string x.k, .string x.t, .int .i64 x.f, .int .i64 x.e] 27)).heap.size = w.heap.size + 1 := by simp
  cases hkk : (x.k.toList == key.toList)
  · have HF := Lib.hid (cut_no (a := a) (b := b) hkk)
    go_wp2_with fail
    refine (kept_any x _).mono ?_
    rintro e w2 h2
    obtain ⟨A2, c2, rfl, h3⟩ := getsE_after h2 B0.out
    have H3 := Lib.hid h3
    clear h2 h3
    go_wp2
    go_ret
    rw [HF.out]
    exact ⟨A2, c2, rfl, H3.out⟩
  · have HF := Lib.hid (show cutRow key a b x = (leftS x.f x.e a b).map (leftRow x.k x.t) from by unfold cutRow; rw [if_pos hkk]; rfl)
    go_wp2_with fail
    refine (SpanLess_val _ _ _ _ _).mono ?_
    rw [spanLess_left HX.out HS.out]
    have hll := left_len x.f x.e a b
    obtain ⟨ls, hls⟩ : ∃ ls, leftS x.f x.e a b = ls := ⟨_, rfl⟩
    rw [hls] at hll HF ⊢
    clear hls
    rintro e w2 ⟨A2, c2, rfl, ho2, hb2⟩
    have SL := Lib.hid (owns_spans ho2)
    replace r0 := cellBelow hb2 (by omega) r0
    replace r1 := cellBelow hb2 (by omega) r1
    replace r2 := cellBelow hb2 (by omega) r2
    replace r3 := cellBelow hb2 (by omega) r3
    have B2 := Lib.hid (B0.out.trans (hb2.mono (by omega)))
    have lr : w.heap.size < w2.heap.size := by have := hb2.size; omega
    clear ho2 hb2 k0 s0 s1 hW B0 hkk
    go_wp2
    go_loopw [5, 19] (fun v i wr => ∃ j : Nat, j ≤ ls.length ∧ i = .int .i64 j ∧ wr.ownsRow w2.heap.size 27 4 v ((ls.take j).map (leftRow x.k x.t)).length (flatOf rowC ((ls.take j).map (leftRow x.k x.t))) ∧ Below w2.heap.size w2 wr) (fun _ i _ => ls.length - (intOf i).toNat)
    case atStart => exact ⟨0, Nat.zero_le _, rfl, by simpa [flatOf] using World.ownsRow_nil _ _ _ _, Below.refl _ _⟩
    case round =>
      obtain ⟨j, hj, rfl, hown, hbr⟩ := hrel
      have Hown := Lib.hid hown
      clear hown
      have hs5 := hbr.size
      have q0 := cellBelow hbr lr r0
      have q1 := cellBelow hbr lr r1
      have q2 := cellBelow hbr lr r2
      have q3 := cellBelow hbr lr r3
      have lrw : w.heap.size < wr.heap.size := Nat.lt_of_lt_of_le lr hs5
      by_cases hlt : j < ls.length
      · obtain ⟨b', off', rfl, hcells⟩ := SL.out (by omega)
        obtain ⟨f0, f1⟩ := hcells j hlt
        have HT := Lib.hid (left_take (key := x.k) (t := x.t) hlt)
        obtain ⟨p, hp⟩ : ∃ p, ls.getD j (0, 0) = p := ⟨_, rfl⟩
        rw [hp] at f0 f1 HT
        obtain ⟨p1, p2⟩ := p
        replace f0 := cell_below hbr (World.block_lt_of_cell? _ _ f0) f0
        replace f1 := cell_below hbr (World.block_lt_of_cell? _ _ f1) f1
        obtain ⟨oo, hoo⟩ : ∃ oo, (ls.take j).map (leftRow x.k x.t) = oo := ⟨_, rfl⟩
        have hlo : oo.length ≤ 2 := by rw [← hoo, List.length_map, List.length_take]; omega
        rw [hoo] at Hown HT
        clear hcells hp hoo
        have BA := Lib.hid (hbr.alloc hs5 (.cells #[.int .i64 p1, .int .i64 p2] 25))
        go_wp2_with fail
        refine (during_any x p1 p2 _).mono ?_
        rintro e w4 ⟨rfl, hb4⟩
        have O4 := Lib.hid (ownsKeep (Hown.out.alloc (.cells #[.int .i64 p1, .int .i64 p2] 25)) hb4)
        have B4 := Lib.hid (BA.out.trans (hb4.mono BA.out.size))
        have hs4 := B4.out.size
        clear hb4 q0 q1 q2 q3 f0 f1 hbr Hown BA
        go_wp2_with (at_builtin; refine wpList_append_own _ rfl _ _ 23 rfl w2.heap.size 27 i0 _ 4 48 Tryz.underlying23 Hi.out Hz0.out Hz1.out Hz2.out rfl (by decide) _ oo.length (flatOf rowC oo) rfl (O4.out.alloc _) ⟨w4.heap.size, 0, none⟩ 1 1 [.string x.k, .string x.t, .int .i64 p1, .int .i64 p2] rfl rfl (newsFour (by simp) (by simp) (by simp) (by simp)) (by simp [Value.oneCell']) (by unfold maxLen; omega) (by omega) (by simp; omega) ?_; intro v' w5 hown' hgrow hnil; have O5 := Lib.hid hown'; have B5 := Lib.hid ((B4.out.alloc hs4 _).grown hgrow (by simp; omega) (fun i e => by have := (O4.out.lt i e).1; omega)); clear hown' hgrow hnil)
        refine ⟨⟨j + 1, by omega, by simp, ?_, B5.out⟩, ?_⟩
        · rw [HT.out, flatOf_append, flatOf_one, List.length_append, List.length_singleton]
          exact O5.out
        · simp [intOf]; omega
      · obtain rfl : j = ls.length := by omega
        rw [List.take_length, ← HF.out] at Hown
        obtain ⟨A', c', hv⟩ := owns_sliceE Hown.out
        subst hv
        go_wp2
        go_ret
        exact ⟨A', c', rfl, owns_baseE Hown.out (by omega), B2.out.trans (hbr.mono (by omega))⟩

theorem removed_chg {kb sb : Nat} {key : ByteArray} {a b : Int} {w : World} (k0 : w.cell? ⟨kb, 0, none⟩ = some (.string key)) (s0 : w.cell? ⟨sb, 0, none⟩ = some (.int .i64 a)) (s1 : w.cell? ⟨sb, 1, none⟩ = some (.int .i64 b)) (hs : 0 ≤ a ∧ a < b ∧ b ≤ 100) :
    Chg 56 #[.pointer (some ⟨kb, 0, none⟩), .pointer (some ⟨sb, 0, none⟩)] (cutRow key a b) (fun x => 0 ≤ x.f ∧ x.f < x.e ∧ x.e ≤ 100) w := fun W x hW hx =>
  removed1_any kb sb key a b x W (cellBelow hW (World.block_lt_of_cell? _ _ k0) k0) (cellBelow hW (World.block_lt_of_cell? _ _ s0) s0) (cellBelow hW (World.block_lt_of_cell? _ _ s1) s1) hx hs
theorem kept_chg (w : World) : Chg 57 #[] (fun x => [x]) (fun _ => True) w := fun W x _ _ => kept_any x W

theorem short_flat {F : RowV → List RowV} {zs : List RowV} (h : ∀ x ∈ zs, Short (F x)) : Short (zs.flatMap F) := fun y hy => by
  obtain ⟨x, hx, hy⟩ := List.mem_flatMap.1 hy
  exact h x hx y hy
theorem flat_take {F : RowV → List RowV} {zs : List RowV} {k : Nat} {x : RowV} (hx : zs[k]? = some x) : (zs.take (k + 1)).flatMap F = (zs.take k).flatMap F ++ F x := by
  obtain ⟨hk, hx⟩ := List.getElem?_eq_some_iff.1 hx
  subst hx
  rw [List.take_succ_eq_append_getElem hk, List.flatMap_append]
  simp
theorem flat_len {F : RowV → List RowV} (n : Nat) : ∀ (zs : List RowV), (∀ x ∈ zs, (F x).length ≤ n) → (zs.flatMap F).length ≤ zs.length * n
  | [], _ => by simp
  | x :: l, h => by
    have h1 := h x (by simp)
    have h2 := flat_len n l (fun y hy => h y (by simp [hy]))
    rw [List.flatMap_cons, List.length_append, List.length_cons, Nat.add_mul]
    omega

/-- A table out of rows in order. -/
def GetsS (w : World) (all : List RowV) (e : Ending) (w' : World) : Prop := ∃ s : List RowV, Ordered s ∧ s.Perm all ∧ GetsRB w (tableP s) e w'

set_option maxRecDepth 100000 in
set_option maxHeartbeats 4000000 in
theorem changed_any (A : Option Addr) (cap : Nat) (zs : List RowV) (g : Nat) (cb : Array Value) (F : RowV → List RowV) (H : RowV → Prop) (u : Value) (ms : List RowV) (w : World) (eg : ∀ args w, (callFunc g args).run Tryz.prog w = .ok (.enter g args) w)
    (hz : RowsA w A zs) (hl : zs.length ≤ 24) (hC : Chg g cb F H w) (hH : ∀ x ∈ zs, H x) (hu : ∀ W, Below w.heap.size w W → Src W u ms) (hFl : ∀ x ∈ zs, (F x).length ≤ 3) (hFs : ∀ x ∈ zs, Short (F x)) (hml : ms.length ≤ 1) (hms : Short ms) :
    Calls Tryz.prog 29 #[.slice A zs.length cap, .func (.func g) #[] cb, u] w (GetsS w (zs.flatMap F ++ ms)) := by
  have HZ := Lib.hid hz
  have HC := Lib.hid hC
  have HH := Lib.hid hH
  have HU := Lib.hid hu
  have HFl := Lib.hid hFl
  have HSh := Lib.hid (show Short (zs.flatMap F ++ ms) from fun y hy => by
    rcases List.mem_append.1 hy with hy | hy
    · exact short_flat hFs y hy
    · exact hms y hy)
  have hfl := flat_len 3 zs hFl
  clear hz hC hH hu hFl hFs hms
  go_enter Tryz.func29, Tryz.ntmps29
  go_wp2
  generalize hW : w.alloc _ = W0
  have hbx : BoxO W0 w.heap.size (.slice none 0 0) := by rw [← hW]; exact heap_alloc_new w _
  have B0 := Lib.hid (show Below w.heap.size w W0 from by rw [← hW]; exact (Below.refl _ _).alloc (Nat.le_refl _) _)
  have HB0 := Lib.hid hbx
  clear hW hbx
  go_loopw [14] (fun i wr => ∃ k : Nat, k ≤ zs.length ∧ i = .int .i64 k ∧ ∃ v l, BoxO wr w.heap.size v ∧ wr.ownsRow w.heap.size 27 4 v l.length (flatOf rowC l) ∧ l.Perm ((zs.take k).flatMap F) ∧ Below w.heap.size w wr) (fun i _ => zs.length - (intOf i).toNat)
  case atStart => exact ⟨0, Nat.zero_le _, rfl, .slice none 0 0, [], HB0.out, World.ownsRow_nil _ _ _ _, by simp, B0.out⟩
  case round =>
    obtain ⟨k, hk, rfl, v, l, hbx, hown, hperm, hbr⟩ := hrel
    have HBx := Lib.hid hbx
    have Hown := Lib.hid hown
    have HP := Lib.hid hperm
    have hs5 := hbr.size
    have hll : l.length ≤ 75 := by
      rw [hperm.length_eq]
      have := flat_len (F := F) 3 (zs.take k) (fun x hx => HFl.out x (List.mem_of_mem_take hx))
      rw [List.length_take] at this
      omega
    clear hbx hown hperm
    by_cases hlt : k < zs.length
    · obtain ⟨b, off, x, rfl, hb, hx, q0, q1, q2, q3⟩ := (HZ.out.below hbr).at_ hlt
      have hm := List.mem_of_getElem? hx
      have HT := Lib.hid (flat_take (F := F) hx)
      have HHx := Lib.hid (HH.out x hm)
      have hfx := HFl.out x hm
      clear hx hm
      have BA := Lib.hid (hbr.alloc hs5 (.cells #[.string x.k, .string x.t, .int .i64 x.f, .int .i64 x.e] 27))
      have BoxA := Lib.hid (show BoxO (wr.alloc (.cells #[.string x.k, .string x.t, .int .i64 x.f, .int .i64 x.e] 27)) w.heap.size v from HBx.out.keep (Below.heap_alloc _ _ _ HBx.out.lt))
      have OA := Lib.hid (Hown.out.alloc (.cells #[.string x.k, .string x.t, .int .i64 x.f, .int .i64 x.e] 27))
      have hc := HC.out (wr.alloc (.cells #[.string x.k, .string x.t, .int .i64 x.f, .int .i64 x.e] 27)) x BA.out HHx.out
      go_wp2_with (go_at_fn g; refine hc.mono ?_; rintro e w2 ⟨A2, c2, rfl, ho2, hb2⟩; have O2 := Lib.hid ho2; have Box2 := Lib.hid (BoxA.out.keep (hb2.block _ BoxA.out.lt)); have OB2 := Lib.hid (ownsKeep OA.out hb2); have B2 := Lib.hid (BA.out.trans (hb2.mono BA.out.size)); clear ho2 hb2)
      refine (put_any w.heap.size w.heap.size v (.slice A2 (F x).length c2) l (F x) w2 Box2.out (Nat.le_refl _) OB2.out (src_of (rowsA_own O2.out rfl) (owns_nilcap O2.out)) (by omega)).mono ?_
      rintro e w3 ⟨rfl, v3, l3, hb3, ho3, -, hp3, hbl3⟩
      have B3 := Lib.hid (B2.out.trans hbl3)
      have HP3 := Lib.hid (show l3.Perm ((zs.take (k + 1)).flatMap F) from by rw [HT.out]; exact hp3.trans (HP.out.append_right _))
      have Box3 := Lib.hid hb3
      have O3 := Lib.hid ho3
      clear hb3 ho3 hp3 hbl3 hc q0 q1 q2 q3
      go_wp2
      go_roundw
      case rel => exact ⟨k + 1, by omega, by go_num, v3, l3, Box3.out, O3.out, HP3.out, B3.out⟩
      case measure => simp [intOf]; omega
    · obtain rfl : k = zs.length := by omega
      rw [List.take_length] at HP
      go_wp2_with fail
      refine (put_any w.heap.size w.heap.size v u l ms wr HBx.out (Nat.le_refl _) Hown.out (HU.out wr hbr) (by omega)).mono ?_
      rintro e w3 ⟨rfl, v3, l3, hb3, ho3, hord, hp3, hbl3⟩
      have c0 := hb3.cell0
      have c1 := hb3.cell1
      have B3 := Lib.hid (hbr.trans hbl3)
      have HPl := Lib.hid (show l3.Perm (zs.flatMap F ++ ms) from hp3.trans (HP.out.append_right _))
      have HOr := Lib.hid hord
      have O3 := Lib.hid ho3
      obtain ⟨A3, k3, rfl⟩ := owns_sliceE ho3
      have hl3 : l3.length ≤ 1048577 := by rw [HPl.out.length_eq, List.length_append]; omega
      have hs3 := B3.out.size
      clear hb3 ho3 hord hp3 hbl3 hbr
      go_wp2_with fail
      refine (tableOf_any w.heap.size _ l3 w3 O3.out hl3 (HSh.out.perm HPl.out)).mono ?_
      rintro e w4 ⟨A4, c4, rfl, ho4, hb4⟩
      have O4 := Lib.hid (owns_baseE ho4 hs3)
      have B4 := Lib.hid (B3.out.trans (hb4.mono hs3))
      clear ho4 hb4
      go_wp2
      refine bodyPost_ret (v := .tuple #[.slice A4 (tableP l3).1.length c4, .bool (tableP l3).2]) (by simp [results, Tryz.results29, go_sem]) rfl ?_
      exact ⟨l3, HOr.out, HPl.out, A4, c4, rfl, O4.out, B4.out⟩

theorem owns_addr {w : World} {base n k cap : Nat} {A : Option Addr} {t : TypeId} {xs : List Value} (h : w.ownsRow base t k (.slice A n cap) n xs) : A = none ∨ ∃ b off, A = some ⟨b, off, none⟩ := by
  rcases h.2 with ⟨e0, _⟩ | ⟨g, c, cur, e0, _⟩
  · injection e0 with e0; exact .inl e0
  · injection e0 with e0; exact .inr ⟨g, 0, e0⟩

set_option maxRecDepth 100000 in
theorem clone_any (A : Option Addr) (cap : Nat) (zs : List RowV) (w : World) (hz : RowsA w A zs) (hA : A = none ∨ ∃ b off, A = some ⟨b, off, none⟩) (hl : zs.length ≤ 24) :
    Calls Tryz.prog 30 #[.slice A zs.length cap] w (GetsE rowC 4 27 w zs) := by
  rcases hA with rfl | ⟨b, off, rfl⟩
  · have h0 : zs = [] := by
      cases zs with
      | nil => rfl
      | cons z l => obtain ⟨b, off, e, _⟩ := hz (by simp); cases e
    subst h0
    refine (AnyE.slices_Clone_nil Tryz.cloneR 0 cap w).mono ?_
    rintro e w' ⟨rfl, rfl⟩
    exact getsE_nil _ _ _ (Below.refl _ _)
  · obtain ⟨i0, hi, hz0, hz1, hz2⟩ := info_parts Tryz.infoR27
    have hc : ∀ j u, (flatOf rowC zs)[j]? = some u → w.cell? ⟨b, off + j, none⟩ = some u := fun j u hu => by
      rcases src_of (cap := cap) hz (fun h => by cases h) with ⟨h, _⟩ | ⟨ad, c, h, hh⟩
      · cases h
      · injection h with h
        injection h with h
        subst h
        have := hh j u hu
        rwa [addr_add] at this
    refine (AnyE.slices_Clone Tryz.cloneR i0 _ 4 48 hi hz0 hz1 hz2 rfl (by omega) Tryz.sizeOf27 b off zs.length cap (flatOf rowC zs) w (flatOf_length rowC_len zs) (by unfold maxLen; omega) (by omega) hc (flat_oneR zs)).mono ?_
    rintro e w' ⟨v, rfl, ho, -, hb⟩
    obtain ⟨A', c', rfl⟩ := owns_formN ho
    exact ⟨A', c', rfl, ho, hb⟩

set_option maxRecDepth 100000 in
set_option maxHeartbeats 1000000 in
theorem modified_no (A : Option Addr) (cap : Nat) (zs : List RowV) (valid : Bool) (fv u : Value) (w : World) (hz : RowsA w A zs) (hl : zs.length ≤ 1048577) (hs : Short zs) (ho : relOk zs = false) :
    Calls Tryz.prog 15 #[.slice A zs.length cap, .bool valid, fv, u] w (GetsRB w ([], false)) := by
  have HO := Lib.hid ho
  have HZ := Lib.hid hz
  have HS := Lib.hid hs
  clear ho hz hs
  go_enter Tryz.func15, Tryz.ntmps15
  go_wp2_with fail
  refine (RelOk_any A cap zs w HZ.out hl HS.out).mono ?_
  rintro e w1 ⟨rfl, hb1⟩
  rw [HO.out]
  have B1 := Lib.hid hb1
  clear hb1
  go_wp2
  refine bodyPost_ret (v := .tuple #[.slice none 0 0, .bool false]) (by simp [results, Tryz.results15, go_sem]) rfl ?_
  exact ⟨none, 0, rfl, World.ownsRow_nil _ _ _ _, B1.out⟩

set_option maxRecDepth 100000 in
set_option maxHeartbeats 1000000 in
theorem modified_bad (A : Option Addr) (cap : Nat) (zs : List RowV) (fv u : Value) (w : World) (hz : RowsA w A zs) (hA : A = none ∨ ∃ b off, A = some ⟨b, off, none⟩) (hs : Short zs) (ho : relOk zs = true) :
    Calls Tryz.prog 15 #[.slice A zs.length cap, .bool false, fv, u] w (GetsRB w (zs, false)) := by
  have hl := relOk_len ho
  have HO := Lib.hid ho
  have HZ := Lib.hid hz
  have HS := Lib.hid hs
  have HA := Lib.hid hA
  clear ho hz hs hA
  go_enter Tryz.func15, Tryz.ntmps15
  go_wp2_with fail
  refine (RelOk_any A cap zs w HZ.out (by omega) HS.out).mono ?_
  rintro e w1 ⟨rfl, hb1⟩
  rw [HO.out]
  have B1 := Lib.hid hb1
  clear hb1
  go_wp2_with fail
  refine (clone_any A cap zs w1 (HZ.out.below B1.out) HA.out hl).mono ?_
  rintro e w2 h2
  obtain ⟨A2, c2, rfl, ho2, hb2⟩ := getsE_after h2 B1.out
  have O2 := Lib.hid ho2
  have B2 := Lib.hid hb2
  clear h2 ho2 hb2
  go_wp2
  refine bodyPost_ret (v := .tuple #[.slice A2 zs.length c2, .bool false]) (by simp [results, Tryz.results15, go_sem]) rfl ?_
  exact ⟨A2, c2, rfl, O2.out, B2.out⟩

set_option maxRecDepth 100000 in
set_option maxHeartbeats 2000000 in
theorem modified_yes (A : Option Addr) (cap : Nat) (zs : List RowV) (g : Nat) (cb : Array Value) (F : RowV → List RowV) (H : RowV → Prop) (u : Value) (ms : List RowV) (w : World) (eg : ∀ args w, (callFunc g args).run Tryz.prog w = .ok (.enter g args) w)
    (hz : RowsA w A zs) (hA : A = none ∨ ∃ b off, A = some ⟨b, off, none⟩) (hs : Short zs) (ho : relOk zs = true) (hC : Chg g cb F H w) (hH : ∀ x ∈ zs, H x) (hu : ∀ W, Below w.heap.size w W → Src W u ms) (hFl : ∀ x ∈ zs, (F x).length ≤ 3) (hFs : ∀ x ∈ zs, Short (F x)) (hml : ms.length ≤ 1) (hms : Short ms)
    (p : List RowV × Bool) (hp : ∀ s, Ordered s → s.Perm (zs.flatMap F ++ ms) → changedL s zs = p) :
    Calls Tryz.prog 15 #[.slice A zs.length cap, .bool true, .func (.func g) #[] cb, u] w (GetsRB w p) := by
  have hl := relOk_len ho
  have HO := Lib.hid ho
  have HZ := Lib.hid hz
  have HS := Lib.hid hs
  have HA := Lib.hid hA
  have HP := Lib.hid hp
  have HCh := Lib.hid (show ∀ W, Below w.heap.size w W → Calls Tryz.prog 29 #[.slice A zs.length cap, .func (.func g) #[] cb, u] W (GetsS W (zs.flatMap F ++ ms)) from fun W hW => changed_any A cap zs g cb F H u ms W eg (hz.below hW) hl (hC.later hW) hH (fun W' hW' => hu W' (hW.trans (hW'.mono hW.size))) hFl hFs hml hms)
  clear ho hz hs hA hC hH hu hFl hFs hms hp
  go_enter Tryz.func15, Tryz.ntmps15
  go_wp2_with fail
  refine (RelOk_any A cap zs w HZ.out (by omega) HS.out).mono ?_
  rintro e w1 ⟨rfl, hb1⟩
  rw [HO.out]
  have B1 := Lib.hid hb1
  clear hb1
  have hs1 := B1.out.size
  go_wp2_with fail
  refine (HCh.out w1 B1.out).mono ?_
  rintro e w2 ⟨s, hord, hperm, A2, c2, rfl, ho2, hb2⟩
  have HPs := Lib.hid (HP.out s hord hperm)
  have O2 := Lib.hid (owns_baseE ho2 hs1)
  have B2 := Lib.hid (B1.out.trans (hb2.mono hs1))
  have hs2 := B2.out.size
  clear hord hperm ho2 hb2
  obtain ⟨o, hoj⟩ : ∃ o, relOk (joinRows s) = o := ⟨_, rfl⟩
  cases o
  · have e1 : tableP s = ([], false) := by unfold tableP; rw [if_neg (by rw [hoj]; simp)]
    have e2 : changedL s zs = (zs, false) := by unfold changedL tableO; rw [if_neg (by rw [hoj]; simp)]
    rw [e2] at HPs
    rw [e1] at O2 ⊢
    clear hoj e1 e2
    go_wp2_with fail
    refine (clone_any A cap zs w2 (HZ.out.below B2.out) HA.out hl).mono ?_
    rintro e w3 h3
    obtain ⟨A3, c3, rfl, ho3, hb3⟩ := getsE_after h3 B2.out
    have O3 := Lib.hid ho3
    have B3 := Lib.hid hb3
    clear h3 ho3 hb3
    go_wp2
    refine bodyPost_ret (v := .tuple #[.slice A3 zs.length c3, .bool false]) (by simp [results, Tryz.results15, go_sem]) rfl ?_
    rw [← HPs.out]
    exact ⟨A3, c3, rfl, O3.out, B3.out⟩
  · have e1 : tableP s = (joinRows s, true) := by unfold tableP; rw [if_pos hoj]
    have e2 : changedL s zs = (joinRows s, true) := by unfold changedL tableO; rw [if_pos hoj]
    rw [e2] at HPs
    rw [e1] at O2 ⊢
    clear hoj e1 e2
    generalize joinRows s = js at *
    go_wp2
    refine bodyPost_ret (v := .tuple #[.slice A2 js.length c2, .bool true]) (by simp [results, Tryz.results15, go_sem]) rfl ?_
    rw [← HPs.out]
    exact ⟨A2, c2, rfl, O2.out, B2.out⟩
end Go.Proofs.YtgclmldhdjmabaaGreat
