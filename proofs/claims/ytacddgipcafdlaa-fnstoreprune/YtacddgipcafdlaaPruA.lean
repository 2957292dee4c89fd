/-
  Plain: what stays of versions when those that end by a stamp go. Walks: slices.IndexFunc and slices.DeleteFunc at versions, by what StorePrune strikes.
-/
import Derived.Test.YtacddgipcafdlaaStoCp
import Derived.Deep.MidRow
import Derived.Laws.IdiomCopy
import Derived.Lib.SliceRun
namespace Go.Proofs.Ytacddgipcafdlaa
open Go.Shelf Go.RowKit Go.Lib Go.Sort

def keepB (m : Int) (x : VerV) : Bool := decide (m < x.o)
def keepL (m : Int) (zs : List VerV) : List VerV := zs.filter (keepB m)
theorem keepL_len (m : Int) (zs : List VerV) : (keepL m zs).length ≤ zs.length := List.length_filter_le _ _
theorem keepL_take {m : Int} {zs : List VerV} {k : Nat} {x : VerV} (hx : zs[k]? = some x) : keepL m (zs.take (k + 1)) = keepL m (zs.take k) ++ if keepB m x = true then [x] else [] := by
  obtain ⟨hk, rfl⟩ := List.getElem?_eq_some_iff.1 hx
  unfold keepL
  rw [List.take_succ_eq_append_getElem hk, List.filter_append]
  congr 1
  by_cases h : keepB m zs[k] = true <;> simp [h]
/-- The slice while it is worked through: ahead of what was looked at lies what stays, from there on all is as it was. -/
structure KeptI (m : Int) (zs : List VerV) (j i : Nat) (ys : List VerV) : Prop where
  len : ys.length = zs.length
  lt : i < j
  num : (keepL m (zs.take j)).length = i
  head : ys.take i = keepL m (zs.take j)
  tail : ∀ q, j ≤ q → ys[q]? = zs[q]?
theorem KeptI.start {m : Int} {zs : List VerV} {k : Nat} {x : VerV} (hx : zs[k]? = some x) (hd : keepB m x = false) (ha : ∀ (q : Nat) (y : VerV), q < k → zs[q]? = some y → keepB m y = true) : KeptI m zs (k + 1) k zs := by
  have hk := (List.getElem?_eq_some_iff.1 hx).1
  have e : keepL m (zs.take (k + 1)) = zs.take k := by
    rw [keepL_take hx, if_neg (by simp [hd]), List.append_nil]
    unfold keepL
    rw [List.filter_eq_self]
    intro y hy
    obtain ⟨q, hq, e⟩ := List.mem_iff_getElem.1 hy
    rw [List.length_take] at hq
    refine ha q y (by omega) ?_
    rw [← e, List.getElem_take, List.getElem?_eq_getElem]
  exact ⟨rfl, by omega, by rw [e, List.length_take]; omega, e.symm, fun q _ => rfl⟩
theorem KeptI.keep {m : Int} {zs ys : List VerV} {j i : Nat} {x : VerV} (h : KeptI m zs j i ys) (hx : zs[j]? = some x) (hk : keepB m x = true) : KeptI m zs (j + 1) (i + 1) (ys.set i x) := by
  have hj := (List.getElem?_eq_some_iff.1 hx).1
  have hl := h.len
  have hij := h.lt
  refine ⟨by rw [List.length_set]; exact hl, by omega, by rw [keepL_take hx, if_pos hk, List.length_append, h.num]; rfl, ?_, fun q hq => ?_⟩
  · rw [keepL_take hx, if_pos hk, ← h.head, List.take_succ_eq_append_getElem (by rw [List.length_set]; omega), List.getElem_set_self, List.take_set_of_le (Nat.le_refl _)]
  · rw [List.getElem?_set_ne (by omega)]; exact h.tail q (by omega)
theorem KeptI.skip {m : Int} {zs ys : List VerV} {j i : Nat} {x : VerV} (h : KeptI m zs j i ys) (hx : zs[j]? = some x) (hk : keepB m x = false) : KeptI m zs (j + 1) i ys := by
  have hij := h.lt
  refine ⟨h.len, by omega, by rw [keepL_take hx, if_neg (by simp [hk]), List.append_nil]; exact h.num, by rw [keepL_take hx, if_neg (by simp [hk]), List.append_nil]; exact h.head, fun q hq => h.tail q (by omega)⟩

theorem below_setCellsP {w : World} {n b : Nat} (hb : n ≤ b) : ∀ (vs : List Value) (o : Nat) (w' : World), Below n w w' → Below n w (w'.setCells b o vs)
  | [], _, _, h => h
  | v :: r, o, w', h => by
    rw [World.setCells]
    exact below_setCellsP hb r (o + 1) _ (h.setCell (p := ⟨b, o, none⟩) hb v)
theorem owns_part {w : World} {base n i g cap : Nat} {xs : List Value} {t : TypeId} {k : Nat} (h : w.ownsRow base t k (.slice (some ⟨g, 0, none⟩) n cap) n xs) (hi : i ≤ n) : w.ownsRow base t k (.slice (some ⟨g, 0, none⟩) i cap) i (xs.take (i * k)) := by
  have hle : i * k ≤ n * k := Nat.mul_le_mul_right k hi
  refine ⟨by rw [List.length_take, h.1]; omega, .inr ?_⟩
  rcases h.2 with ⟨h', _⟩ | ⟨g', cap', cur, h', hb, hg, hnc, hcm, hcs, htake⟩
  · simp at h'
  · injection h' with h1 h2 h3
    injection h1 with h1
    injection h1 with h1
    subst h1 h3
    exact ⟨g, cap, cur, rfl, hb, hg, by omega, hcm, hcs, by rw [← htake, List.take_take]; congr 1; omega⟩
theorem owns_cleared {base i g cap : Nat} {xs : List Value} {t : TypeId} {k : Nat} : ∀ (L : List Value) (o : Nat) (w : World), w.ownsRow base t k (.slice (some ⟨g, 0, none⟩) i cap) i xs → i * k ≤ o → (w.setCells g o L).ownsRow base t k (.slice (some ⟨g, 0, none⟩) i cap) i xs
  | [], _, _, h, _ => h
  | v :: r, o, w, h, ho => by
    rw [World.setCells]
    refine owns_cleared r (o + 1) _ ?_ (by omega)
    have := (h.stored o v).1
    rwa [List.set_eq_of_length_le (by rw [h.1]; exact ho)] at this
theorem flat_takeV (zs : List VerV) (i : Nat) (hi : i ≤ zs.length) : (flatOf verC zs).take (i * 6) = flatOf verC (zs.take i) := by
  have e : flatOf verC zs = flatOf verC (zs.take i) ++ flatOf verC (zs.drop i) := by rw [← flatOf_append, List.take_append_drop]
  have hl : (flatOf verC (zs.take i)).length = i * 6 := by rw [flatOf_length verC_len, List.length_take]; congr 1; omega
  rw [e, List.take_append_of_le_length (by omega), ← hl, List.take_length]
theorem zeros_len (z : Array Value) (n : Nat) : (Builtin.zeroCells z n).toList.length = n * z.size := by simp [Builtin.zeroCells]
theorem zeros_one {z : Array Value} {n : Nat} (h1 : ∀ v ∈ z, v.oneCell' = true) : ∀ v ∈ (Builtin.zeroCells z n).toList, v.oneCell' = true := fun v hv => by
  simp only [Builtin.zeroCells, Array.toList_map, List.mem_map, Array.toList_range, List.mem_range] at hv
  obtain ⟨q, hq, rfl⟩ := hv
  have h0 : 0 < z.size := by
    rcases Nat.eq_zero_or_pos z.size with h | h
    · rw [h] at hq; omega
    · exact h
  have hlt : q % z.size < z.size := Nat.mod_lt _ h0
  rw [getElem!_pos z _ hlt]
  exact h1 _ (Array.getElem_mem hlt)
theorem run_clear_ver {P : Program} (w : World) (t e ty : TypeId) (z : Value) (ht : P.underlying t = some (.slice e)) (hv : ∀ w, (zeroValue e).run P w = .ok z w) (hz : z.cells.size = 6) (h1 : ∀ v ∈ z.cells, v.oneCell' = true) (b o n c : Nat) (hn : 0 < n)
    (hc : ∀ j, j < n * 6 → (w.cell? ⟨b, o + j, none⟩).isSome = true) (hf : ∀ j, j < n * 6 → w.frozen? ⟨b, o + j, none⟩ = false) :
    (Builtin.clear_ #[t] ty #[.slice (some ⟨b, o, none⟩) n c]).run P w = .ok (.tuple #[]) (w.setCells b o (Builtin.zeroCells z.cells n).toList) := by
  have hl := zeros_len z.cells n
  rw [hz] at hl
  have hst := run_storeCells_cells (P := P) b o (Builtin.zeroCells z.cells n).toList 0 w (by simpa [hl] using hc) (by simpa [hl] using hf) (zeros_one h1)
  simp only [Nat.add_zero] at hst
  obtain ⟨m, rfl⟩ : ∃ m, n = m + 1 := ⟨n - 1, by omega⟩
  simp [Builtin.clear_, run_underlying ht, hv, hst]

set_option maxRecDepth 100000 in
set_option maxHeartbeats 4000000 in
theorem prune1_any (B : Nat) (m : Int) (x : VerV) (w : World) (hB : w.cell? ⟨B, 0, none⟩ = some (.int .i64 m)) :
    Calls Try.prog 77 #[.agg #[.string x.r.k, .string x.r.t, .int .i64 x.r.f, .int .i64 x.r.e, .int .i64 x.i, .int .i64 x.o], .pointer (some ⟨B, 0, none⟩)] w fun e w' => e = .returned (.bool (decide (x.o ≤ m))) ∧ Below w.heap.size w w' := by
  have lB : B < w.heap.size := World.block_lt_of_cell? _ _ hB
  go_enter Try.func77, Try.ntmps77
  go_wp2
  go_ret
  exact ⟨rfl, (Below.refl _ _).alloc (Nat.le_refl _) _⟩

set_option maxRecDepth 100000 in
set_option maxHeartbeats 8000000 in
theorem indexVer_any (A : Option Addr) (cap : Nat) (zs : List VerV) (B : Nat) (m : Int) (w : World) (hz : VersA w A zs) (hB : w.cell? ⟨B, 0, none⟩ = some (.int .i64 m)) (hl : zs.length ≤ 1048577) :
    Calls Try.prog 110 #[.slice A zs.length cap, .func (.func 77) #[] #[.pointer (some ⟨B, 0, none⟩)]] w fun e w' =>
      ((e = .returned (.int .i64 (-1)) ∧ ∀ (q : Nat) (y : VerV), zs[q]? = some y → keepB m y = true) ∨ ∃ (k : Nat) (x : VerV), e = .returned (.int .i64 k) ∧ zs[k]? = some x ∧ keepB m x = false ∧ ∀ (q : Nat) (y : VerV), q < k → zs[q]? = some y → keepB m y = true) ∧ Below w.heap.size w w' := by
  have HZ := Lib.hid hz
  have lB : B < w.heap.size := World.block_lt_of_cell? _ _ hB
  have HB := Lib.hid hB
  clear hz hB
  go_enter Try.func110, Try.ntmps110
  go_wp2
  go_loopw [8] (fun i wr => ∃ k : Nat, k ≤ zs.length ∧ i = .int .i64 k ∧ (∀ (q : Nat) (y : VerV), q < k → zs[q]? = some y → keepB m y = true) ∧ Below w.heap.size w wr) (fun i _ => zs.length - (intOf i).toNat)
  case atStart => exact ⟨0, Nat.zero_le _, rfl, fun q y h => absurd h (Nat.not_lt_zero _), Below.refl _ _⟩
  case round =>
    obtain ⟨k, hk, rfl, hf, hbr⟩ := hrel
    have HF := Lib.hid hf
    clear hf
    by_cases hlt : k < zs.length
    · obtain ⟨b, off, x, rfl, hb, hx, c0, c1, c2, c3, c4, c5⟩ := (HZ.out.below hbr).at_ hlt
      have HX := Lib.hid hx
      have hkz : (k : Int) < (zs.length : Int) := by omega
      have hkz0 : (0 : Int) ≤ (k : Int) := by omega
      have BR := Lib.hid hbr
      have hB2 := cellBelow hbr lB HB.out
      have CB := Lib.hid (prune1_any B m x wr hB2)
      clear hx hbr hB2
      by_cases ho : x.o ≤ m
      · have hdo : decide (x.o ≤ m) = true := decide_eq_true ho
        have HK := Lib.hid (show keepB m x = false from decide_eq_false (by omega))
        go_wp2_with fail
        refine CB.out.mono ?_
        rintro e w2 ⟨rfl, hb2⟩
        go_wp2
        go_ret
        exact ⟨.inr ⟨k, x, rfl, HX.out, HK.out, HF.out⟩, BR.out.trans (hb2.mono BR.out.size)⟩
      · have hdo : decide (x.o ≤ m) = false := decide_eq_false ho
        have HK := Lib.hid (show keepB m x = true from decide_eq_true (by omega))
        go_wp2_with fail
        refine CB.out.mono ?_
        rintro e w2 ⟨rfl, hb2⟩
        go_wp2
        go_roundw
        case rel =>
          refine ⟨k + 1, by omega, by go_num, fun q y hq hy => ?_, BR.out.trans (hb2.mono BR.out.size)⟩
          by_cases h : q < k
          · exact HF.out q y h hy
          · obtain rfl : q = k := by omega
            rw [HX.out] at hy
            injection hy with hy
            rw [← hy]; exact HK.out
        case measure => simp [intOf]; omega
    · obtain rfl : k = zs.length := by omega
      go_wp2
      go_ret
      exact ⟨.inl ⟨rfl, fun q y hy => HF.out q y (List.getElem?_eq_some_iff.1 hy).1 hy⟩, hbr⟩
end Go.Proofs.Ytacddgipcafdlaa
