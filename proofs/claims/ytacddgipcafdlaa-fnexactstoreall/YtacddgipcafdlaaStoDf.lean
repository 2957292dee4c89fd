/-
  Walks: whether a row is in a table; what went and came between two stamps.
-/
import Derived.Test.YtacddgipcafdlaaStoAt
namespace Go.Proofs.Ytacddgipcafdlaa
open Go.Shelf Go.RowKit Go.Lib Go.Sort

def rowEq (x y : RowV) : Bool := (x.k.toList == y.k.toList) && (x.t.toList == y.t.toList) && decide (x.f = y.f) && decide (x.e = y.e)
def hasR (l : List RowV) (r : RowV) : Bool := l.any fun x => rowEq x r
def besides (a b : List RowV) : List RowV := a.filter fun r => !(hasR b r)
theorem rowEq_iff {x y : RowV} : rowEq x y = true ↔ x = y := by
  constructor
  · intro h
    simp only [rowEq, Bool.and_eq_true, decide_eq_true_eq] at h
    obtain ⟨⟨⟨h1, h2⟩, h3⟩, h4⟩ := h
    have e1 := same_key.1 h1
    have e2 := same_key.1 h2
    cases x; cases y
    simp only at e1 e2 h3 h4
    subst e1 e2 h3 h4
    rfl
  · rintro rfl
    simp [rowEq]
theorem rowNe {x y : RowV} (h : ¬ x = y) : rowEq x y = false := by
  cases e : rowEq x y with
  | false => rfl
  | true => exact absurd (rowEq_iff.1 e) h
theorem hasR_take {l : List RowV} {r x : RowV} {k : Nat} (hx : l[k]? = some x) : hasR (l.take (k + 1)) r = (hasR (l.take k) r || rowEq x r) := by
  obtain ⟨hk, rfl⟩ := List.getElem?_eq_some_iff.1 hx
  unfold hasR
  rw [List.take_succ_eq_append_getElem hk, List.any_append]
  simp
theorem hasR_hit {l : List RowV} {r : RowV} (h : r ∈ l) : hasR l r = true := by
  unfold hasR
  rw [List.any_eq_true]
  exact ⟨r, h, rowEq_iff.2 rfl⟩
theorem hasR_iff {l : List RowV} {r : RowV} : hasR l r = true ↔ r ∈ l := by
  constructor
  · intro h
    unfold hasR at h
    rw [List.any_eq_true] at h
    obtain ⟨x, hx, e⟩ := h
    rw [rowEq_iff] at e
    subst e
    exact hx
  · exact hasR_hit
theorem besides_take {a b : List RowV} {k : Nat} {x : RowV} (hx : a[k]? = some x) : besides (a.take (k + 1)) b = besides (a.take k) b ++ (if hasR b x = true then [] else [x]) := by
  obtain ⟨hk, rfl⟩ := List.getElem?_eq_some_iff.1 hx
  unfold besides
  rw [List.take_succ_eq_append_getElem hk, List.filter_append]
  congr 1
  cases h : hasR b a[k] <;> simp [h]
theorem besides_len (a b : List RowV) : (besides a b).length ≤ a.length := List.length_filter_le _ _
theorem besides_all (a b : List RowV) : besides (a.take a.length) b = besides a b := by rw [List.take_length]

set_option maxRecDepth 100000 in
set_option maxHeartbeats 4000000 in
theorem rowIndex_any (B : Option Addr) (cap : Nat) (ys : List RowV) (r : RowV) (w : World) (hz : RowsA w B ys) (hl : ys.length ≤ 1048577) :
    Calls Try.prog 133 #[.slice B ys.length cap, .agg #[.string r.k, .string r.t, .int .i64 r.f, .int .i64 r.e]] w fun e w' => (∃ i : Int, e = .returned (.int .i64 i) ∧ (decide (0 ≤ i) = hasR ys r)) ∧ Below w.heap.size w w' := by
  go_enter Try.func133, Try.ntmps133
  go_wp2
  generalize hW : w.alloc _ = W0
  have s0 : W0.cell? ⟨w.heap.size, 0, none⟩ = some (.string r.k) := by rw [← hW]; simp [go_sem]
  have s1 : W0.cell? ⟨w.heap.size, 1, none⟩ = some (.string r.t) := by rw [← hW]; simp [go_sem]
  have s2 : W0.cell? ⟨w.heap.size, 2, none⟩ = some (.int .i64 r.f) := by rw [← hW]; simp [go_sem]
  have s3 : W0.cell? ⟨w.heap.size, 3, none⟩ = some (.int .i64 r.e) := by rw [← hW]; simp [go_sem]
  have ls : w.heap.size < W0.heap.size := by rw [← hW]; simp
  have B0 := Lib.hid (show Below w.heap.size w W0 from by rw [← hW]; exact (Below.refl _ _).alloc (Nat.le_refl _) _)
  have HZ := Lib.hid (hz.below B0.out)
  obtain ⟨G, hG⟩ : ∃ G, w.heap.size = G := ⟨_, rfl⟩
  rw [hG] at s0 s1 s2 s3 ls ⊢
  have S0 := Lib.hid s0
  have S1 := Lib.hid s1
  have S2 := Lib.hid s2
  have S3 := Lib.hid s3
  clear hW hG hz s0 s1 s2 s3
  go_loopw [8] (fun i wr => ∃ k : Nat, k ≤ ys.length ∧ i = .int .i64 k ∧ hasR (ys.take k) r = false ∧ Below W0.heap.size W0 wr) (fun i _ => ys.length - (intOf i).toNat)
  case atStart => exact ⟨0, Nat.zero_le _, rfl, rfl, Below.refl _ _⟩
  case round =>
    obtain ⟨k, hk, rfl, hf, hbr⟩ := hrel
    have HF := Lib.hid hf
    clear hf
    by_cases hlt : k < ys.length
    · obtain ⟨b, off, x, rfl, hb, hx, c0, c1, c2, c3⟩ := (HZ.out.below hbr).at_ hlt
      have g0 := cellBelow hbr ls S0.out
      have g1 := cellBelow hbr ls S1.out
      have g2 := cellBelow hbr ls S2.out
      have g3 := cellBelow hbr ls S3.out
      have HX := Lib.hid hx
      have hkz : (k : Int) < (ys.length : Int) := by omega
      have hkz0 : (0 : Int) ≤ (k : Int) := by omega
      clear hx
      cases h1 : (r.k.toList == x.k.toList)
      · have HN := Lib.hid (show hasR (ys.take (k + 1)) r = false from by rw [hasR_take HX.out, HF.out, Bool.false_or]; exact rowNe (fun e => by rw [e] at h1; simp at h1))
        go_wp2_with fail
        go_quiet (fail)
        go_wp2
        go_roundw
        case rel => exact ⟨k + 1, by omega, by go_num, HN.out, below_drewN hbr _⟩
        case measure => simp [intOf]; omega
      · cases h2 : (r.t.toList == x.t.toList)
        · have HN := Lib.hid (show hasR (ys.take (k + 1)) r = false from by rw [hasR_take HX.out, HF.out, Bool.false_or]; exact rowNe (fun e => by rw [e] at h2; simp at h2))
          go_wp2_with fail
          go_quiet (fail)
          go_wp2
          go_roundw
          case rel => exact ⟨k + 1, by omega, by go_num, HN.out, below_drewN hbr _⟩
          case measure => simp [intOf]; omega
        · by_cases h3 : r.f = x.f
          · by_cases h4 : r.e = x.e
            · have HIT := Lib.hid (show hasR ys r = true from hasR_hit (by
                have e := rowEq_iff.1 (show rowEq r x = true from by simp [rowEq, h1, h2, h3, h4])
                have := List.mem_of_getElem? HX.out
                rw [e]; exact this))
              go_wp2_with fail
              go_quiet (fail)
              go_wp2
              go_ret
              exact ⟨⟨_, rfl, by rw [HIT.out, decide_eq_true_eq]; omega⟩, B0.out.trans ((below_drewN hbr _).mono B0.out.size)⟩
            · have HN := Lib.hid (show hasR (ys.take (k + 1)) r = false from by rw [hasR_take HX.out, HF.out, Bool.false_or]; exact rowNe (fun e => h4 (by rw [e])))
              go_wp2_with fail
              go_quiet (fail)
              go_wp2
              go_roundw
              case rel => exact ⟨k + 1, by omega, by go_num, HN.out, below_drewN hbr _⟩
              case measure => simp [intOf]; omega
          · have HN := Lib.hid (show hasR (ys.take (k + 1)) r = false from by rw [hasR_take HX.out, HF.out, Bool.false_or]; exact rowNe (fun e => h3 (by rw [e])))
            go_wp2_with fail
            go_quiet (fail)
            go_wp2
            go_roundw
            case rel => exact ⟨k + 1, by omega, by go_num, HN.out, below_drewN hbr _⟩
            case measure => simp [intOf]; omega
    · obtain rfl : k = ys.length := by omega
      have HN := Lib.hid (show hasR ys r = false from by have := HF.out; rwa [List.take_length] at this)
      go_wp2
      go_ret
      exact ⟨⟨-1, rfl, by rw [HN.out]; decide⟩, B0.out.trans (hbr.mono B0.out.size)⟩

set_option maxRecDepth 100000 in
set_option maxHeartbeats 4000000 in
theorem l5Has_any (B : Option Addr) (cap : Nat) (ys : List RowV) (r : RowV) (w : World) (hz : RowsA w B ys) (hl : ys.length ≤ 1048577) :
    Calls Try.prog 123 #[.slice B ys.length cap, .agg #[.string r.k, .string r.t, .int .i64 r.f, .int .i64 r.e]] w fun e w' => e = .returned (.bool (hasR ys r)) ∧ Below w.heap.size w w' := by
  go_enter Try.func123, Try.ntmps123
  go_wp2
  generalize hW : w.alloc _ = W0
  have s0 : W0.cell? ⟨w.heap.size, 0, none⟩ = some (.string r.k) := by rw [← hW]; simp [go_sem]
  have s1 : W0.cell? ⟨w.heap.size, 1, none⟩ = some (.string r.t) := by rw [← hW]; simp [go_sem]
  have s2 : W0.cell? ⟨w.heap.size, 2, none⟩ = some (.int .i64 r.f) := by rw [← hW]; simp [go_sem]
  have s3 : W0.cell? ⟨w.heap.size, 3, none⟩ = some (.int .i64 r.e) := by rw [← hW]; simp [go_sem]
  have ls : w.heap.size < W0.heap.size := by rw [← hW]; simp
  have B0 := Lib.hid (show Below w.heap.size w W0 from by rw [← hW]; exact (Below.refl _ _).alloc (Nat.le_refl _) _)
  have HZ := Lib.hid (hz.below B0.out)
  obtain ⟨G, hG⟩ : ∃ G, w.heap.size = G := ⟨_, rfl⟩
  rw [hG] at s0 s1 s2 s3 ls ⊢
  have S0 := Lib.hid s0
  have S1 := Lib.hid s1
  have S2 := Lib.hid s2
  have S3 := Lib.hid s3
  clear hW hG hz s0 s1 s2 s3
  go_loopw [5] (fun i wr => ∃ k : Nat, k ≤ ys.length ∧ i = .int .i64 k ∧ hasR (ys.take k) r = false ∧ Below W0.heap.size W0 wr) (fun i _ => ys.length - (intOf i).toNat)
  case atStart => exact ⟨0, Nat.zero_le _, rfl, rfl, Below.refl _ _⟩
  case round =>
    obtain ⟨k, hk, rfl, hf, hbr⟩ := hrel
    have HF := Lib.hid hf
    clear hf
    by_cases hlt : k < ys.length
    · obtain ⟨b, off, x, rfl, hb, hx, c0, c1, c2, c3⟩ := (HZ.out.below hbr).at_ hlt
      have g0 := cellBelow hbr ls S0.out
      have g1 := cellBelow hbr ls S1.out
      have g2 := cellBelow hbr ls S2.out
      have g3 := cellBelow hbr ls S3.out
      have HX := Lib.hid hx
      have hkz : (k : Int) < (ys.length : Int) := by omega
      have hkz0 : (0 : Int) ≤ (k : Int) := by omega
      clear hx
      cases h1 : (x.k.toList == r.k.toList)
      · have HN := Lib.hid (show hasR (ys.take (k + 1)) r = false from by rw [hasR_take HX.out, HF.out, Bool.false_or]; exact rowNe (fun e => by rw [e] at h1; simp at h1))
        go_wp2_with fail
        go_quiet (fail)
        go_wp2
        go_roundw
        case rel => exact ⟨k + 1, by omega, by go_num, HN.out, below_drewN hbr _⟩
        case measure => simp [intOf]; omega
      · cases h2 : (x.t.toList == r.t.toList)
        · have HN := Lib.hid (show hasR (ys.take (k + 1)) r = false from by rw [hasR_take HX.out, HF.out, Bool.false_or]; exact rowNe (fun e => by rw [e] at h2; simp at h2))
          go_wp2_with fail
          go_quiet (fail)
          go_wp2
          go_roundw
          case rel => exact ⟨k + 1, by omega, by go_num, HN.out, below_drewN hbr _⟩
          case measure => simp [intOf]; omega
        · by_cases h3 : x.f = r.f
          · by_cases h4 : x.e = r.e
            · have HIT := Lib.hid (show hasR ys r = true from hasR_hit (by
                have e := rowEq_iff.1 (show rowEq x r = true from by simp [rowEq, h1, h2, h3, h4])
                have := List.mem_of_getElem? HX.out
                rw [← e]; exact this))
              go_wp2_with fail
              go_quiet (fail)
              go_wp2
              go_ret
              exact ⟨by rw [HIT.out]; rfl, B0.out.trans ((below_drewN hbr _).mono B0.out.size)⟩
            · have HN := Lib.hid (show hasR (ys.take (k + 1)) r = false from by rw [hasR_take HX.out, HF.out, Bool.false_or]; exact rowNe (fun e => h4 (by rw [e])))
              go_wp2_with fail
              go_quiet (fail)
              go_wp2
              go_roundw
              case rel => exact ⟨k + 1, by omega, by go_num, HN.out, below_drewN hbr _⟩
              case measure => simp [intOf]; omega
          · have HN := Lib.hid (show hasR (ys.take (k + 1)) r = false from by rw [hasR_take HX.out, HF.out, Bool.false_or]; exact rowNe (fun e => h3 (by rw [e])))
            go_wp2_with fail
            go_quiet (fail)
            go_wp2
            go_roundw
            case rel => exact ⟨k + 1, by omega, by go_num, HN.out, below_drewN hbr _⟩
            case measure => simp [intOf]; omega
    · obtain rfl : k = ys.length := by omega
      have HN := Lib.hid (show hasR ys r = false from by have := HF.out; rwa [List.take_length] at this)
      go_wp2
      go_ret
      exact ⟨by rw [HN.out]; rfl, B0.out.trans (hbr.mono B0.out.size)⟩

set_option maxHeartbeats 1000000 in
theorem contains_any (B : Option Addr) (cap : Nat) (ys : List RowV) (r : RowV) (w : World) (hz : RowsA w B ys) (hl : ys.length ≤ 1048577) :
    Calls Try.prog 101 #[.slice B ys.length cap, .agg #[.string r.k, .string r.t, .int .i64 r.f, .int .i64 r.e]] w fun e w' => e = .returned (.bool (hasR ys r)) ∧ Below w.heap.size w w' := by
  go_enter Try.func101, Try.ntmps101
  go_wp2_with fail
  generalize hW : w.alloc _ = W0
  have hB : Below w.heap.size w W0 := by rw [← hW]; exact (Below.refl _ _).alloc (Nat.le_refl _) _
  clear hW
  refine (rowIndex_any B cap ys r _ (hz.below hB) hl).mono ?_
  rintro e w1 ⟨⟨i, rfl, hi⟩, hb⟩
  have B1 := Lib.hid (hB.trans (hb.mono hB.size))
  have HI := Lib.hid hi
  clear hb hB hi
  by_cases h0 : 0 ≤ i
  · have HD := Lib.hid (show hasR ys r = true from by rw [← HI.out, decide_eq_true_eq]; exact h0)
    go_wp2
    go_ret
    exact ⟨by rw [HD.out]; simp, B1.out⟩
  · have HD := Lib.hid (show hasR ys r = false from by rw [← HI.out, decide_eq_false_iff_not]; exact h0)
    have h0' : i < 0 := by omega
    go_wp2
    go_ret
    exact ⟨by rw [HD.out]; simp; omega, B1.out⟩

set_option maxRecDepth 100000 in
set_option maxHeartbeats 4000000 in
theorem rowsBeside_any (A B : Option Addr) (cap cap' : Nat) (xs ys : List RowV) (w : World) (hx : RowsA w A xs) (hy : RowsA w B ys) (hlx : xs.length ≤ 1048577) (hly : ys.length ≤ 1048577) :
    Calls Try.prog 97 #[.slice A xs.length cap, .slice B ys.length cap'] w (GetsE rowC 4 72 w (besides xs ys)) := by
  obtain ⟨i0, hi, hz0, hz1, hz2⟩ := info_parts Try.infoR72
  have Hi := Lib.hid hi
  have Hz0 := Lib.hid hz0
  have Hz1 := Lib.hid hz1
  have Hz2 := Lib.hid hz2
  have HX := Lib.hid hx
  have HY := Lib.hid hy
  clear hi hz0 hz1 hz2 hx hy
  go_enter Try.func97, Try.ntmps97
  go_wp2
  go_loopw [5, 10] (fun v i wr => ∃ k : Nat, k ≤ xs.length ∧ i = .int .i64 k ∧ wr.ownsRow w.heap.size 72 4 v (besides (xs.take k) ys).length (flatOf rowC (besides (xs.take k) ys)) ∧ Below w.heap.size w wr) (fun _ i _ => xs.length - (intOf i).toNat)
  case atStart => exact ⟨0, Nat.zero_le _, rfl, World.ownsRow_nil _ _ _ _, Below.refl _ _⟩
  case round =>
    obtain ⟨k, hk, rfl, hown, hbr⟩ := hrel
    have Hown := Lib.hid hown
    clear hown
    have hlo : (besides (xs.take k) ys).length ≤ 1048577 := by have := besides_len (xs.take k) ys; rw [List.length_take] at this; omega
    have hs5 := hbr.size
    by_cases hlt : k < xs.length
    · obtain ⟨b, off, x, rfl, hb, hxx, c0, c1, c2, c3⟩ := (HX.out.below hbr).at_ hlt
      have HT := Lib.hid (besides_take (b := ys) hxx)
      obtain ⟨oo, hoo⟩ : ∃ oo, besides (xs.take k) ys = oo := ⟨_, rfl⟩
      rw [hoo] at Hown HT hlo
      clear hxx hoo
      have hkz : (k : Int) < (xs.length : Int) := by omega
      have hkz0 : (0 : Int) ≤ (k : Int) := by omega
      obtain ⟨lb, hlb⟩ : ∃ lb, hasR ys x = lb := ⟨_, rfl⟩
      have HLB := Lib.hid hlb
      rw [hlb] at HT
      clear hlb
      go_wp2_with fail
      generalize hW1 : wr.alloc _ = W1
      have v0 : W1.cell? ⟨wr.heap.size, 0, none⟩ = some (.string x.k) := by rw [← hW1]; simp [go_sem]
      have v1 : W1.cell? ⟨wr.heap.size, 1, none⟩ = some (.string x.t) := by rw [← hW1]; simp [go_sem]
      have v2 : W1.cell? ⟨wr.heap.size, 2, none⟩ = some (.int .i64 x.f) := by rw [← hW1]; simp [go_sem]
      have v3 : W1.cell? ⟨wr.heap.size, 3, none⟩ = some (.int .i64 x.e) := by rw [← hW1]; simp [go_sem]
      have hBW : Below wr.heap.size wr W1 := by rw [← hW1]; exact (Below.refl _ _).alloc (Nat.le_refl _) _
      have lV : wr.heap.size < W1.heap.size := by rw [← hW1]; simp
      refine (contains_any B cap' ys x _ ((HY.out.below hbr).below hBW) hly).mono ?_
      rw [HLB.out]
      rintro e w2 ⟨rfl, hb2⟩
      replace v0 := cellBelow hb2 lV v0
      replace v1 := cellBelow hb2 lV v1
      replace v2 := cellBelow hb2 lV v2
      replace v3 := cellBelow hb2 lV v3
      have b12 := hBW.trans (hb2.mono hBW.size)
      have O2 := Lib.hid (ownsKeep Hown.out b12)
      have hB2 := hbr.trans (b12.mono hbr.size)
      have hs2 := hB2.size
      have lV2 := Nat.lt_of_lt_of_le lV hb2.size
      obtain ⟨V, hV⟩ : ∃ V, wr.heap.size = V := ⟨_, rfl⟩
      rw [hV] at v0 v1 v2 v3 lV2 ⊢
      clear hW1 hBW hb2 b12 hbr lV hV c0 c1 c2 c3 hb Hown
      cases lb
      · rw [if_neg (by simp)] at HT
        go_wp2_with (at_builtin; refine wpList_append_own _ rfl _ _ 58 rfl w.heap.size 72 i0 _ 4 48 Try.underlying58 Hi.out Hz0.out Hz1.out Hz2.out rfl (by decide) _ oo.length (flatOf rowC oo) rfl (O2.out.alloc _) ⟨w2.heap.size, 0, none⟩ 1 1 [.string x.k, .string x.t, .int .i64 x.f, .int .i64 x.e] rfl rfl (newsFour (by simp) (by simp) (by simp) (by simp)) (by simp [Value.oneCell']) (by unfold maxLen; omega) (by omega) (by simp; omega) ?_; intro v' w3 hown' hgrow hnil; have O3 := Lib.hid hown'; have B3 := Lib.hid ((hB2.alloc hs2 _).grown hgrow (by simp; omega) (fun i e => by have := (O2.out.lt i e).1; omega)); clear hown' hgrow hnil)
        refine ⟨⟨k + 1, by omega, by simp, ?_, B3.out⟩, ?_⟩
        · rw [HT.out, flatOf_append, flatOf_one, show (oo ++ [x]).length = oo.length + 1 by simp]
          exact O3.out
        · simp [intOf]; omega
      · rw [if_pos rfl, List.append_nil] at HT
        have B2 := Lib.hid hB2
        clear hB2
        go_wp2
        go_roundw
        case rel => exact ⟨k + 1, by omega, by go_num, (by rw [HT.out]; exact O2.out), B2.out⟩
        case measure => simp [intOf]; omega
    · obtain rfl : k = xs.length := by omega
      rw [List.take_length] at Hown hlo
      obtain ⟨A4, c4, hv⟩ := owns_sliceE Hown.out
      subst hv
      go_wp2
      go_ret
      exact ⟨A4, c4, rfl, Hown.out, hbr⟩
end Go.Proofs.Ytacddgipcafdlaa
