/-
  Walks: slices of steps: equality, marks.
-/
import Derived.Test.YtjopilcpmmfclaaCombJ
import Derived.Test.YtjopilcpmmfclaaRowS
namespace Go.Proofs.Ytjopilcpmmfclaa
open Go.RowKit

/-- How many, and for how long. -/
structure StepV where
  m : Int
  f : Int
  e : Int
def stepC (x : StepV) : List Value := [.int .i64 x.m, .int .i64 x.f, .int .i64 x.e]
def step0 : StepV := ⟨0, 0, 0⟩
theorem stepC_len (x : StepV) : (stepC x).length = 3 := rfl
theorem stepC_one (x : StepV) : ∀ v ∈ stepC x, v.oneCell' = true := by intro v h; simp [stepC] at h; rcases h with rfl | rfl | rfl <;> rfl
/-- The slice holds these steps. -/
def StepsA (w : World) (A : Option Addr) (zs : List StepV) : Prop := ElAt stepC 3 w A zs
theorem StepsA.below {w w' : World} {A : Option Addr} {l : List StepV} (h : StepsA w A l) (hb : Below w.heap.size w w') : StepsA w' A l := ElAt.below h hb
theorem StepsA.at_ {w : World} {A : Option Addr} {l : List StepV} (h : StepsA w A l) {i : Nat} (hi : i < l.length) : ∃ b off x, A = some ⟨b, off, none⟩ ∧ b < w.heap.size ∧ l[i]? = some x ∧ w.cell? ⟨b, off + i * 3, none⟩ = some (.int .i64 x.m) ∧ w.cell? ⟨b, off + i * 3 + 1, none⟩ = some (.int .i64 x.f) ∧ w.cell? ⟨b, off + i * 3 + 2, none⟩ = some (.int .i64 x.e) := by
  obtain ⟨b, off, e, hlt, hc⟩ := h (by omega)
  have hx : l[i]? = some l[i] := List.getElem?_eq_getElem hi
  exact ⟨b, off, _, e, hlt, hx, hc i _ hx 0 _ rfl, hc i _ hx 1 _ rfl, hc i _ hx 2 _ rfl⟩

def joinSt (y x : StepV) : StepV := ⟨y.m, y.f, x.e⟩
def touchSt (y x : StepV) : Bool := decide (y.m = x.m) && decide (y.e = x.f)
def stepSt (out : List StepV) (x : StepV) : List StepV :=
  match out.getLast? with
  | none => [x]
  | some y => if touchSt y x = true then out.dropLast ++ [joinSt y x] else out ++ [x]
def joinSts (l : List StepV) : List StepV := l.foldl stepSt []
theorem stepSt_at (out : List StepV) (y x : StepV) : stepSt (out ++ [y]) x = if touchSt y x = true then out ++ [joinSt y x] else out ++ [y] ++ [x] := by
  unfold stepSt
  simp
theorem stepSt_len (out : List StepV) (x : StepV) : (stepSt out x).length ≤ out.length + 1 := by
  rcases List.eq_nil_or_concat out with h | ⟨o, y, h⟩
  · subst h; simp [stepSt]
  · rw [List.concat_eq_append] at h
    subst h
    rw [stepSt_at]
    by_cases h : touchSt y x = true
    · rw [if_pos h]; simp
    · rw [if_neg h]; simp
theorem joinSts_take {zs : List StepV} {k : Nat} {x : StepV} (hx : zs[k]? = some x) : joinSts (zs.take (k + 1)) = stepSt (joinSts (zs.take k)) x := by
  obtain ⟨hk, rfl⟩ := List.getElem?_eq_some_iff.1 hx
  unfold joinSts
  rw [List.take_succ_eq_append_getElem hk, List.foldl_append]
  rfl
theorem foldSt_len : ∀ (l out : List StepV), (l.foldl stepSt out).length ≤ out.length + l.length
  | [], out => by simp
  | x :: l, out => by
    have h1 := stepSt_len out x
    have h2 := foldSt_len l (stepSt out x)
    rw [List.foldl_cons, List.length_cons]
    omega
theorem joinSts_len (l : List StepV) : (joinSts l).length ≤ l.length := by
  have := foldSt_len l []
  rw [List.length_nil, Nat.zero_add] at this
  exact this

/-- What there is of a period. -/
def countOne (s : Int × Int) (ps _qs : List PairV) : List StepV := if ps.length = 0 then [] else [⟨ps.length, s.1, s.2⟩]
theorem countOne_len (s : Int × Int) (ps qs : List PairV) : (countOne s ps qs).length ≤ 1 := by
  unfold countOne
  split <;> simp
def countRaw (t : List RowV) (ss : List (Int × Int)) : List StepV := ss.flatMap fun s => countOne s (atR t s.1) []
def relCountL (t : List RowV) : List StepV := if relOk t = true then joinSts (countRaw t (stepsOf t)) else []
theorem countRaw_len (t : List RowV) : ∀ ss : List (Int × Int), (countRaw t ss).length ≤ ss.length
  | [] => by simp [countRaw]
  | s :: ss => by
    have h1 := countRaw_len t ss
    have h2 := countOne_len s (atR t s.1) []
    unfold countRaw at h1 ⊢
    rw [List.flatMap_cons, List.length_append, List.length_cons]
    omega
theorem countRaw_pair (t : List RowV) : (countRaw t (stepsOf t)).Pairwise fun x y => x.f < y.f := by
  unfold countRaw
  rw [List.pairwise_flatMap]
  constructor
  · intro s _
    unfold countOne
    split <;> simp
  · refine List.Pairwise.imp_of_mem ?_ (steps_pair (edges_pair t))
    intro s s' hs _ h x hx y hy
    have h1 := (step_bounds hs).1
    unfold countOne at hx hy
    by_cases e : (atR t s.1).length = 0
    · rw [if_pos e] at hx; cases hx
    · rw [if_neg e, List.mem_singleton] at hx
      by_cases e' : (atR t s'.1).length = 0
      · rw [if_pos e'] at hy; cases hy
      · rw [if_neg e', List.mem_singleton] at hy
        subst hx hy
        show s.1 < s'.1
        omega
/-- In order already: nothing else is in that order. -/
theorem sorted_sameT : ∀ (s l : List StepV), (s.Pairwise fun x y => ¬ y.f < x.f) → (l.Pairwise fun x y => x.f < y.f) → s.Perm l → s = l
  | [], l, _, _, hp => (List.nil_perm.1 hp).symm
  | x :: s, [], _, _, hp => absurd (List.Perm.length_eq hp) (by simp)
  | x :: s, y :: l, hs, hl, hp => by
    have hs' := List.pairwise_cons.1 hs
    have hl' := List.pairwise_cons.1 hl
    have hxy : x = y := by
      rcases List.mem_cons.1 (hp.subset (List.mem_cons_self ..)) with h | h
      · exact h
      · rcases List.mem_cons.1 (hp.symm.subset (List.mem_cons_self ..)) with h2 | h2
        · exact h2.symm
        · have h3 := hl'.1 x h
          have h4 := hs'.1 y h2
          omega
    subst hxy
    rw [sorted_sameT s l hs'.2 hl'.2 (List.Perm.cons_inv hp)]
theorem relCountL_len (t : List RowV) : (relCountL t).length ≤ 48 := by
  unfold relCountL
  by_cases h : relOk t = true
  · rw [if_pos h]
    have h1 := joinSts_len (countRaw t (stepsOf t))
    have h2 := countRaw_len t (stepsOf t)
    have h3 := stepsOf_len t
    have h4 := ((relOk_iff t).1 h).1
    omega
  · rw [if_neg h]; exact Nat.zero_le _
end Go.Proofs.Ytjopilcpmmfclaa
namespace Go.Proofs.Ytjopilcpmmfclaa
open Go.RowKit

set_option maxHeartbeats 1000000 in
theorem eqStep_same (x : StepV) (w : World) :
    Calls Try.prog 77 #[.agg #[.int .i64 x.m, .int .i64 x.f, .int .i64 x.e], .agg #[.int .i64 x.m, .int .i64 x.f, .int .i64 x.e]] w fun e w' => e = .returned (.bool true) ∧ Below w.heap.size w w' := by
  go_enter Try.func77, Try.ntmps77
  go_wp2_with fail
  generalize hW : (w.alloc _).alloc _ = W0
  have hB : Below w.heap.size w W0 := by rw [← hW]; exact ((Below.refl _ _).alloc (Nat.le_refl _) _).alloc (by simp) _
  clear hW
  refine (eqSpan_same x.f x.e _).mono ?_
  rintro e w1 ⟨rfl, hb⟩
  have HB := Lib.hid (hB.trans (hb.mono hB.size))
  clear hb hB
  go_wp2
  go_ret
  exact ⟨rfl, HB.out⟩
end Go.Proofs.Ytjopilcpmmfclaa
namespace Go.Proofs.Ytjopilcpmmfclaa
open Go.RowKit

set_option maxRecDepth 100000 in
set_option maxHeartbeats 1000000 in
theorem eqStepS_same (A B : Option Addr) (cap cap' : Nat) (zs : List StepV) (w : World) (hz : StepsA w A zs) (hz' : StepsA w B zs) (hl : zs.length ≤ maxLen) :
    Calls Try.prog 32 #[.slice A zs.length cap, .slice B zs.length cap'] w fun e w' => e = .returned (.bool true) ∧ Below w.heap.size w w' := by
  unfold maxLen at hl
  have HZ := Lib.hid hz
  have HZ' := Lib.hid hz'
  clear hz hz'
  go_enter Try.func32, Try.ntmps32
  go_wp2
  go_loopw [5] (fun i wr => ∃ k : Nat, k ≤ zs.length ∧ i = .int .i64 k ∧ Below w.heap.size w wr) (fun i _ => zs.length - (intOf i).toNat)
  case atStart => exact ⟨0, Nat.zero_le _, rfl, Below.refl _ _⟩
  case round =>
    obtain ⟨k, hk, rfl, hbr⟩ := hrel
    by_cases hlt : k < zs.length
    · obtain ⟨b, off, x, rfl, hb, hx, c0, c1, c2⟩ := (HZ.out.below hbr).at_ hlt
      obtain ⟨b', off', x', rfl, hb', hx', d0, d1, d2⟩ := (HZ'.out.below hbr).at_ hlt
      obtain rfl : x' = x := by rw [hx] at hx'; injection hx' with h; exact h.symm
      clear hx hx'
      go_wp2_with fail
      refine wp_region_later (by kernel_rfl) (by kernel_rfl) ?_
      intro f hf1 hf2 hfc
      repeat (go_big_quiet_step ((go_at_call 77; exact calls_later hf1 hf2 (eqStep_same _ _))))
      refine wpQuiet_nil ?_
      rintro _ ⟨v, rfl⟩
      have Hv := Lib.hid (hbr.trans ((hf1.out v).mono hbr.size))
      clear hfc
      go_wp2
      go_roundw
      case rel => exact ⟨k + 1, by omega, by go_num, Hv.out⟩
      case measure => simp [intOf]; omega
    · go_wp2
      go_ret
      exact ⟨rfl, hbr⟩

def stepMk (c : Int) : StepV := ⟨c, c + 1, c + 2⟩

set_option maxRecDepth 100000 in
set_option maxHeartbeats 2000000 in
theorem markStepS_some (g cap base : Nat) (zs : List StepV) (k0 : Int) (w : World) (h : w.ownsRow base 77 3 (.slice (some ⟨g, 0, none⟩) zs.length cap) zs.length (flatOf stepC zs)) (hk : 1 ≤ k0) (hk' : k0 ≤ 1000000000) (hl : zs.length ≤ 4194304) :
    Calls Try.prog 33 #[.slice (some ⟨g, 0, none⟩) zs.length cap, .int .i64 k0] w fun e w' => e = .returned (.int .i64 (k0 + 3 * zs.length)) ∧ w'.ownsRow base 77 3 (.slice (some ⟨g, 0, none⟩) zs.length cap) zs.length (flatOf stepC (markE stepMk 3 k0 zs.length)) ∧ w.grownBy w' (some g) := by
  have H := Lib.hid h
  clear h
  go_enter Try.func33, Try.ntmps33
  go_wp2
  go_loopw [1, 5] (fun kv i wr => ∃ j : Nat, j ≤ zs.length ∧ i = .int .i64 j ∧ kv = .int .i64 (k0 + 3 * (j : Int)) ∧ wr.ownsRow base 77 3 (.slice (some ⟨g, 0, none⟩) zs.length cap) zs.length (flatOf stepC (markToE stepMk 3 zs k0 j)) ∧ w.grownBy wr (some g)) (fun _ i _ => zs.length - (intOf i).toNat)
  case atStart => exact ⟨0, Nat.zero_le _, rfl, by simp, by rw [markToE_zero]; exact H.out, ⟨rfl, rfl, rfl, Nat.le_refl _, fun k hk _ => rfl⟩⟩
  case round =>
    obtain ⟨j, hj, rfl, rfl, hown, hgr⟩ := hrel
    have Hown := Lib.hid hown
    have Hgr := Lib.hid hgr
    clear hown hgr
    by_cases hlt : j < zs.length
    · have Hget := Lib.hid (markToE_get (mk := stepMk) (d := 3) zs k0 j hlt)
      have Hset := Lib.hid (markToE_set (mk := stepMk) (d := 3) zs k0 j hlt)
      have Hlen := Lib.hid (markToE_length (mk := stepMk) (d := 3) zs k0 j hj)
      have hgl : g < wr.heap.size := (Hown.out.lt g rfl).2
      have e0 : (wr : World).cell? ⟨g, j * 3, none⟩ = some (.int .i64 zs[j].m) := by
        rw [Hown.out.cellAt (j * 3) (by omega)]; exact flatOf_get stepC_len _ j _ 0 Hget.out (by omega)
      have f0 := Hown.out.frozenAt (j * 3)
      have e1 : (wr : World).cell? ⟨g, j * 3 + 1, none⟩ = some (.int .i64 zs[j].f) := by
        rw [Hown.out.cellAt (j * 3 + 1) (by omega)]; exact flatOf_get stepC_len _ j _ 1 Hget.out (by omega)
      have f1 := Hown.out.frozenAt (j * 3 + 1)
      have e2 : (wr : World).cell? ⟨g, j * 3 + 2, none⟩ = some (.int .i64 zs[j].e) := by
        rw [Hown.out.cellAt (j * 3 + 2) (by omega)]; exact flatOf_get stepC_len _ j _ 2 Hget.out (by omega)
      have f2 := Hown.out.frozenAt (j * 3 + 2)
      have s0 := Hown.out.stored (j * 3) (.int .i64 (k0 + 3 * (j : Int)))
      have P0 := Lib.hid s0.1
      have Q0 := Lib.hid (grownTrans Hgr.out s0.2)
      clear s0
      have s1 := P0.out.stored (j * 3 + 1) (.int .i64 (k0 + 3 * (j : Int) + 1))
      have P1 := Lib.hid s1.1
      have Q1 := Lib.hid (grownTrans Q0.out s1.2)
      clear s1
      have s2 := P1.out.stored (j * 3 + 2) (.int .i64 (k0 + 3 * (j : Int) + 2))
      have P2 := Lib.hid s2.1
      have Q2 := Lib.hid (grownTrans Q1.out s2.2)
      clear s2
      have hset : (((flatOf stepC (markToE stepMk 3 zs k0 j)).set (j * 3) (.int .i64 (k0 + 3 * (j : Int)))).set (j * 3 + 1) (.int .i64 (k0 + 3 * (j : Int) + 1))).set (j * 3 + 2) (.int .i64 (k0 + 3 * (j : Int) + 2)) = flatOf stepC (markToE stepMk 3 zs k0 (j + 1)) := by
        have := flatOf_set stepC_len (stepMk (k0 + 3 * (j : Int))) (markToE stepMk 3 zs k0 j) j (by rw [Hlen.out]; omega)
        rw [Hset.out] at this
        skip
        exact this
      have HS := Lib.hid (show ((((((wr : World).setCell ⟨g, j * 3, none⟩ (.int .i64 (k0 + 3 * (j : Int)))) : World).setCell ⟨g, j * 3 + 1, none⟩ (.int .i64 (k0 + 3 * (j : Int) + 1))) : World).setCell ⟨g, j * 3 + 2, none⟩ (.int .i64 (k0 + 3 * (j : Int) + 2))).ownsRow base 77 3 (.slice (some ⟨g, 0, none⟩) zs.length cap) zs.length (flatOf stepC (markToE stepMk 3 zs k0 (j + 1))) from by rw [← hset]; exact P2.out)
      have HG := Lib.hid Q2.out
      clear hset
      go_wp2
      go_roundw
      case rel => exact ⟨j + 1, by omega, by go_num, by go_num, (by first | exact HS.out | (have := HS.out; simp only [Int.add_assoc, Nat.add_assoc, Int.one_mul] at this ⊢; exact this)), (by first | exact HG.out | (have := HG.out; simp only [Int.add_assoc, Nat.add_assoc, Int.one_mul] at this ⊢; exact this))⟩
      case measure => simp [intOf]; omega
    · obtain rfl : j = zs.length := by omega
      go_wp2
      go_ret
      have := Hown.out
      rw [markToE_all] at this
      exact ⟨rfl, this, Hgr.out⟩

set_option maxHeartbeats 1000000 in
theorem markStepS_nil (k0 : Int) (w : World) : Calls Try.prog 33 #[.slice none 0 0, .int .i64 k0] w fun e w' => e = .returned (.int .i64 k0) ∧ w' = w := by
  go_enter Try.func33, Try.ntmps33
  go_wp2
  go_loopw [1, 5] (fun kv i wr => i = .int .i64 0 ∧ kv = .int .i64 k0 ∧ wr = w) (fun _ i _ => 0)
  case atStart => exact ⟨rfl, rfl, rfl⟩
  case round =>
    obtain ⟨rfl, rfl, rfl⟩ := hrel
    go_wp2
    go_ret
    exact ⟨rfl, rfl⟩

theorem markStepS_any (base : Nat) (v : Value) (zs : List StepV) (k0 : Int) (w : World) (h : w.ownsRow base 77 3 v zs.length (flatOf stepC zs)) (hk : 1 ≤ k0) (hk' : k0 ≤ 1000000000) (hl : zs.length ≤ 4194304) :
    Calls Try.prog 33 #[v, .int .i64 k0] w fun e w' => e = .returned (.int .i64 (k0 + 3 * zs.length)) ∧ w'.ownsRow base 77 3 v zs.length (flatOf stepC (markE stepMk 3 k0 zs.length)) ∧ w.grownBy w' v.ownBlock := by
  rcases h.2 with ⟨hv, h0⟩ | ⟨g, c, cur, hv, _⟩
  · obtain rfl : zs = [] := List.length_eq_zero_iff.1 h0
    subst hv
    exact (markStepS_nil k0 w).mono fun e w' ⟨h1, h2⟩ => by subst h2; exact ⟨by simpa using h1, h, ⟨rfl, rfl, rfl, Nat.le_refl _, fun k hk _ => rfl⟩⟩
  · subst hv
    exact markStepS_some g c base zs k0 w h hk hk' hl

set_option maxRecDepth 100000 in
set_option maxHeartbeats 2000000 in
theorem heldStepS_any (A : Option Addr) (n cap : Nat) (k0 : Int) (w : World) (hz : StepsA w A (markE stepMk 3 k0 n)) (hk : 1 ≤ k0) (hk' : k0 ≤ 1000000000) (hl : n ≤ 4194304) :
    Calls Try.prog 34 #[.slice A n cap, .int .i64 k0] w fun e w' => e = .returned (.int .i64 (k0 + 3 * n)) ∧ Below w.heap.size w w' := by
  have HZ := Lib.hid hz
  clear hz
  go_enter Try.func34, Try.ntmps34
  go_wp2
  go_loopw [1, 5] (fun kv i wr => ∃ j : Nat, j ≤ n ∧ i = .int .i64 j ∧ kv = .int .i64 (k0 + 3 * (j : Int)) ∧ Below w.heap.size w wr) (fun _ i _ => n - (intOf i).toNat)
  case atStart => exact ⟨0, Nat.zero_le _, rfl, by simp, Below.refl _ _⟩
  case round =>
    obtain ⟨j, hj, rfl, rfl, hbr⟩ := hrel
    by_cases hlt : j < n
    · obtain ⟨b, off, x, rfl, hb, hx, c0, c1, c2⟩ := (HZ.out.below hbr).at_ (show j < (markE stepMk 3 k0 n).length by rw [markE_length]; exact hlt)
      rw [markE_get k0 n j hlt] at hx
      injection hx with hx
      subst hx
      have d0 : wr.cell? ⟨b, off + j * 3, none⟩ = some (.int .i64 (k0 + 3 * (j : Int))) := c0
      have d1 : wr.cell? ⟨b, off + j * 3 + 1, none⟩ = some (.int .i64 (k0 + 3 * (j : Int) + 1)) := c1
      have d2 : wr.cell? ⟨b, off + j * 3 + 2, none⟩ = some (.int .i64 (k0 + 3 * (j : Int) + 2)) := c2
      have B0 := Lib.hid hbr
      clear hbr c0 c1 c2
      go_wp2
      go_roundw
      case rel => exact ⟨j + 1, by omega, by go_num, by go_num, B0.out⟩
      case measure => simp [intOf]; omega
    · obtain rfl : j = n := by omega
      go_wp2
      go_ret
      exact ⟨rfl, hbr⟩
end Go.Proofs.Ytjopilcpmmfclaa
