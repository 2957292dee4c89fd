/-
  Walks: the steps of all periods in which two tables do not change.
-/
import Derived.Test.YtphinkcfmdnpfaaCombW
import Derived.Test.YtphinkcfmdnpfaaStepD
namespace Go.Proofs.Ytphinkcfmdnpfaa
open Go.Shelf Go.RowKit Go.Lib Go.Sort

theorem Try.infoSt31 : (Try.prog.info? 31).map (fun i => (i.zero, i.size, i.bytes)) = some (some (.agg #[.int .i64 0, .int .i64 0, .int .i64 0]), 3, 24) := by kernel_rfl
/-- What a function value makes of a period and two snapshots. -/
def OneT (g : Nat) (cb : Array Value) (F : Int × Int → List PairV → List PairV → List StepV) (w0 : World) : Prop :=
  ∀ (W : World) (p q : Int) (A B : Option Addr) (ca cc : Nat) (ps qs : List PairV), Below w0.heap.size w0 W → PairsA W A ps → PairsA W B qs → (A = none → ca = 0) → (B = none → cc = 0) → ps.length ≤ 24 → qs.length ≤ 24 → Small ps → Small qs →
    Calls Try.prog g (#[.agg #[.int .i64 p, .int .i64 q], .slice A ps.length ca, .slice B qs.length cc] ++ cb) W (GetsE stepC 3 31 W (F (p, q) ps qs))
/-- What the walk makes of a list of periods. -/
def walkLs (F : Int × Int → List PairV → List PairV → List StepV) (a b : List RowV) (ss : List (Int × Int)) : List StepV := ss.flatMap fun s => F s (atR a s.1) (atR b s.1)
theorem walkLs_take {F : Int × Int → List PairV → List PairV → List StepV} {a b : List RowV} {ss : List (Int × Int)} {k : Nat} (hk : k < ss.length) : walkLs F a b (ss.take (k + 1)) = walkLs F a b (ss.take k) ++ F (ss.getD k (0, 0)) (atR a (ss.getD k (0, 0)).1) (atR b (ss.getD k (0, 0)).1) := by
  unfold walkLs
  rw [List.take_succ_eq_append_getElem hk, List.flatMap_append, show ss.getD k (0, 0) = ss[k] from by simp [List.getD, hk]]
  simp
theorem walkLs_len {F : Int × Int → List PairV → List PairV → List StepV} {a b : List RowV} (ha : a.length ≤ 24) (hb : b.length ≤ 24) (hF : ∀ s ps qs, ps.length ≤ 24 → qs.length ≤ 24 → (F s ps qs).length ≤ 48) : ∀ ss : List (Int × Int), (walkLs F a b ss).length ≤ ss.length * 48
  | [] => by simp [walkLs]
  | s :: ss => by
    have h1 := walkLs_len ha hb hF ss
    have h2 := hF s (atR a s.1) (atR b s.1) (Nat.le_trans (at_len ..) ha) (Nat.le_trans (at_len ..) hb)
    unfold walkLs at h1 ⊢
    rw [List.flatMap_cons, List.length_append, List.length_cons, Nat.add_mul]
    omega

set_option maxRecDepth 100000 in
set_option maxHeartbeats 4000000 in
theorem walkS_any (A B : Option Addr) (ca cc : Nat) (a b : List RowV) (g : Nat) (cb : Array Value) (F : Int × Int → List PairV → List PairV → List StepV) (w : World) (eg : ∀ args w, (callFunc g args).run Try.prog w = .ok (.enter g args) w)
    (hx : RowsA w A a) (hy : RowsA w B b) (hA : A = none → ca = 0) (hB : B = none → cc = 0) (hla : a.length ≤ 24) (hlb : b.length ≤ 24) (hsa : ∀ x ∈ a, x.k.size ≤ 9 ∧ x.t.size ≤ 9) (hsb : ∀ x ∈ b, x.k.size ≤ 9 ∧ x.t.size ≤ 9)
    (hC : OneT g cb F w) (hFl : ∀ s ps qs, ps.length ≤ 24 → qs.length ≤ 24 → (F s ps qs).length ≤ 48) :
    Calls Try.prog 60 #[.slice A a.length ca, .slice B b.length cc, .func (.func g) #[] cb] w (GetsE stepC 3 31 w (walkLs F a b (stepsOf (a ++ b)))) := by
  obtain ⟨i0, hi, hz0, hz1, hz2⟩ := info_parts Try.infoSt31
  have Hi := Lib.hid hi
  have Hz0 := Lib.hid hz0
  have Hz1 := Lib.hid hz1
  have Hz2 := Lib.hid hz2
  have HX := Lib.hid hx
  have HY := Lib.hid hy
  have HA := Lib.hid hA
  have HB := Lib.hid hB
  have HSA := Lib.hid hsa
  have HSB := Lib.hid hsb
  have HC := Lib.hid hC
  have HF := Lib.hid hFl
  have BW0 := Lib.hid ((Below.refl w.heap.size w).alloc (Nat.le_refl _) (.cells #[.slice A a.length ca, .slice B b.length cc] 23))
  have hsl := stepsOf_len (a ++ b)
  rw [List.length_append] at hsl
  have hlab : (a ++ b).length ≤ 48 := by rw [List.length_append]; omega
  obtain ⟨ab, hab⟩ : ∃ ab, a ++ b = ab := ⟨_, rfl⟩
  have HAB := Lib.hid hab
  rw [hab] at hsl hlab ⊢
  obtain ⟨ss, hss⟩ : ∃ ss, stepsOf ab = ss := ⟨_, rfl⟩
  have HSS := Lib.hid hss
  rw [hss] at hsl ⊢
  replace hsl : ss.length ≤ 96 := by omega
  clear hi hz0 hz1 hz2 hx hy hA hB hsa hsb hC hFl hss hab
  go_enter Try.func60, Try.ntmps60
  go_wp2_with (first
    | (go_at_call 115; refine (concatRow_any w.heap.size 2 A B ca cc a b _ (by simp) (by simp) (HX.out.below BW0.out) (HY.out.below BW0.out) HA.out HB.out (by omega) (by omega)).mono ?_; rw [HAB.out]; rintro e w1 ⟨A1, c1, rfl, ho, hb⟩; have R1 := Lib.hid (show RowsA w1 A1 ab from el_of_owns rowC_len ho); have B1 := Lib.hid (BW0.out.trans (hb.mono BW0.out.size)); clear ho hb)
    | (go_at_call 114; refine (steady_any A1 c1 ab _ R1.out (by omega)).mono ?_; rw [HSS.out]; rintro e w2 ⟨A2, c2, rfl, ho, hb⟩; have P2 := Lib.hid (owns_spans ho); have B2 := Lib.hid (B1.out.trans (hb.mono B1.out.size)); clear ho hb))
  go_loopw [7, 16] (fun v i wr => ∃ k : Nat, k ≤ ss.length ∧ i = .int .i64 k ∧ wr.ownsRow w2.heap.size 31 3 v (walkLs F a b (ss.take k)).length (flatOf stepC (walkLs F a b (ss.take k))) ∧ Below w2.heap.size w2 wr) (fun _ i _ => ss.length - (intOf i).toNat)
  case atStart => exact ⟨0, Nat.zero_le _, rfl, World.ownsRow_nil _ _ _ _, Below.refl _ _⟩
  case round =>
    obtain ⟨k, hk, rfl, hown, hbr⟩ := hrel
    have Hown := Lib.hid hown
    clear hown
    by_cases hlt : k < ss.length
    · obtain ⟨b0, off, rfl, hcells⟩ := P2.out (by omega)
      obtain ⟨d0, d1⟩ := hcells k hlt
      have hb0 : b0 < w2.heap.size := World.block_lt_of_cell? _ _ d0
      have HT := Lib.hid (walkLs_take (F := F) (a := a) (b := b) hlt)
      obtain ⟨s, hs⟩ : ∃ s, ss.getD k (0, 0) = s := ⟨_, rfl⟩
      rw [hs] at d0 d1 HT
      obtain ⟨p, q⟩ := s
      have hlo := walkLs_len hla hlb HF.out (ss.take k)
      replace hlo : (walkLs F a b (ss.take k)).length ≤ 4608 := by rw [List.length_take] at hlo; omega
      have hfl := HF.out (p, q) (atR a p) (atR b p) (Nat.le_trans (at_len ..) hla) (Nat.le_trans (at_len ..) hlb)
      obtain ⟨oo, hoo⟩ : ∃ oo, walkLs F a b (ss.take k) = oo := ⟨_, rfl⟩
      rw [hoo] at Hown HT hlo
      obtain ⟨ms, hms⟩ : ∃ ms, F (p, q) (atR a p) (atR b p) = ms := ⟨_, rfl⟩
      have HMS := Lib.hid hms
      rw [hms] at hfl
      replace HT := Lib.hid (show walkLs F a b (ss.take (k + 1)) = oo ++ ms from by rw [HT.out]; show oo ++ F (p, q) (atR a p) (atR b p) = _; rw [hms])
      replace d0 := cellBelow hbr hb0 d0
      replace d1 := cellBelow hbr hb0 d1
      have hs5 := hbr.size
      have hkz : (k : Int) < (ss.length : Int) := by omega
      have hkz0 : (0 : Int) ≤ (k : Int) := by omega
      have hb2 : b0 < wr.heap.size := by omega
      clear hcells hs hoo hms
      go_upto_region 5 with fail
      generalize hW : wr.alloc _ = W1
      have v0 : W1.cell? ⟨wr.heap.size, 0, none⟩ = some (.int .i64 p) := by rw [← hW]; simp [go_sem]
      have v1 : W1.cell? ⟨wr.heap.size, 1, none⟩ = some (.int .i64 q) := by rw [← hW]; simp [go_sem]
      have lV : wr.heap.size < W1.heap.size := by rw [← hW]; simp
      have O1 := Lib.hid (show W1.ownsRow w2.heap.size 31 3 u7 oo.length (flatOf stepC oo) from by rw [← hW]; exact Hown.out.alloc _)
      have bW : Below w2.heap.size w2 W1 := by rw [← hW]; exact hbr.alloc hs5 _
      obtain ⟨V, hV⟩ : ∃ V, wr.heap.size = V := ⟨_, rfl⟩
      rw [hV] at v0 v1 lV ⊢
      have lV2 : w2.heap.size ≤ V := by omega
      have aV : u7.ownBlock ≠ some V := fun e => by have := (Hown.out.lt V e).2; omega
      clear hW hV d0 d1 Hown hbr hs5 hb2
      go_region_held3 (fun w' => w'.cell? ⟨V, 0, none⟩ = some (.int .i64 p) ∧ w'.cell? ⟨V, 1, none⟩ = some (.int .i64 q) ∧ V < w'.heap.size ∧ Below w2.heap.size w2 w')
        (((try go_split_ands); refine ⟨?cc90, ?cc91, ?sz9, ?bl9⟩; (case cc90 => (repeat (first | with_reducible assumption | with_reducible refine cell_below hb (by assumption) ?_ | with_reducible refine cell_drew ?_ | (rw [hgrow.cell_far _ (by assumption) (Ne.symm aV)])))); (case cc91 => (repeat (first | with_reducible assumption | with_reducible refine cell_below hb (by assumption) ?_ | with_reducible refine cell_drew ?_ | (rw [hgrow.cell_far _ (by assumption) (Ne.symm aV)])))); (case sz9 => (first | with_reducible assumption | exact Nat.lt_of_lt_of_le (by assumption) hb.size | exact Nat.lt_of_lt_of_le (by assumption) hgrow.size | (show V < W1.heap.size; assumption))); (case bl9 => (repeat (first | with_reducible assumption | with_reducible refine Below.drew ?_ | with_reducible refine Below.trans ?_ (hb.mono (Below.size (by assumption))) | with_reducible refine Below.grown ?_ hgrow (Below.size (by assumption)) (fun i e => (O1.out.lt i e).1))))))
        (first
          | (go_at_call 69; (try go_split_ands); (with_reducible refine (snapR_any A ca a p _ (HX.out.below (B2.out.trans (Below.mono (by assumption) B2.out.size))) hla).mono ?_); rintro e wA ⟨AA, cA, rfl, hoA, hb⟩; have OA := Lib.hid hoA; have HBA := Lib.hid hb; clear hoA)
          | (go_at_call 69; (try go_split_ands); (with_reducible refine (snapR_any B cc b p _ (HY.out.below (B2.out.trans (Below.mono (by assumption) B2.out.size))) hlb).mono ?_); rintro e wB ⟨AB, cB, rfl, hoB, hb⟩; have OB := Lib.hid hoB; have HBB := Lib.hid hb; clear hoB)
          | (go_at_fn g; (try go_split_ands); refine (HC.out _ p q AA AB cA cB (atR a p) (atR b p) (B2.out.trans (Below.mono (by assumption) B2.out.size)) (by first | exact el_of_owns pairC_len (ownsKeep OA.out HBB.out) | exact el_of_owns pairC_len OA.out) (by first | exact el_of_owns pairC_len OB.out | exact el_of_owns pairC_len (ownsKeep OB.out HBA.out)) (owns_nilE OA.out) (owns_nilE OB.out) (Nat.le_trans (at_len ..) hla) (Nat.le_trans (at_len ..) hlb) (at_small HSA.out p) (at_small HSB.out p)).mono ?_; rw [HMS.out]; rintro e wF ⟨AF, cF, rfl, hoF, hb⟩; have OF := Lib.hid hoF; have HBF := Lib.hid hb; clear hoF)
          | ((try go_split_ands); refine step_append_srcE stepC_len stepC_one (by omega) _ (by rfl) _ _ _ (by rfl) w2.heap.size 31 i0 _ 24 Try.underlying25 Hi.out Hz0.out Hz1.out Hz2.out rfl u7 oo.length oo (by rfl) (by first | exact ownsKeep (ownsKeep (ownsKeep (World.ownsRow.drew O1.out) HBA.out) HBB.out) HBF.out | exact ownsKeep (ownsKeep (ownsKeep (World.ownsRow.drew O1.out) HBB.out) HBA.out) HBF.out) (.slice AF ms.length cF) ms (by rfl) (srcE_of stepC_len (by omega) (el_of_owns stepC_len OF.out) (owns_nilE OF.out)) (by unfold maxLen; omega) (by omega) (Below.size (by assumption)) ?_; intro v' w4 hown' hgrow))
      all_goals (rename_i hH; obtain ⟨-, -, -, hBz⟩ := hH; have B4 := Lib.hid hBz; have O4 := Lib.hid (show w4.ownsRow w2.heap.size 31 3 v' (oo ++ ms).length (flatOf stepC (oo ++ ms)) from by rw [List.length_append]; exact hown'); clear hown' hgrow hBz hb)
      all_goals go_wp2
      all_goals go_roundw
      all_goals first
        | (case rel => exact ⟨k + 1, by omega, by go_num, by rw [HT.out]; exact O4.out, B4.out⟩)
        | (case measure => simp [intOf]; omega)
    · obtain rfl : k = ss.length := by omega
      rw [List.take_length] at Hown
      obtain ⟨A', c', hv⟩ := owns_sliceE Hown.out
      subst hv
      have BZ := Lib.hid (B2.out.trans (hbr.mono B2.out.size))
      have OZ := Lib.hid (ownsBase (base' := w.heap.size) Hown.out B2.out.size)
      clear hbr
      go_wp2
      go_ret
      exact ⟨A', c', rfl, OZ.out, BZ.out⟩
end Go.Proofs.Ytphinkcfmdnpfaa
