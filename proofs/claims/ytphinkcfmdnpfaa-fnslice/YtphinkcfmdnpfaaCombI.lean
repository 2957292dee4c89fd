/-
  Walks: tables out of tables, as the program makes them.
-/
import Derived.Test.YtphinkcfmdnpfaaCombS
import Derived.Test.YtphinkcfmdnpfaaConcP
import Derived.Test.YtphinkcfmdnpfaaStea
import Derived.Laws.EntriesVeiled
namespace Go.Proofs.Ytphinkcfmdnpfaa
open Go.Shelf Go.RowKit Go.Lib Go.Sort

theorem snapR_any (A : Option Addr) (cap : Nat) (zs : List RowV) (c : Int) (w : World) (hz : RowsA w A zs) (hlen : zs.length ≤ 24) :
    Calls Try.prog 69 #[.slice A zs.length cap, .int .i64 c] w (GetsE pairC 2 44 w (atR zs c)) := by
  have h := snapshot_any A cap zs c w hz (by omega)
  rwa [atTo_R] at h
theorem at_small {zs : List RowV} (h : ∀ x ∈ zs, x.k.size ≤ 9 ∧ x.t.size ≤ 9) (c : Int) : Small (atR zs c) := fun p hp => by
  unfold atR at hp
  obtain ⟨x, hx, rfl⟩ := List.mem_map.1 hp
  exact h x (List.mem_filter.1 hx).1
/-- What the walk makes of a list of periods. -/
def walkL (F : Int × Int → List PairV → List PairV → List RowV) (a b : List RowV) (ss : List (Int × Int)) : List RowV := ss.flatMap fun s => F s (atR a s.1) (atR b s.1)
theorem walkL_take {F : Int × Int → List PairV → List PairV → List RowV} {a b : List RowV} {ss : List (Int × Int)} {k : Nat} (hk : k < ss.length) : walkL F a b (ss.take (k + 1)) = walkL F a b (ss.take k) ++ F (ss.getD k (0, 0)) (atR a (ss.getD k (0, 0)).1) (atR b (ss.getD k (0, 0)).1) := by
  unfold walkL
  rw [List.take_succ_eq_append_getElem hk, List.flatMap_append, show ss.getD k (0, 0) = ss[k] from by simp [List.getD, hk]]
  simp
theorem walkL_len {F : Int × Int → List PairV → List PairV → List RowV} {a b : List RowV} (ha : a.length ≤ 24) (hb : b.length ≤ 24) (hF : ∀ s ps qs, ps.length ≤ 24 → qs.length ≤ 24 → (F s ps qs).length ≤ 48) : ∀ ss : List (Int × Int), (walkL F a b ss).length ≤ ss.length * 48
  | [] => by simp [walkL]
  | s :: ss => by
    have h1 := walkL_len ha hb hF ss
    have h2 := hF s (atR a s.1) (atR b s.1) (Nat.le_trans (at_len ..) ha) (Nat.le_trans (at_len ..) hb)
    unfold walkL at h1 ⊢
    rw [List.flatMap_cons, List.length_append, List.length_cons, Nat.add_mul]
    omega

set_option maxRecDepth 100000 in
set_option maxHeartbeats 4000000 in
theorem walkR_any (A B : Option Addr) (ca cc : Nat) (a b : List RowV) (g : Nat) (cb : Array Value) (F : Int × Int → List PairV → List PairV → List RowV) (w : World) (eg : ∀ args w, (callFunc g args).run Try.prog w = .ok (.enter g args) w)
    (hx : RowsA w A a) (hy : RowsA w B b) (hA : A = none → ca = 0) (hB : B = none → cc = 0) (hla : a.length ≤ 24) (hlb : b.length ≤ 24) (hsa : ∀ x ∈ a, x.k.size ≤ 9 ∧ x.t.size ≤ 9) (hsb : ∀ x ∈ b, x.k.size ≤ 9 ∧ x.t.size ≤ 9)
    (hC : OneS g cb F w) (hFl : ∀ s ps qs, ps.length ≤ 24 → qs.length ≤ 24 → (F s ps qs).length ≤ 48) :
    Calls Try.prog 122 #[.slice A a.length ca, .slice B b.length cc, .func (.func g) #[] cb] w (GetsE rowC 4 70 w (walkL F a b (stepsOf (a ++ b)))) := by
  obtain ⟨i0, hi, hz0, hz1, hz2⟩ := info_parts Try.infoR70
  have Hi := Lib.hid hi
  have Hz0 := Lib.hid hz0
  have Hz1 := Lib.hid hz1
  have Hz2 := Lib.hid hz2
  have HX := Lib.hid hx
  have HY := Lib.hid hy
  have HA := Lib.hid hA
  have HB := Lib.hid hB
  have HSA := Lib.hid hsa
  have HSB := Lib.hid hsb
  have HC := Lib.hid hC
  have HF := Lib.hid hFl
  have BW0 := Lib.hid ((Below.refl w.heap.size w).alloc (Nat.le_refl _) (.cells #[.slice A a.length ca, .slice B b.length cc] 23))
  have hsl := stepsOf_len (a ++ b)
  rw [List.length_append] at hsl
  have hlab : (a ++ b).length ≤ 48 := by rw [List.length_append]; omega
  obtain ⟨ab, hab⟩ : ∃ ab, a ++ b = ab := ⟨_, rfl⟩
  have HAB := Lib.hid hab
  rw [hab] at hsl hlab ⊢
  obtain ⟨ss, hss⟩ : ∃ ss, stepsOf ab = ss := ⟨_, rfl⟩
  have HSS := Lib.hid hss
  rw [hss] at hsl ⊢
  replace hsl : ss.length ≤ 96 := by omega
  clear hi hz0 hz1 hz2 hx hy hA hB hsa hsb hC hFl hss hab
  go_enter Try.func122, Try.ntmps122
  go_wp2_with (first
    | (go_at_call 115; refine (concatRow_any w.heap.size 2 A B ca cc a b _ (by simp) (by simp) (HX.out.below BW0.out) (HY.out.below BW0.out) HA.out HB.out (by omega) (by omega)).mono ?_; rw [HAB.out]; rintro e w1 ⟨A1, c1, rfl, ho, hb⟩; have R1 := Lib.hid (show RowsA w1 A1 ab from el_of_owns rowC_len ho); have B1 := Lib.hid (BW0.out.trans (hb.mono BW0.out.size)); clear ho hb)
    | (go_at_call 114; refine (steady_any A1 c1 ab _ R1.out (by omega)).mono ?_; rw [HSS.out]; rintro e w2 ⟨A2, c2, rfl, ho, hb⟩; have P2 := Lib.hid (owns_spans ho); have B2 := Lib.hid (B1.out.trans (hb.mono B1.out.size)); clear ho hb))
  go_loopw [7, 16] (fun v i wr => ∃ k : Nat, k ≤ ss.length ∧ i = .int .i64 k ∧ wr.ownsRow w2.heap.size 70 4 v (walkL F a b (ss.take k)).length (flatOf rowC (walkL F a b (ss.take k))) ∧ Below w2.heap.size w2 wr) (fun _ i _ => ss.length - (intOf i).toNat)
  case atStart => exact ⟨0, Nat.zero_le _, rfl, World.ownsRow_nil _ _ _ _, Below.refl _ _⟩
  case round =>
    obtain ⟨k, hk, rfl, hown, hbr⟩ := hrel
    have Hown := Lib.hid hown
    clear hown
    by_cases hlt : k < ss.length
    · obtain ⟨b0, off, rfl, hcells⟩ := P2.out (by omega)
      obtain ⟨d0, d1⟩ := hcells k hlt
      have hb0 : b0 < w2.heap.size := World.block_lt_of_cell? _ _ d0
      have HT := Lib.hid (walkL_take (F := F) (a := a) (b := b) hlt)
      obtain ⟨s, hs⟩ : ∃ s, ss.getD k (0, 0) = s := ⟨_, rfl⟩
      rw [hs] at d0 d1 HT
      obtain ⟨p, q⟩ := s
      have hlo := walkL_len hla hlb HF.out (ss.take k)
      replace hlo : (walkL F a b (ss.take k)).length ≤ 4608 := by rw [List.length_take] at hlo; omega
      have hfl := HF.out (p, q) (atR a p) (atR b p) (Nat.le_trans (at_len ..) hla) (Nat.le_trans (at_len ..) hlb)
      obtain ⟨oo, hoo⟩ : ∃ oo, walkL F a b (ss.take k) = oo := ⟨_, rfl⟩
      rw [hoo] at Hown HT hlo
      obtain ⟨ms, hms⟩ : ∃ ms, F (p, q) (atR a p) (atR b p) = ms := ⟨_, rfl⟩
      have HMS := Lib.hid hms
      rw [hms] at hfl
      replace HT := Lib.hid (show walkL F a b (ss.take (k + 1)) = oo ++ ms from by rw [HT.out]; show oo ++ F (p, q) (atR a p) (atR b p) = _; rw [hms])
      replace d0 := cellBelow hbr hb0 d0
      replace d1 := cellBelow hbr hb0 d1
      have hs5 := hbr.size
      have hkz : (k : Int) < (ss.length : Int) := by omega
      have hkz0 : (0 : Int) ≤ (k : Int) := by omega
      have hb2 : b0 < wr.heap.size := by omega
      clear hcells hs hoo hms
      go_upto_region 5 with fail
      generalize hW : wr.alloc _ = W1
      have v0 : W1.cell? ⟨wr.heap.size, 0, none⟩ = some (.int .i64 p) := by rw [← hW]; simp [go_sem]
      have v1 : W1.cell? ⟨wr.heap.size, 1, none⟩ = some (.int .i64 q) := by rw [← hW]; simp [go_sem]
      have lV : wr.heap.size < W1.heap.size := by rw [← hW]; simp
      have O1 := Lib.hid (show W1.ownsRow w2.heap.size 70 4 u7 oo.length (flatOf rowC oo) from by rw [← hW]; exact Hown.out.alloc _)
      have bW : Below w2.heap.size w2 W1 := by rw [← hW]; exact hbr.alloc hs5 _
      obtain ⟨V, hV⟩ : ∃ V, wr.heap.size = V := ⟨_, rfl⟩
      rw [hV] at v0 v1 lV ⊢
      have lV2 : w2.heap.size ≤ V := by omega
      have aV : u7.ownBlock ≠ some V := fun e => by have := (Hown.out.lt V e).2; omega
      clear hW hV d0 d1 Hown hbr hs5 hb2
      go_region_held3 (fun w' => w'.cell? ⟨V, 0, none⟩ = some (.int .i64 p) ∧ w'.cell? ⟨V, 1, none⟩ = some (.int .i64 q) ∧ V < w'.heap.size ∧ Below w2.heap.size w2 w')
        (((try go_split_ands); refine ⟨?cc90, ?cc91, ?sz9, ?bl9⟩; (case cc90 => (repeat (first | with_reducible assumption | with_reducible refine cell_below hb (by assumption) ?_ | with_reducible refine cell_drew ?_ | (rw [hgrow.cell_far _ (by assumption) (Ne.symm aV)])))); (case cc91 => (repeat (first | with_reducible assumption | with_reducible refine cell_below hb (by assumption) ?_ | with_reducible refine cell_drew ?_ | (rw [hgrow.cell_far _ (by assumption) (Ne.symm aV)])))); (case sz9 => (first | with_reducible assumption | exact Nat.lt_of_lt_of_le (by assumption) hb.size | exact Nat.lt_of_lt_of_le (by assumption) hgrow.size | (show V < W1.heap.size; assumption))); (case bl9 => (repeat (first | with_reducible assumption | with_reducible refine Below.drew ?_ | with_reducible refine Below.trans ?_ (hb.mono (Below.size (by assumption))) | with_reducible refine Below.grown ?_ hgrow (Below.size (by assumption)) (fun i e => (O1.out.lt i e).1))))))
        (first
          | (go_at_call 69; (try go_split_ands); (with_reducible refine (snapR_any A ca a p _ (HX.out.below (B2.out.trans (Below.mono (by assumption) B2.out.size))) hla).mono ?_); rintro e wA ⟨AA, cA, rfl, hoA, hb⟩; have OA := Lib.hid hoA; have HBA := Lib.hid hb; clear hoA)
          | (go_at_call 69; (try go_split_ands); (with_reducible refine (snapR_any B cc b p _ (HY.out.below (B2.out.trans (Below.mono (by assumption) B2.out.size))) hlb).mono ?_); rintro e wB ⟨AB, cB, rfl, hoB, hb⟩; have OB := Lib.hid hoB; have HBB := Lib.hid hb; clear hoB)
          | (go_at_fn g; (try go_split_ands); refine (HC.out _ p q AA AB cA cB (atR a p) (atR b p) (B2.out.trans (Below.mono (by assumption) B2.out.size)) (by first | exact el_of_owns pairC_len (ownsKeep OA.out HBB.out) | exact el_of_owns pairC_len OA.out) (by first | exact el_of_owns pairC_len OB.out | exact el_of_owns pairC_len (ownsKeep OB.out HBA.out)) (owns_nilE OA.out) (owns_nilE OB.out) (Nat.le_trans (at_len ..) hla) (Nat.le_trans (at_len ..) hlb) (at_small HSA.out p) (at_small HSB.out p)).mono ?_; rw [HMS.out]; rintro e wF ⟨AF, cF, rfl, hoF, hb⟩; have OF := Lib.hid hoF; have HBF := Lib.hid hb; clear hoF)
          | ((try go_split_ands); refine step_append_srcE rowC_len rowC_one (by omega) _ (by rfl) _ _ _ (by rfl) w2.heap.size 70 i0 _ 48 Try.underlying23 Hi.out Hz0.out Hz1.out Hz2.out rfl u7 oo.length oo (by rfl) (by first | exact ownsKeep (ownsKeep (ownsKeep (World.ownsRow.drew O1.out) HBA.out) HBB.out) HBF.out | exact ownsKeep (ownsKeep (ownsKeep (World.ownsRow.drew O1.out) HBB.out) HBA.out) HBF.out) (.slice AF ms.length cF) ms (by rfl) (srcE_of rowC_len (by omega) (el_of_owns rowC_len OF.out) (owns_nilE OF.out)) (by unfold maxLen; omega) (by omega) (Below.size (by assumption)) ?_; intro v' w4 hown' hgrow))
      all_goals (rename_i hH; obtain ⟨-, -, -, hBz⟩ := hH; have B4 := Lib.hid hBz; have O4 := Lib.hid (show w4.ownsRow w2.heap.size 70 4 v' (oo ++ ms).length (flatOf rowC (oo ++ ms)) from by rw [List.length_append]; exact hown'); clear hown' hgrow hBz hb)
      all_goals go_wp2
      all_goals go_roundw
      all_goals first
        | (case rel => exact ⟨k + 1, by omega, by go_num, by rw [HT.out]; exact O4.out, B4.out⟩)
        | (case measure => simp [intOf]; omega)
    · obtain rfl : k = ss.length := by omega
      rw [List.take_length] at Hown
      obtain ⟨A', c', hv⟩ := owns_sliceE Hown.out
      subst hv
      have BZ := Lib.hid (B2.out.trans (hbr.mono B2.out.size))
      have OZ := Lib.hid (ownsBase (base' := w.heap.size) Hown.out B2.out.size)
      clear hbr
      go_wp2
      go_ret
      exact ⟨A', c', rfl, OZ.out, BZ.out⟩
end Go.Proofs.Ytphinkcfmdnpfaa
namespace Go.Proofs.Ytphinkcfmdnpfaa
open Go.Shelf Go.RowKit Go.Lib Go.Sort

/-- A table made of two, if both are tables and it is one. -/
def combS (a b X : List RowV) : List RowV × Bool := if relOk a = true then (if relOk b = true then fullL X else ([], false)) else ([], false)
theorem ok_small {zs : List RowV} (h : relOk zs = true) : ∀ x ∈ zs, x.k.size ≤ 9 ∧ x.t.size ≤ 9 := fun x hx => by
  obtain ⟨h1, h2, _⟩ := rowOk_iff.1 ((rel_apart h).1 x hx)
  simp only [wordB, Bool.and_eq_true, decide_eq_true_eq] at h1 h2
  exact ⟨h1.1.2, h2.1.2⟩
theorem fullL_len (X : List RowV) : (fullL X).1.length ≤ 24 := by
  unfold fullL
  by_cases h : relOk X = true
  · rw [if_pos h]; exact ((relOk_iff X).1 h).1
  · rw [if_neg h]; exact Nat.zero_le _
theorem combS_len (a b X : List RowV) : (combS a b X).1.length ≤ 24 := by
  unfold combS
  by_cases h : relOk a = true
  · rw [if_pos h]
    by_cases h2 : relOk b = true
    · rw [if_pos h2]; exact fullL_len X
    · rw [if_neg h2]; exact Nat.zero_le _
  · rw [if_neg h]; exact Nat.zero_le _

set_option maxRecDepth 100000 in
set_option maxHeartbeats 4000000 in
theorem combined_any (A B : Option Addr) (ca cc : Nat) (a b X : List RowV) (g : Nat) (cb : Array Value) (F : List PairV → List PairV → List PairV) (w : World) (eg : ∀ args w, (callFunc g args).run Try.prog w = .ok (.enter g args) w)
    (hx : RowsA w A a) (hy : RowsA w B b) (hA : A = none → ca = 0) (hB : B = none → cc = 0) (hla : a.length ≤ 1048577) (hlb : b.length ≤ 1048577) (hsa : Short a) (hsb : Short b)
    (hC : One g cb F w) (hFl : ∀ ps qs, ps.length ≤ 24 → qs.length ≤ 24 → (F ps qs).length ≤ 48) (hFs : ∀ ps qs, Small ps → Small qs → ∀ p ∈ F ps qs, p.k.size ≤ maxLen ∧ p.t.size ≤ maxLen)
    (hX : relOk a = true → relOk b = true → ∀ s, Ordered s → s.Perm (combR F a b (stepsOf (a ++ b))) → joinRows s = X) :
    Calls Try.prog 71 #[.slice A a.length ca, .slice B b.length cc, .func (.func g) #[] cb] w (GetsRB w (combS a b X)) := by
  have HX := Lib.hid hx
  have HY := Lib.hid hy
  have HA := Lib.hid hA
  have HB := Lib.hid hB
  have HSA := Lib.hid hsa
  have HSB := Lib.hid hsb
  have HC := Lib.hid hC
  have HF := Lib.hid hFl
  have HFs := Lib.hid hFs
  have HXX := Lib.hid hX
  obtain ⟨oa, hoa⟩ : ∃ oa, relOk a = oa := ⟨_, rfl⟩
  have HOA := Lib.hid hoa
  obtain ⟨ob, hob⟩ : ∃ ob, relOk b = ob := ⟨_, rfl⟩
  have HOB := Lib.hid hob
  clear hx hy hA hB hsa hsb hC hFl hFs hX hoa hob
  go_enter Try.func71, Try.ntmps71
  go_wp2_with fail
  generalize hW : w.alloc _ = W0
  have f0 : W0.cell? ⟨w.heap.size, 0, none⟩ = some (.func (.func g) #[] cb) := by rw [← hW]; simp [go_sem]
  have lf : w.heap.size < W0.heap.size := by rw [← hW]; simp
  have B0 := Lib.hid (show Below w.heap.size w W0 from by rw [← hW]; exact (Below.refl _ _).alloc (Nat.le_refl _) _)
  obtain ⟨G, hG⟩ : ∃ G, w.heap.size = G := ⟨_, rfl⟩
  rw [hG] at f0 lf ⊢
  have HG := Lib.hid hG
  clear hW hG
  refine (RelOk_any A ca a _ (HX.out.below B0.out) hla HSA.out).mono ?_
  rw [HOA.out]
  rintro e w1 ⟨rfl, hb⟩
  replace f0 := cellBelow hb lf f0
  replace lf := Nat.lt_of_lt_of_le lf hb.size
  have B1 := Lib.hid (B0.out.trans (hb.mono B0.out.size))
  clear hb B0
  cases oa
  · have HR := Lib.hid (show combS a b X = ([], false) from by unfold combS; rw [if_neg (by rw [HOA.out]; simp)])
    go_wp2
    refine bodyPost_ret (v := .tuple #[.slice none 0 0, .bool false]) (by simp [results, Try.results71, go_sem]) rfl ?_
    rw [HR.out]
    exact ⟨none, 0, rfl, World.ownsRow_nil _ _ _ _, B1.out⟩
  · go_wp2_with fail
    refine (RelOk_any B cc b _ (HY.out.below B1.out) hlb HSB.out).mono ?_
    rw [HOB.out]
    rintro e w2 ⟨rfl, hb⟩
    replace f0 := cellBelow hb lf f0
    replace lf := Nat.lt_of_lt_of_le lf hb.size
    have B2 := Lib.hid (B1.out.trans (hb.mono B1.out.size))
    clear hb B1
    cases ob
    · have HR := Lib.hid (show combS a b X = ([], false) from by unfold combS; rw [if_pos HOA.out, if_neg (by rw [HOB.out]; simp)])
      go_wp2
      refine bodyPost_ret (v := .tuple #[.slice none 0 0, .bool false]) (by simp [results, Try.results71, go_sem]) rfl ?_
      rw [HR.out]
      exact ⟨none, 0, rfl, World.ownsRow_nil _ _ _ _, B2.out⟩
    · have HR := Lib.hid (show combS a b X = fullL X from by unfold combS; rw [if_pos HOA.out, if_pos HOB.out])
      have hl1 := ((relOk_iff a).1 HOA.out).1
      have hl2 := ((relOk_iff b).1 HOB.out).1
      have HCL := Lib.hid (show (combR F a b (stepsOf (a ++ b))).length ≤ 4608 from by
        have h1 := walkL_len (F := fun s ps qs => rowsIn (F ps qs) s) hl1 hl2 (fun s ps qs h1 h2 => by unfold rowsIn; rw [List.length_map]; exact HF.out ps qs h1 h2) (stepsOf (a ++ b))
        have h2 := stepsOf_len (a ++ b)
        rw [List.length_append] at h2
        have h3 : (walkL (fun s ps qs => rowsIn (F ps qs) s) a b (stepsOf (a ++ b))).length ≤ 96 * 48 := Nat.le_trans h1 (Nat.mul_le_mul_right _ (by omega))
        exact h3)
      have HCS := Lib.hid (show Short (combR F a b (stepsOf (a ++ b))) from fun r hr => by
        obtain ⟨s, _, hr⟩ := List.mem_flatMap.1 hr
        obtain ⟨p, hp, rfl⟩ := List.mem_map.1 hr
        exact HFs.out _ _ (at_small (ok_small HOA.out) s.1) (at_small (ok_small HOB.out) s.1) p hp)
      go_wp2_with fail
      generalize hW : w2.alloc _ = W3
      have hbx : BoxO W3 w2.heap.size (.slice none 0 0) := by rw [← hW]; exact heap_alloc_new w2 _
      have hb3 : Below w2.heap.size w2 W3 := by rw [← hW]; exact (Below.refl _ _).alloc (Nat.le_refl _) _
      replace f0 := cellBelow hb3 lf f0
      replace lf := Nat.lt_of_lt_of_le lf hb3.size
      have B3 := Lib.hid (B2.out.trans (hb3.mono B2.out.size))
      have hs2 := B2.out.size
      obtain ⟨V, hV⟩ : ∃ V, w2.heap.size = V := ⟨_, rfl⟩
      rw [hV] at hbx hs2 ⊢
      have HBX := Lib.hid hbx
      have HL3 := Lib.hid (show V < W3.heap.size from hbx.lt)
      have HOne := Lib.hid (comb1_one G g cb F W3 eg f0 (HC.out.later B3.out) HF.out)
      clear hW hb3 hbx hV B2
      obtain ⟨rs, hrs⟩ : ∃ rs, combR F a b (stepsOf (a ++ b)) = rs := ⟨_, rfl⟩
      have HRS := Lib.hid (show walkL (fun s ps qs => rowsIn (F ps qs) s) a b (stepsOf (a ++ b)) = rs from hrs)
      have HXR := Lib.hid (show ∀ s, Ordered s → s.Perm rs → joinRows s = X from by rw [← hrs]; exact HXX.out HOA.out HOB.out)
      rw [hrs] at HCL HCS
      have hcl := HCL.out
      clear hrs HXX HCL
      refine (walkR_any A B ca cc a b 123 #[.pointer (some ⟨G, 0, none⟩)] _ W3 (enters_of Try.func123 (by kernel_rfl) rfl) (HX.out.below B3.out) (HY.out.below B3.out) HA.out HB.out hl1 hl2 (ok_small HOA.out) (ok_small HOB.out) HOne.out (fun s ps qs h1 h2 => by unfold rowsIn; rw [List.length_map]; exact HF.out ps qs h1 h2)).mono ?_
      rw [HRS.out]
      rintro e w4 ⟨A4, c4, rfl, ho, hb⟩
      have O4 := Lib.hid ho
      have Box4 := Lib.hid (HBX.out.keep (hb.block _ HL3.out))
      have B4 := Lib.hid (B3.out.trans (hb.mono B3.out.size))
      clear ho hb HBX f0
      go_wp2_with fail
      refine (put_any w.heap.size V (.slice none 0 0) (.slice A4 rs.length c4) [] rs w4 Box4.out hs2 (World.ownsRow_nil _ _ _ _) (src_of (el_of_owns rowC_len O4.out) (owns_nilE O4.out)) (by simp; omega)).mono ?_
      rintro e w5 ⟨rfl, v5, l, hb5, ho5, hord, hperm, hbl⟩
      rw [List.nil_append] at hperm
      have d0 := hb5.cell0
      have d1 := hb5.cell1
      have lV := hb5.lt
      have hl5 : l.length ≤ 1048577 := by rw [hperm.length_eq]; omega
      have HSH := Lib.hid (HCS.out.perm hperm)
      have HJ := Lib.hid (HXR.out l hord hperm)
      have O5 := Lib.hid ho5
      have B5 := Lib.hid (B4.out.trans hbl)
      obtain ⟨A5, k5, rfl⟩ := owns_sliceE ho5
      clear hb5 ho5 hord hperm hbl Box4 O4 B4
      go_wp2_with fail
      refine (tableOf_any w.heap.size _ l w5 O5.out hl5 HSH.out).mono ?_
      rintro e w6 ⟨A6, c6, rfl, ho6, hb6⟩
      have HT := Lib.hid (show tableP l = combS a b X from by
        rw [HR.out]; unfold tableP fullL; rw [HJ.out])
      rw [HT.out] at ho6 ⊢
      have O6 := Lib.hid (ownsBase (base' := w.heap.size) ho6 B5.out.size)
      have B6 := Lib.hid (B5.out.trans (hb6.mono B5.out.size))
      clear ho6 hb6 d0 d1
      go_wp2
      refine bodyPost_ret (v := .tuple #[.slice A6 (combS a b X).1.length c6, .bool (combS a b X).2]) (by simp [results, Try.results71, go_sem]) rfl ?_
      exact ⟨A6, c6, rfl, O6.out, B6.out⟩
end Go.Proofs.Ytphinkcfmdnpfaa
namespace Go.Proofs.Ytphinkcfmdnpfaa
open Go.Shelf Go.RowKit Go.Lib Go.Sort

end Go.Proofs.Ytphinkcfmdnpfaa
namespace Go.Proofs.Ytphinkcfmdnpfaa
open Go.Shelf Go.RowKit Go.Lib Go.Sort

theorem filter_le (ps : List PairV) (P : PairV → Bool) : (ps.filter P).length ≤ ps.length := List.length_filter_le ..
theorem small_max {ps : List PairV} (h : Small ps) : ∀ p ∈ ps, p.k.size ≤ maxLen ∧ p.t.size ≤ maxLen := fun p hp => by
  have := h p hp
  unfold maxLen
  omega
theorem joinF_max {ps qs : List PairV} (h : Small ps) (h2 : Small qs) : ∀ p ∈ joinF ps qs, p.k.size ≤ maxLen ∧ p.t.size ≤ maxLen := fun p hp => by
  obtain ⟨r, hr, _, rfl⟩ := joinF_mem.1 hp
  have h3 := h r hr
  have h4 := getP_small (key := r.k) h2
  refine ⟨by show r.k.size ≤ maxLen; unfold maxLen; omega, ?_⟩
  show (r.t ++ plusB ++ getP r.k qs).size ≤ maxLen
  rw [ByteArray.size_append, ByteArray.size_append]
  have h5 : plusB.size = 1 := rfl
  unfold maxLen
  omega
theorem joinF_le (ps qs : List PairV) : (joinF ps qs).length ≤ ps.length := by
  have := joinF_len ps qs ps.length
  rwa [List.take_length] at this
def relLessS (a b : List RowV) : List RowV × Bool := combS a b (lessAll a b)
def relBothS (a b : List RowV) : List RowV × Bool := combS a b (lessAll a (lessAll a b))
def relEitherS (a b : List RowV) : List RowV × Bool := combS a b (joinRows (eitherAll a b))
def relJoinS (a b : List RowV) : List RowV × Bool := combS a b (joinRows (joinPut a b))
def relPickL (t : List RowV) (text : ByteArray) : List RowV := if relOk t = true then pickAll t text else []
theorem relLessS_len (a b : List RowV) : (relLessS a b).1.length ≤ 24 := combS_len ..
theorem relBothS_len (a b : List RowV) : (relBothS a b).1.length ≤ 24 := combS_len ..
theorem relEitherS_len (a b : List RowV) : (relEitherS a b).1.length ≤ 24 := combS_len ..
theorem relJoinS_len (a b : List RowV) : (relJoinS a b).1.length ≤ 24 := combS_len ..
theorem relPickL_len (t : List RowV) (text : ByteArray) : (relPickL t text).length ≤ 24 := by
  unfold relPickL
  by_cases h : relOk t = true
  · rw [if_pos h]; exact ((relOk_iff _).1 (pick_rel h)).1
  · rw [if_neg h]; exact Nat.zero_le _
theorem pick_full (t : List RowV) (text : ByteArray) : (combS t [] (pickAll t text)).1 = relPickL t text := by
  unfold combS relPickL
  by_cases h : relOk t = true
  · rw [if_pos h, if_pos h, if_pos (by rfl)]
    unfold fullL
    rw [if_pos (pick_rel h)]
  · rw [if_neg h, if_neg h]

set_option maxHeartbeats 1000000 in
theorem RelBoth_any (A B : Option Addr) (ca cc : Nat) (a b : List RowV) (w : World) (hx : RowsA w A a) (hy : RowsA w B b) (hA : A = none → ca = 0) (hB : B = none → cc = 0) (hla : a.length ≤ 1048577) (hlb : b.length ≤ 1048577) (hsa : Short a) (hsb : Short b) :
    Calls Try.prog 27 #[.slice A a.length ca, .slice B b.length cc] w (GetsRB w (relBothS a b)) := by
  have HC := Lib.hid (show Calls Try.prog 71 #[.slice A a.length ca, .slice B b.length cc, .func (.func 79) #[] #[]] w (GetsRB w (relBothS a b)) from combined_any A B ca cc a b _ 79 #[] bothF w (enters_of Try.func79 (by kernel_rfl) rfl) hx hy hA hB hla hlb hsa hsb (both_one w) (fun ps qs h1 h2 => Nat.le_trans (filter_le ..) (by omega)) (fun ps qs h1 h2 => fun p hp => small_max h1 p (List.mem_filter.1 hp).1) (fun ha hb s => both_comb ha hb))
  clear hx hy hA hB hsa hsb
  go_enter Try.func27, Try.ntmps27
  go_wp2_with fail
  refine HC.out.mono ?_
  rintro e w1 ⟨A1, c1, rfl, ho, hb⟩
  have O1 := Lib.hid ho
  have B1 := Lib.hid hb
  clear ho hb HC
  go_wp2
  refine bodyPost_ret (v := .tuple #[.slice A1 (relBothS a b).1.length c1, .bool (relBothS a b).2]) (by simp [results, Try.results27, go_sem]) rfl ?_
  exact ⟨A1, c1, rfl, O1.out, B1.out⟩

end Go.Proofs.Ytphinkcfmdnpfaa
