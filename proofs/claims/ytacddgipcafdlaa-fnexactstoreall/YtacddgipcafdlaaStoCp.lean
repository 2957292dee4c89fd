/-
  Walks: copies of a store, both ways.
-/
import Derived.Test.YtacddgipcafdlaaStoSt
import Derived.Test.YtacddgipcafdlaaShelfV
import Derived.Maps.AppendAt
import Derived.Laws.AppendOwnNone
namespace Go.Proofs.Ytacddgipcafdlaa
open Go.Shelf Go.RowKit Go.Lib Go.Sort

theorem flat_oneV (l : List VerV) : ∀ u ∈ flatOf verC l, u.oneCell' = true := by
  induction l with
  | nil => intro u hu; cases hu
  | cons x l ih =>
    intro u hu
    rw [flatOf, List.mem_append] at hu
    rcases hu with hu | hu
    · exact verC_one x u hu
    · exact ih u hu
theorem srcV {w : World} {A : Option Addr} {zs : List VerV} {cap : Nat} (h : VersA w A zs) (hA : A = none → cap = 0) : (A = none ∧ zs = [] ∧ cap = 0) ∨ ∃ ad, A = some ad ∧ ∀ j x, (flatOf verC zs)[j]? = some x → w.cell? (ad.add j) = some x := by
  cases zs with
  | nil =>
    cases A with
    | none => exact .inl ⟨rfl, rfl, hA rfl⟩
    | some a => exact .inr ⟨a, rfl, fun j x hx => by simp [flatOf] at hx⟩
  | cons z zs =>
    obtain ⟨b, off, rfl, hb, hc⟩ := h (by simp)
    refine .inr ⟨⟨b, off, none⟩, rfl, fun j x hx => ?_⟩
    have hj : j < (flatOf verC (z :: zs)).length := (List.getElem?_eq_some_iff.1 hx).1
    rw [flatOf_length verC_len] at hj
    have hi : j / 6 < (z :: zs).length := by omega
    have hy : (z :: zs)[j / 6]? = some (z :: zs)[j / 6] := List.getElem?_eq_getElem hi
    have h1 := flatOf_get verC_len (z :: zs) (j / 6) _ (j % 6) hy (by omega)
    rw [show j / 6 * 6 + j % 6 = j by omega, hx] at h1
    have := hc (j / 6) _ hy (j % 6) x h1.symm
    rw [addr_add]
    rwa [show off + j / 6 * 6 + j % 6 = off + j by omega] at this
theorem step_append_verS {P : Program} (w : World) {ops : Array Oper} {o : Oper} {a : Act} {K : Act → World → Prop} {Q : Exit → Act → World → Prop} {E : Prop} (hgd : o.guard = none) (s x : Operand) (t : TypeId)
    (ho : o.op = .call { callee := .builtin .append, args := #[s, x], argTypes := #[t, t] }) (base : Nat) (e : TypeId) (i : TypeInfo) (z : Value) (bytes : Nat)
    (ht : P.underlying t = some (.slice e)) (hi : P.info? e = some i) (hz : i.zero = some z) (hsize : i.size = 6) (hby : i.bytes = bytes) (hzs : z.cells.size = 6)
    (v : Value) (n : Nat) (xs : List Value) (hs : a.eval s = v) (hown : w.ownsRow base e 6 v n xs) (A : Option Addr) (zs : List VerV) (cap : Nat) (hx : a.eval x = .slice A zs.length cap) (hv : VersA w A zs) (hN : A = none → cap = 0)
    (h63 : n + zs.length ≤ maxLen) (hbytes : (n + zs.length) * bytes ≤ 140737488355328) (hbase : base ≤ w.heap.size)
    (h : ∀ v' w', w'.ownsRow base e 6 v' (n + zs.length) (xs ++ flatOf verC zs) → w.grownBy w' v.ownBlock → K (a.put o.dst v') w') :
    if Region.wanted o (yielded ops a.tmps) = true then Oper.wp P o a w K Q else E := by
  rw [if_pos (by simp [Region.wanted, hgd])]
  rcases srcV hv hN with ⟨rfl, rfl, rfl⟩ | ⟨ad, rfl, hc⟩
  · have hrun := run_append_owned_none (P := P) (w := w) base t o.type e i 6 ht hi v n xs hown
    unfold Oper.wp
    simp [execOp, ho, resolve, invoke, builtin, hs, hx, hrun, Result.andThen]
    exact h v w (by simpa [flatOf] using hown) ⟨rfl, rfl, rfl, Nat.le_refl _, fun _ _ _ => rfl⟩
  · obtain ⟨v', w', hrun, h2, h3, h4, _⟩ := run_append_own_at (P := P) w base t o.type e i z 6 bytes ht hi hz hsize hby hzs (by omega) v n xs hown ad zs.length cap (flatOf verC zs) (flatOf_length verC_len zs) hc (flat_oneV zs) h63 hbytes hbase
    unfold Oper.wp execOp
    simp only [ho, resolve, invoke, builtin, Sem.run_bind, Sem.run_pure, Result.andThen_ok, List.map_toArray, List.map_cons, List.map_nil, hs, hx, hrun]
    exact h v' w' h2 h3

set_option maxRecDepth 100000 in
set_option maxHeartbeats 8000000 in
theorem l5Copy_any (A : Option Addr) (cap : Nat) (zs : List VerV) (now : Int) (w : World) (hz : VersA w A zs) (hN : A = none → cap = 0) (hl : zs.length ≤ 1048577) :
    Calls Try.prog 90 #[.agg #[.int .i64 now, .slice A zs.length cap]] w (GetsS w now zs) := by
  obtain ⟨i0, hi, hz0, hz1, hz2⟩ := info_parts Try.infoV74
  have Hi := Lib.hid hi
  have Hz0 := Lib.hid hz0
  have Hz1 := Lib.hid hz1
  have Hz2 := Lib.hid hz2
  clear hi hz0 hz1 hz2
  have HNn := Lib.hid hN
  clear hN
  go_enter Try.func90, Try.ntmps90
  go_upto_region 1 with fail
  generalize hW : (w.alloc _).alloc _ = W0
  have s0 : W0.cell? ⟨w.heap.size, 0, none⟩ = some (.int .i64 now) := by rw [← hW]; simp [go_sem]
  have s1 : W0.cell? ⟨w.heap.size, 1, none⟩ = some (.slice A zs.length cap) := by rw [← hW]; simp [go_sem]
  have r0 : W0.cell? ⟨w.heap.size + 1, 0, none⟩ = some (.int .i64 0) := by rw [← hW]; simp [go_sem]
  have r1 : W0.cell? ⟨w.heap.size + 1, 1, none⟩ = some (.slice none 0 0) := by rw [← hW]; simp [go_sem]
  have rf : ∀ q, W0.frozen? ⟨w.heap.size + 1, q, none⟩ = false := fun q => by rw [← hW]; simp [go_sem]
  have ls : w.heap.size + 1 < W0.heap.size := by rw [← hW]; simp
  have hB : Below w.heap.size w W0 := by rw [← hW]; exact ((Below.refl _ _).alloc (Nat.le_refl _) _).alloc (by simp) _
  have HZ := Lib.hid (hz.below hB)
  obtain ⟨G, hG⟩ : ∃ G, w.heap.size = G := ⟨_, rfl⟩
  have HG := Lib.hid hG
  rw [hG] at s0 s1 r0 r1 rf ls ⊢
  clear hW hG hz
  have lG : G < W0.heap.size := by omega
  have hwW := hB.size
  have hG1 : w.heap.size ≤ G + 1 := by have := HG.out; omega
  have HZ2 := Lib.hid (show VersA (W0.drew.alloc (.cells #[] 74)) A zs from HZ.out.below (((Below.refl W0.heap.size W0).drew).alloc (Nat.le_refl _) _))
  have OL := Lib.hid (show (W0.drew.alloc (.cells #[] 74)).ownsRow W0.heap.size 74 6 (.slice (some ⟨W0.heap.size, 0, none⟩) 0 0) 0 [] from by
    have := World.ownsRow_lit (base := W0.heap.size) (e := 74) (size := 6) W0.drew #[] 0 (Nat.le_refl _) (by simp [maxLen]) (by simp)
    simpa using this)
  go_region_held3 (fun w' => w'.cell? ⟨G, 0, none⟩ = some (.int .i64 now) ∧ w'.cell? ⟨G, 1, none⟩ = some (.slice A zs.length cap))
    (first
      | go_keep
      | exact ⟨q0, q1⟩
      | exact ⟨cell_set_far (by omega) (cell_set_far (by omega) q0), cell_set_far (by omega) (cell_set_far (by omega) q1)⟩)
    ((refine step_append_verS _ (by rfl) _ _ _ (by rfl) W0.heap.size 74 i0 _ 64 Try.underlying24 Hi.out Hz0.out Hz1.out Hz2.out rfl (.slice (some ⟨W0.heap.size, 0, none⟩) 0 0) 0 [] (by rfl) OL.out A zs cap (by rfl) HZ2.out HNn.out (by unfold maxLen; omega) (by omega) (by simp) ?_; intro v' w3 hown' hgrow; rw [Nat.zero_add, List.nil_append] at hown'; obtain ⟨A6, c6, rfl⟩ := owns_formN hown'; have hgw := (show (W0.drew.alloc (.cells #[] 74)).grownBy w3 (some W0.heap.size) from hgrow); have q0 := keptC (W := W0.drew) lG hgw (by simp; omega) s0; have q1 := keptC (W := W0.drew) lG hgw (by simp; omega) s1; have t0 := keptC (W := W0.drew) ls hgw (by simp; omega) r0; have t1 := keptC (W := W0.drew) ls hgw (by simp; omega) r1; have tf := keptF (W := W0.drew) ls hgw (by simp; omega) rf))
  all_goals
    have O3 := Lib.hid hown'
    have B3 := Lib.hid (((hB.drew).alloc (by simp; omega) (.cells #[] 74)).grown hgw (by simp; omega) (fun i e => by injection e with e; omega))
    go_wp2
    refine bodyPost_ret (v := .agg #[.int .i64 now, .slice A6 zs.length c6]) (by simp [results, Try.results90, go_sem, t0, t1]) rfl ?_
    refine ⟨A6, c6, rfl, ?_, ?_⟩
    · refine ownsBase (base := W0.heap.size) ?_ hwW
      repeat (first | exact O3.out | refine owns_set_farV ?_ (by omega))
    · repeat (first | exact B3.out | refine Below.setCell ?_ hG1 _)

set_option maxRecDepth 100000 in
theorem cloneV_any (A : Option Addr) (cap : Nat) (zs : List VerV) (w : World) (hz : VersA w A zs) (hA : A = none ∨ ∃ b off, A = some ⟨b, off, none⟩) (hl : zs.length ≤ 1048577) :
    Calls Try.prog 109 #[.slice A zs.length cap] w (GetsE verC 6 74 w zs) := by
  rcases hA with rfl | ⟨b, off, rfl⟩
  · have h0 : zs = [] := by
      cases zs with
      | nil => rfl
      | cons z l => obtain ⟨b, off, e, _⟩ := hz (by simp); cases e
    subst h0
    refine (AnyE.slices_Clone_nil Try.cloneV 0 cap w).mono ?_
    rintro e w' ⟨rfl, rfl⟩
    exact getsE_nil _ _ _ (Below.refl _ _)
  · obtain ⟨i0, hi, hz0, hz1, hz2⟩ := info_parts Try.infoV74
    have hc : ∀ j u, (flatOf verC zs)[j]? = some u → w.cell? ⟨b, off + j, none⟩ = some u := fun j u hu => by
      rcases srcV (cap := cap) hz (fun h => by cases h) with ⟨h, _⟩ | ⟨ad, h, hh⟩
      · cases h
      · injection h with h
        subst h
        have := hh j u hu
        rwa [addr_add] at this
    refine (AnyE.slices_Clone Try.cloneV i0 _ 6 64 hi hz0 hz1 hz2 rfl (by omega) Try.sizeOf74 b off zs.length cap (flatOf verC zs) w (flatOf_length verC_len zs) (by unfold maxLen; omega) (by omega) hc (flat_oneV zs)).mono ?_
    rintro e w' ⟨v, rfl, ho, -, hb⟩
    obtain ⟨A', c', rfl⟩ := owns_formN ho
    exact ⟨A', c', rfl, ho, hb⟩

set_option maxRecDepth 100000 in
set_option maxHeartbeats 8000000 in
theorem copied_any (A : Option Addr) (cap : Nat) (zs : List VerV) (now : Int) (w : World) (hz : VersA w A zs) (hA : A = none ∨ ∃ b off, A = some ⟨b, off, none⟩) (hl : zs.length ≤ 1048577) :
    Calls Try.prog 75 #[.agg #[.int .i64 now, .slice A zs.length cap]] w (GetsS w now zs) := by
  have hN : True := trivial
  obtain ⟨i0, hi, hz0, hz1, hz2⟩ := info_parts Try.infoV74
  have Hi := Lib.hid hi
  have Hz0 := Lib.hid hz0
  have Hz1 := Lib.hid hz1
  have Hz2 := Lib.hid hz2
  clear hi hz0 hz1 hz2
  have HNn := Lib.hid hA
  clear hN hA
  go_enter Try.func75, Try.ntmps75
  go_upto_region 1 with fail
  generalize hW : (w.alloc _).alloc _ = W0
  have s0 : W0.cell? ⟨w.heap.size, 0, none⟩ = some (.int .i64 now) := by rw [← hW]; simp [go_sem]
  have s1 : W0.cell? ⟨w.heap.size, 1, none⟩ = some (.slice A zs.length cap) := by rw [← hW]; simp [go_sem]
  have r0 : W0.cell? ⟨w.heap.size + 1, 0, none⟩ = some (.int .i64 0) := by rw [← hW]; simp [go_sem]
  have r1 : W0.cell? ⟨w.heap.size + 1, 1, none⟩ = some (.slice none 0 0) := by rw [← hW]; simp [go_sem]
  have rf : ∀ q, W0.frozen? ⟨w.heap.size + 1, q, none⟩ = false := fun q => by rw [← hW]; simp [go_sem]
  have ls : w.heap.size + 1 < W0.heap.size := by rw [← hW]; simp
  have hB : Below w.heap.size w W0 := by rw [← hW]; exact ((Below.refl _ _).alloc (Nat.le_refl _) _).alloc (by simp) _
  have HZ := Lib.hid (hz.below hB)
  obtain ⟨G, hG⟩ : ∃ G, w.heap.size = G := ⟨_, rfl⟩
  have HG := Lib.hid hG
  rw [hG] at s0 s1 r0 r1 rf ls ⊢
  clear hW hG hz
  have lG : G < W0.heap.size := by omega
  have hwW := hB.size
  have hG1 : w.heap.size ≤ G + 1 := by have := HG.out; omega
  have hq0 : Below W0.heap.size W0 W0 := Below.refl _ _
  go_region_held3 (fun w' => w'.cell? ⟨G, 0, none⟩ = some (.int .i64 now) ∧ w'.cell? ⟨G, 1, none⟩ = some (.slice A zs.length cap))
    (first
      | go_keep
      | exact ⟨q0, q1⟩
      | exact ⟨cell_set_far (by omega) (cell_set_far (by omega) q0), cell_set_far (by omega) (cell_set_far (by omega) q1)⟩)
    ((go_at_call 109; (try go_split_ands); refine (cloneV_any A cap zs _ (HZ.out.below hq0.drew) HNn.out hl).mono ?_; rintro e w3 ⟨A6, c6, rfl, hown', hb⟩; have hbw := (show Below W0.heap.size W0 w3 from (hq0.drew).trans hb); have q0 := cellBelow hbw lG s0; have q1 := cellBelow hbw lG s1; have t0 := cellBelow hbw ls r0; have t1 := cellBelow hbw ls r1; have tf : ∀ q, w3.frozen? ⟨G + 1, q, none⟩ = false := (fun q => ((bcell hbw).2 _ _ ls).trans (rf q))))
  all_goals
    have O3 := Lib.hid (show w3.ownsRow W0.heap.size 74 6 (.slice A6 zs.length c6) zs.length (flatOf verC zs) from hown')
    have B3 := Lib.hid (hB.trans (hbw.mono hwW))
    go_wp2
    refine bodyPost_ret (v := .agg #[.int .i64 now, .slice A6 zs.length c6]) (by simp [results, Try.results75, go_sem, t0, t1]) rfl ?_
    refine ⟨A6, c6, rfl, ?_, ?_⟩
    · refine ownsBase (base := W0.heap.size) ?_ hwW
      repeat (first | exact O3.out | refine owns_set_farV ?_ (by omega))
    · repeat (first | exact B3.out | refine Below.setCell ?_ hG1 _)
end Go.Proofs.Ytacddgipcafdlaa
