/-
  Walks: a store that goes back.
-/
import Derived.Test.YtacddgipcafdlaaStoreP
import Derived.Test.YtacddgipcafdlaaStoAt
namespace Go.Proofs.Ytacddgipcafdlaa
open Go.Shelf Go.RowKit Go.Lib Go.Sort

def backL (zs : List VerV) (now st : Int) : Int × List VerV × Bool := setP zs now (storeAtL zs now st)
theorem at_short {zs : List VerV} {now st : Int} (hs : ShortV zs) : ∀ r ∈ storeAtL zs now st, r.k.size ≤ maxLen ∧ r.t.size ≤ maxLen := fun r hr => by
  unfold storeAtL at hr
  split at hr
  · have h1 := (liveS_facts zs (min st now)).2.subset hr
    unfold liveL at h1
    obtain ⟨x, hx, rfl⟩ := List.mem_map.1 h1
    exact hs x (List.mem_filter.1 hx).1
  · cases hr
theorem back_len (zs : List VerV) (now st : Int) : (backL zs now st).2.1.length ≤ zs.length + zs.length := by
  have h1 := setP_len zs now (storeAtL zs now st)
  have h2 := storeAtL_len zs now st
  unfold backL
  omega

set_option maxRecDepth 100000 in
set_option maxHeartbeats 8000000 in
theorem StoreBack_any (A : Option Addr) (cap : Nat) (zs : List VerV) (now st : Int) (w : World) (hz : VersA w A zs) (hA : A = none ∨ ∃ b off, A = some ⟨b, off, none⟩) (hN : A = none → cap = 0) (hl : zs.length ≤ 1048576) (hs : ShortV zs) :
    Calls Try.prog 27 #[.agg #[.int .i64 now, .slice A zs.length cap], .int .i64 st] w (GetsSB w (backL zs now st)) := by
  have HS := Lib.hid hs
  have HA := Lib.hid hA
  have HN := Lib.hid hN
  have HTS := Lib.hid (at_short (now := now) (st := st) hs)
  have htl := storeAtL_len zs now st
  clear hs hA hN
  obtain ⟨sb, hsb⟩ : ∃ sb, storeB zs now = sb := ⟨_, rfl⟩
  have HSB := Lib.hid hsb
  clear hsb
  obtain ⟨tl, ht⟩ : ∃ tl, storeAtL zs now st = tl := ⟨_, rfl⟩
  have HT := Lib.hid ht
  obtain ⟨n', ys, ok, hq⟩ : ∃ n' ys ok, setP zs now tl = (n', ys, ok) := ⟨_, _, _, rfl⟩
  have HQ := Lib.hid hq
  rw [ht] at htl HTS
  rw [backL, ht, hq]
  clear ht hq
  go_enter Try.func27, Try.ntmps27
  go_upto_region 1 with fail
  generalize hW : (w.alloc _).alloc _ = W0
  have s0 : W0.cell? ⟨w.heap.size, 0, none⟩ = some (.int .i64 now) := by rw [← hW]; simp [go_sem]
  have s1 : W0.cell? ⟨w.heap.size, 1, none⟩ = some (.slice A zs.length cap) := by rw [← hW]; simp [go_sem]
  have r0 : W0.cell? ⟨w.heap.size + 1, 0, none⟩ = some (.int .i64 0) := by rw [← hW]; simp [go_sem]
  have r1 : W0.cell? ⟨w.heap.size + 1, 1, none⟩ = some (.slice none 0 0) := by rw [← hW]; simp [go_sem]
  have rf : ∀ o, W0.frozen? ⟨w.heap.size + 1, o, none⟩ = false := fun o => by rw [← hW]; simp [go_sem]
  have ls : w.heap.size + 1 < W0.heap.size := by rw [← hW]; simp
  have hq0 : Below w.heap.size w W0 := by rw [← hW]; exact ((Below.refl _ _).alloc (Nat.le_refl _) _).alloc (by simp) _
  have Z0 := Lib.hid hz
  clear hW hz
  go_region_held3 (fun w' => w'.cell? ⟨w.heap.size, 0, none⟩ = some (.int .i64 now) ∧ w'.cell? ⟨w.heap.size, 1, none⟩ = some (.slice A zs.length cap) ∧ W0.heap.size ≤ w'.heap.size ∧ Below w.heap.size w w')
    (((try go_split_ands); refine ⟨?cc90, ?cc91, ?sz9, ?bl9⟩; (case cc90 => (repeat (first | with_reducible assumption | with_reducible refine cell_below hb (by first | omega | (simp; done) | (simp; omega)) ?_ | with_reducible refine cell_set_far (by first | omega | (simp; done) | (simp; omega)) ?_ | with_reducible exact cell_alloc_swap (by with_reducible assumption) (by first | omega | (simp; done) | (simp; omega)) | with_reducible refine cell_alloc_far ?_ | with_reducible refine cell_drew ?_))); (case cc91 => (repeat (first | with_reducible assumption | with_reducible refine cell_below hb (by first | omega | (simp; done) | (simp; omega)) ?_ | with_reducible refine cell_set_far (by first | omega | (simp; done) | (simp; omega)) ?_ | with_reducible exact cell_alloc_swap (by with_reducible assumption) (by first | omega | (simp; done) | (simp; omega)) | with_reducible refine cell_alloc_far ?_ | with_reducible refine cell_drew ?_))); (case sz9 => (first | with_reducible assumption | (have := hb.size; omega) | omega | (simp; done) | (simp; omega) | (have := hb.size; simp at this ⊢; omega))); (case bl9 => (repeat (first | with_reducible assumption | with_reducible exact hq0 | with_reducible refine Below.drew ?_ | with_reducible refine Below.trans ?_ (hb.mono (by first | omega | (simp; done) | (simp; omega))) | with_reducible refine Below.setCell ?_ (by first | omega | (simp; done) | (simp; omega)) _ | with_reducible exact below_alloc_swap (by with_reducible assumption) (by first | omega | (simp; done) | (simp; omega)) | with_reducible refine Below.alloc ?_ (by first | omega | (simp; done) | (simp; omega)) _)))))
    (first
      | (go_at_call 43; (try go_split_ands); (with_reducible refine (StoreAt_any A cap zs now st _ (Z0.out.below (by (repeat (first | with_reducible assumption | with_reducible exact hq0 | with_reducible refine Below.drew ?_ | with_reducible refine Below.trans ?_ (hb.mono (by first | omega | (simp; done) | (simp; omega))) | with_reducible refine Below.setCell ?_ (by first | omega | (simp; done) | (simp; omega)) _ | with_reducible exact below_alloc_swap (by with_reducible assumption) (by first | omega | (simp; done) | (simp; omega)) | with_reducible refine Below.alloc ?_ (by first | omega | (simp; done) | (simp; omega)) _)))) (by omega) HS.out).mono ?_); rw [HT.out]; rintro e wA ⟨AA, cA, rfl, ho, hb⟩; have RA := Lib.hid (rowsA_own ho rfl); clear ho; have hsz : W0.heap.size ≤ wA.heap.size := (by have := hb.size; first | omega | (simp at this; omega)); have qA0 : wA.cell? ⟨w.heap.size + 1, 0, none⟩ = some (.int .i64 0) := (by (repeat (first | with_reducible assumption | with_reducible refine cell_below hb (by first | omega | (simp; done) | (simp; omega)) ?_ | with_reducible refine cell_set_far (by first | omega | (simp; done) | (simp; omega)) ?_ | with_reducible exact cell_alloc_swap (by with_reducible assumption) (by first | omega | (simp; done) | (simp; omega)) | with_reducible refine cell_alloc_far ?_ | with_reducible refine cell_drew ?_))); have qA1 : wA.cell? ⟨w.heap.size + 1, 1, none⟩ = some (.slice none 0 0) := (by (repeat (first | with_reducible assumption | with_reducible refine cell_below hb (by first | omega | (simp; done) | (simp; omega)) ?_ | with_reducible refine cell_set_far (by first | omega | (simp; done) | (simp; omega)) ?_ | with_reducible exact cell_alloc_swap (by with_reducible assumption) (by first | omega | (simp; done) | (simp; omega)) | with_reducible refine cell_alloc_far ?_ | with_reducible refine cell_drew ?_))); have fA : (∀ o, wA.frozen? ⟨w.heap.size + 1, o, none⟩ = false) := (fun o => ((bcell hb).2 _ o (by first | omega | (simp; omega))).trans (rf o)))
      | (go_at_call 47; (try go_split_ands); (with_reducible refine (StoreSet_any A AA cap cA zs now tl _ (Z0.out.below (by (repeat (first | with_reducible assumption | with_reducible exact hq0 | with_reducible refine Below.drew ?_ | with_reducible refine Below.trans ?_ (hb.mono (by first | omega | (simp; done) | (simp; omega))) | with_reducible refine Below.setCell ?_ (by first | omega | (simp; done) | (simp; omega)) _ | with_reducible exact below_alloc_swap (by with_reducible assumption) (by first | omega | (simp; done) | (simp; omega)) | with_reducible refine Below.alloc ?_ (by first | omega | (simp; done) | (simp; omega)) _)))) HA.out HN.out RA.out hl (by omega) HS.out HTS.out).mono ?_); rw [HQ.out]; rintro e wB ⟨AB, cB, rfl, ho, hb⟩; have OB := Lib.hid (ownsBase (base' := w.heap.size + 2) (show wB.ownsRow _ 74 6 (.slice AB ys.length cB) ys.length (flatOf verC ys) from ho) (by first | omega | (simp; omega))); clear ho; have hsz : W0.heap.size ≤ wB.heap.size := (by have := hb.size; first | omega | (simp at this; omega)); have qB0 : wB.cell? ⟨w.heap.size + 1, 0, none⟩ = some (.int .i64 0) := (by (repeat (first | with_reducible assumption | with_reducible refine cell_below hb (by first | omega | (simp; done) | (simp; omega)) ?_ | with_reducible refine cell_set_far (by first | omega | (simp; done) | (simp; omega)) ?_ | with_reducible exact cell_alloc_swap (by with_reducible assumption) (by first | omega | (simp; done) | (simp; omega)) | with_reducible refine cell_alloc_far ?_ | with_reducible refine cell_drew ?_))); have qB1 : wB.cell? ⟨w.heap.size + 1, 1, none⟩ = some (.slice none 0 0) := (by (repeat (first | with_reducible assumption | with_reducible refine cell_below hb (by first | omega | (simp; done) | (simp; omega)) ?_ | with_reducible refine cell_set_far (by first | omega | (simp; done) | (simp; omega)) ?_ | with_reducible exact cell_alloc_swap (by with_reducible assumption) (by first | omega | (simp; done) | (simp; omega)) | with_reducible refine cell_alloc_far ?_ | with_reducible refine cell_drew ?_))); have fB : (∀ o, wB.frozen? ⟨w.heap.size + 1, o, none⟩ = false) := (fun o => ((bcell hb).2 _ o (by first | omega | (simp; omega))).trans (fA o))))
  all_goals (rename_i hH)
  all_goals go_wp2
  all_goals (refine bodyPost_ret (v := .tuple #[.agg #[.int .i64 n', .slice AB ys.length cB], .bool ok]) (by simp [results, Try.results27, go_sem, qB0, qB1]) rfl ?_)
  all_goals exact ⟨AB, cB, rfl, ownsBase (base := w.heap.size + 2) (owns_set_farV (owns_set_farV OB.out (by omega)) (by omega)) (by omega), hH.2.2.2⟩

set_option maxRecDepth 100000 in
set_option maxHeartbeats 8000000 in
theorem sStoreBack_any (A : Option Addr) (cap : Nat) (zs : List VerV) (now st : Int) (w : World) (hz : VersA w A zs) (hA : A = none ∨ ∃ b off, A = some ⟨b, off, none⟩) (hN : A = none → cap = 0) (hl : zs.length ≤ 1048576) (hs : ShortV zs) :
    Calls Try.prog 25 #[.agg #[.int .i64 now, .slice A zs.length cap], .int .i64 st] w (GetsSB w (backL zs now st)) := by
  have HS := Lib.hid hs
  have HA := Lib.hid hA
  have HN := Lib.hid hN
  have HTS := Lib.hid (at_short (now := now) (st := st) hs)
  have htl := storeAtL_len zs now st
  clear hs hA hN
  obtain ⟨sb, hsb⟩ : ∃ sb, storeB zs now = sb := ⟨_, rfl⟩
  have HSB := Lib.hid hsb
  clear hsb
  obtain ⟨tl, ht⟩ : ∃ tl, storeAtL zs now st = tl := ⟨_, rfl⟩
  have HT := Lib.hid ht
  obtain ⟨n', ys, ok, hq⟩ : ∃ n' ys ok, setP zs now tl = (n', ys, ok) := ⟨_, _, _, rfl⟩
  have HQ := Lib.hid hq
  rw [ht] at htl HTS
  rw [backL, ht, hq]
  clear ht hq
  go_enter Try.func25, Try.ntmps25
  go_wp2_with fail
  generalize hW : (w.alloc _).alloc _ = W0
  have s0 : W0.cell? ⟨w.heap.size, 0, none⟩ = some (.int .i64 now) := by rw [← hW]; simp [go_sem]
  have s1 : W0.cell? ⟨w.heap.size, 1, none⟩ = some (.slice A zs.length cap) := by rw [← hW]; simp [go_sem]
  have r0 : W0.cell? ⟨w.heap.size + 1, 0, none⟩ = some (.int .i64 0) := by rw [← hW]; simp [go_sem]
  have r1 : W0.cell? ⟨w.heap.size + 1, 1, none⟩ = some (.slice none 0 0) := by rw [← hW]; simp [go_sem]
  have rf : ∀ o, W0.frozen? ⟨w.heap.size + 1, o, none⟩ = false := fun o => by rw [← hW]; simp [go_sem]
  have ls : w.heap.size + 1 < W0.heap.size := by rw [← hW]; simp
  have hq0 : Below w.heap.size w W0 := by rw [← hW]; exact ((Below.refl _ _).alloc (Nat.le_refl _) _).alloc (by simp) _
  have Z0 := Lib.hid hz
  clear hW hz
  refine (l5Ok_any A cap zs now _ (Z0.out.below hq0) hl HS.out).mono ?_
  rw [HSB.out]
  rintro e w1 ⟨rfl, hb⟩
  replace s0 := cellBelow hb (by omega) s0
  replace s1 := cellBelow hb (by omega) s1
  replace r0 := cellBelow hb ls r0
  replace r1 := cellBelow hb ls r1
  replace rf : ∀ o, w1.frozen? ⟨w.heap.size + 1, o, none⟩ = false := fun o => ((bcell hb).2 _ o ls).trans (rf o)
  replace hq0 := hq0.trans (hb.mono hq0.size)
  replace ls := Nat.lt_of_lt_of_le ls hb.size
  clear hb W0
  obtain ⟨W0, rfl⟩ : ∃ W, W = w1 := ⟨_, rfl⟩
  cases sb
  · obtain ⟨rfl, rfl, rfl⟩ : n' = 0 ∧ ys = [] ∧ ok = false := by
      have := HQ.out
      rw [setP, if_neg (by rw [HSB.out]; simp)] at this
      injection this with a b
      injection b with b c
      exact ⟨a.symm, b.symm, c.symm⟩
    go_wp2
    refine bodyPost_ret (v := .tuple #[.agg #[.int .i64 0, .slice none 0 0], .bool false]) (by simp [results, Try.results25, go_sem, r0, r1]) rfl ?_
    exact ⟨none, 0, rfl, World.ownsRow_nil _ _ _ _, by repeat (first | exact hq0 | refine Below.setCell ?_ (by show w.heap.size ≤ w.heap.size + 1; omega) _)⟩
  have HTL := Lib.hid (show liveS zs (min st now) = tl from by rw [← HT.out, storeAtL, if_pos HSB.out])
  go_upto_region 3 with fail
  go_region_held3 (fun w' => w'.cell? ⟨w.heap.size, 0, none⟩ = some (.int .i64 now) ∧ w'.cell? ⟨w.heap.size, 1, none⟩ = some (.slice A zs.length cap) ∧ W0.heap.size ≤ w'.heap.size ∧ Below w.heap.size w w')
    (((try go_split_ands); refine ⟨?cc90, ?cc91, ?sz9, ?bl9⟩; (case cc90 => (repeat (first | with_reducible assumption | with_reducible refine cell_below hb (by first | omega | (simp; done) | (simp; omega)) ?_ | with_reducible refine cell_set_far (by first | omega | (simp; done) | (simp; omega)) ?_ | with_reducible exact cell_alloc_swap (by with_reducible assumption) (by first | omega | (simp; done) | (simp; omega)) | with_reducible refine cell_alloc_far ?_ | with_reducible refine cell_drew ?_))); (case cc91 => (repeat (first | with_reducible assumption | with_reducible refine cell_below hb (by first | omega | (simp; done) | (simp; omega)) ?_ | with_reducible refine cell_set_far (by first | omega | (simp; done) | (simp; omega)) ?_ | with_reducible exact cell_alloc_swap (by with_reducible assumption) (by first | omega | (simp; done) | (simp; omega)) | with_reducible refine cell_alloc_far ?_ | with_reducible refine cell_drew ?_))); (case sz9 => (first | with_reducible assumption | (have := hb.size; omega) | omega | (simp; done) | (simp; omega) | (have := hb.size; simp at this ⊢; omega))); (case bl9 => (repeat (first | with_reducible assumption | with_reducible exact hq0 | with_reducible refine Below.drew ?_ | with_reducible refine Below.trans ?_ (hb.mono (by first | omega | (simp; done) | (simp; omega))) | with_reducible refine Below.setCell ?_ (by first | omega | (simp; done) | (simp; omega)) _ | with_reducible exact below_alloc_swap (by with_reducible assumption) (by first | omega | (simp; done) | (simp; omega)) | with_reducible refine Below.alloc ?_ (by first | omega | (simp; done) | (simp; omega)) _)))))
    (first
      | (go_at_call 72; (try go_split_ands); (with_reducible refine (l5Clamp_any _ _ _ _ _ _).mono ?_); rintro e wC ⟨rfl, hb⟩; have hsz : W0.heap.size ≤ wC.heap.size := (by have := hb.size; first | omega | (simp at this; omega)); have qC0 : wC.cell? ⟨w.heap.size + 1, 0, none⟩ = some (.int .i64 0) := (by (repeat (first | with_reducible assumption | with_reducible refine cell_below hb (by first | omega | (simp; done) | (simp; omega)) ?_ | with_reducible refine cell_set_far (by first | omega | (simp; done) | (simp; omega)) ?_ | with_reducible exact cell_alloc_swap (by with_reducible assumption) (by first | omega | (simp; done) | (simp; omega)) | with_reducible refine cell_alloc_far ?_ | with_reducible refine cell_drew ?_))); have qC1 : wC.cell? ⟨w.heap.size + 1, 1, none⟩ = some (.slice none 0 0) := (by (repeat (first | with_reducible assumption | with_reducible refine cell_below hb (by first | omega | (simp; done) | (simp; omega)) ?_ | with_reducible refine cell_set_far (by first | omega | (simp; done) | (simp; omega)) ?_ | with_reducible exact cell_alloc_swap (by with_reducible assumption) (by first | omega | (simp; done) | (simp; omega)) | with_reducible refine cell_alloc_far ?_ | with_reducible refine cell_drew ?_))); have fC : (∀ o, wC.frozen? ⟨w.heap.size + 1, o, none⟩ = false) := (fun o => ((bcell hb).2 _ o (by first | omega | (simp; omega))).trans (rf o)))
      | (go_at_call 71; (try go_split_ands); (with_reducible refine (l5Live_any A cap zs (min st now) _ (Z0.out.below (by (repeat (first | with_reducible assumption | with_reducible exact hq0 | with_reducible refine Below.drew ?_ | with_reducible refine Below.trans ?_ (hb.mono (by first | omega | (simp; done) | (simp; omega))) | with_reducible refine Below.setCell ?_ (by first | omega | (simp; done) | (simp; omega)) _ | with_reducible exact below_alloc_swap (by with_reducible assumption) (by first | omega | (simp; done) | (simp; omega)) | with_reducible refine Below.alloc ?_ (by first | omega | (simp; done) | (simp; omega)) _)))) hl).mono ?_); rw [HTL.out]; rintro e wA ⟨AA, cA, rfl, ho, hb⟩; have RA := Lib.hid (rowsA_own ho rfl); clear ho; have hsz : W0.heap.size ≤ wA.heap.size := (by have := hb.size; first | omega | (simp at this; omega)); have qA0 : wA.cell? ⟨w.heap.size + 1, 0, none⟩ = some (.int .i64 0) := (by (repeat (first | with_reducible assumption | with_reducible refine cell_below hb (by first | omega | (simp; done) | (simp; omega)) ?_ | with_reducible refine cell_set_far (by first | omega | (simp; done) | (simp; omega)) ?_ | with_reducible exact cell_alloc_swap (by with_reducible assumption) (by first | omega | (simp; done) | (simp; omega)) | with_reducible refine cell_alloc_far ?_ | with_reducible refine cell_drew ?_))); have qA1 : wA.cell? ⟨w.heap.size + 1, 1, none⟩ = some (.slice none 0 0) := (by (repeat (first | with_reducible assumption | with_reducible refine cell_below hb (by first | omega | (simp; done) | (simp; omega)) ?_ | with_reducible refine cell_set_far (by first | omega | (simp; done) | (simp; omega)) ?_ | with_reducible exact cell_alloc_swap (by with_reducible assumption) (by first | omega | (simp; done) | (simp; omega)) | with_reducible refine cell_alloc_far ?_ | with_reducible refine cell_drew ?_))); have fA : (∀ o, wA.frozen? ⟨w.heap.size + 1, o, none⟩ = false) := (fun o => ((bcell hb).2 _ o (by first | omega | (simp; omega))).trans (fC o)))
      | (go_at_call 48; (try go_split_ands); (with_reducible refine (sStoreSet_any A AA cap cA zs now tl _ (Z0.out.below (by (repeat (first | with_reducible assumption | with_reducible exact hq0 | with_reducible refine Below.drew ?_ | with_reducible refine Below.trans ?_ (hb.mono (by first | omega | (simp; done) | (simp; omega))) | with_reducible refine Below.setCell ?_ (by first | omega | (simp; done) | (simp; omega)) _ | with_reducible exact below_alloc_swap (by with_reducible assumption) (by first | omega | (simp; done) | (simp; omega)) | with_reducible refine Below.alloc ?_ (by first | omega | (simp; done) | (simp; omega)) _)))) HA.out HN.out RA.out hl (by omega) HS.out HTS.out).mono ?_); rw [HQ.out]; rintro e wB ⟨AB, cB, rfl, ho, hb⟩; have OB := Lib.hid (ownsBase (base' := w.heap.size + 2) (show wB.ownsRow _ 74 6 (.slice AB ys.length cB) ys.length (flatOf verC ys) from ho) (by first | omega | (simp; omega))); clear ho; have hsz : W0.heap.size ≤ wB.heap.size := (by have := hb.size; first | omega | (simp at this; omega)); have qB0 : wB.cell? ⟨w.heap.size + 1, 0, none⟩ = some (.int .i64 0) := (by (repeat (first | with_reducible assumption | with_reducible refine cell_below hb (by first | omega | (simp; done) | (simp; omega)) ?_ | with_reducible refine cell_set_far (by first | omega | (simp; done) | (simp; omega)) ?_ | with_reducible exact cell_alloc_swap (by with_reducible assumption) (by first | omega | (simp; done) | (simp; omega)) | with_reducible refine cell_alloc_far ?_ | with_reducible refine cell_drew ?_))); have qB1 : wB.cell? ⟨w.heap.size + 1, 1, none⟩ = some (.slice none 0 0) := (by (repeat (first | with_reducible assumption | with_reducible refine cell_below hb (by first | omega | (simp; done) | (simp; omega)) ?_ | with_reducible refine cell_set_far (by first | omega | (simp; done) | (simp; omega)) ?_ | with_reducible exact cell_alloc_swap (by with_reducible assumption) (by first | omega | (simp; done) | (simp; omega)) | with_reducible refine cell_alloc_far ?_ | with_reducible refine cell_drew ?_))); have fB : (∀ o, wB.frozen? ⟨w.heap.size + 1, o, none⟩ = false) := (fun o => ((bcell hb).2 _ o (by first | omega | (simp; omega))).trans (fA o))))
  all_goals (rename_i hH)
  all_goals go_wp2
  all_goals (refine bodyPost_ret (v := .tuple #[.agg #[.int .i64 n', .slice AB ys.length cB], .bool ok]) (by simp [results, Try.results25, go_sem, qB0, qB1]) rfl ?_)
  all_goals exact ⟨AB, cB, rfl, ownsBase (base := w.heap.size + 2) (owns_set_farV (owns_set_farV OB.out (by omega)) (by omega)) (by omega), hH.2.2.2⟩
end Go.Proofs.Ytacddgipcafdlaa
