/-
  Walks: the table that a store was at a stamp.
-/
import Derived.Test.YtacddgipcafdlaaStoLa
namespace Go.Proofs.Ytacddgipcafdlaa
open Go.Shelf Go.RowKit Go.Lib Go.Sort

def storeAtL (zs : List VerV) (now s : Int) : List RowV := if storeB zs now = true then liveS zs (min s now) else []
theorem live_none {zs : List VerV} {now s : Int} (h : storeB zs now = true) (hs : s < 1) : liveL zs s = [] := by
  unfold liveL
  rw [List.map_eq_nil_iff, List.filter_eq_nil_iff]
  intro x hx
  have := ver_in h hx
  simp only [liveB, decide_eq_true_eq]
  omega
theorem at_eq {zs : List VerV} {now s : Int} {l : List RowV} (h : storeB zs now = true) (hl : Ordered l) (hp : l.Perm (liveL zs (min s now))) : l = liveS zs (min s now) := by
  obtain ⟨h0, _, h2⟩ := storeB_iff.1 h
  have hf := liveS_facts zs (min s now)
  by_cases hs : min s now < 1
  · rw [live_none h hs] at hp
    have h1 := hf.2
    rw [live_none h hs] at h1
    rw [hp.eq_nil, h1.eq_nil]
  · obtain ⟨q, hq⟩ : ∃ q : Nat, (q : Int) = min s now := ⟨(min s now).toNat, by omega⟩
    have h3 : relOk (liveS zs (min s now)) = true := by
      unfold stampsB at h2
      have h4 := List.all_eq_true.1 h2 q (by rw [List.mem_range]; omega)
      rw [← hq]; exact h4
    exact (rel_perm hl (hf.2.trans hp.symm) h3).symm
theorem storeAtL_len (zs : List VerV) (now s : Int) : (storeAtL zs now s).length ≤ zs.length := by
  unfold storeAtL
  split
  · exact liveS_len _ _
  · exact Nat.zero_le _

set_option maxRecDepth 100000 in
set_option maxHeartbeats 4000000 in
theorem StoreAt_any (A : Option Addr) (cap : Nat) (zs : List VerV) (now s : Int) (w : World) (hz : VersA w A zs) (hl : zs.length ≤ 1048577) (hs : ShortV zs) :
    Calls Try.prog 43 #[.agg #[.int .i64 now, .slice A zs.length cap], .int .i64 s] w (GetsE rowC 4 72 w (storeAtL zs now s)) := by
  have HS := Lib.hid hs
  clear hs
  obtain ⟨sb, hsb⟩ : ∃ sb, storeB zs now = sb := ⟨_, rfl⟩
  have HSB := Lib.hid hsb
  obtain ⟨r, hr⟩ : ∃ r, storeAtL zs now s = r := ⟨_, rfl⟩
  have HR := Lib.hid hr
  rw [hr]
  clear hsb hr
  go_enter Try.func43, Try.ntmps43
  go_wp2_with fail
  generalize hW : w.alloc _ = W0
  have s0 : W0.cell? ⟨w.heap.size, 0, none⟩ = some (.int .i64 now) := by rw [← hW]; simp [go_sem]
  have s1 : W0.cell? ⟨w.heap.size, 1, none⟩ = some (.slice A zs.length cap) := by rw [← hW]; simp [go_sem]
  have ls : w.heap.size < W0.heap.size := by rw [← hW]; simp
  have B0 := Lib.hid (show Below w.heap.size w W0 from by rw [← hW]; exact (Below.refl _ _).alloc (Nat.le_refl _) _)
  have HZ := Lib.hid (hz.below B0.out)
  obtain ⟨G, hG⟩ : ∃ G, w.heap.size = G := ⟨_, rfl⟩
  rw [hG] at s0 s1 ls ⊢
  clear hW hG hz
  refine (StoreOk_any A cap zs now _ HZ.out hl HS.out).mono ?_
  rw [HSB.out]
  rintro e w1 ⟨rfl, hb⟩
  replace s0 := cellBelow hb ls s0
  replace s1 := cellBelow hb ls s1
  have Z1 := Lib.hid (HZ.out.below hb)
  have B1 := Lib.hid (B0.out.trans (hb.mono B0.out.size))
  clear hb HZ B0 ls
  cases sb
  · have HE := Lib.hid (show r = [] from by rw [← HR.out, storeAtL, if_neg (by rw [HSB.out]; simp)])
    go_wp2
    go_ret
    rw [HE.out]
    exact getsE_nil _ _ _ B1.out
  · have HE := Lib.hid (show r = liveS zs (min s now) from by rw [← HR.out, storeAtL, if_pos HSB.out])
    go_wp2_with fail
    refine (storeAt_any A cap zs now s _ Z1.out hl).mono ?_
    rintro e w2 ⟨l, A2, c2, rfl, hor, hp, ho, hb⟩
    have HL := Lib.hid (show l = r from by rw [HE.out]; exact at_eq HSB.out hor hp)
    have O2 := Lib.hid (ownsBase (base' := w.heap.size) ho B1.out.size)
    have B2 := Lib.hid (B1.out.trans (hb.mono B1.out.size))
    clear hb ho hor hp Z1 B1 s0 s1
    obtain rfl := HL.out
    go_wp2
    go_ret
    exact ⟨A2, c2, rfl, O2.out, B2.out⟩

set_option maxHeartbeats 1000000 in
theorem l5Clamp_any (A : Option Addr) (n cap : Nat) (now s : Int) (w : World) :
    Calls Try.prog 72 #[.agg #[.int .i64 now, .slice A n cap], .int .i64 s] w fun e w' => e = .returned (.int .i64 (min s now)) ∧ Below w.heap.size w w' := by
  by_cases h : now < s
  · have HM := Lib.hid (show min s now = now by omega)
    go_enter Try.func72, Try.ntmps72
    go_wp2
    go_ret
    exact ⟨by rw [HM.out]; rfl, (Below.refl _ _).alloc (Nat.le_refl _) _⟩
  · have HM := Lib.hid (show min s now = s by omega)
    have h' : s ≤ now := by omega
    clear h
    go_enter Try.func72, Try.ntmps72
    go_wp2
    go_ret
    exact ⟨by rw [HM.out]; rfl, (Below.refl _ _).alloc (Nat.le_refl _) _⟩

set_option maxRecDepth 100000 in
set_option maxHeartbeats 4000000 in
theorem sStoreAt_any (A : Option Addr) (cap : Nat) (zs : List VerV) (now st : Int) (w : World) (hz : VersA w A zs) (hl : zs.length ≤ 1048576) (hs : ShortV zs) :
    Calls Try.prog 53 #[.agg #[.int .i64 now, .slice A zs.length cap], .int .i64 st] w (GetsE rowC 4 72 w (storeAtL zs now st)) := by
  have HS := Lib.hid hs
  clear hs
  obtain ⟨sb, hsb⟩ : ∃ sb, storeB zs now = sb := ⟨_, rfl⟩
  have HSB := Lib.hid hsb
  obtain ⟨r, hr⟩ : ∃ r, storeAtL zs now st = r := ⟨_, rfl⟩
  have HR := Lib.hid hr
  rw [hr]
  clear hsb hr
  go_enter Try.func53, Try.ntmps53
  go_wp2_with fail
  generalize hW : w.alloc _ = W0
  have s0 : W0.cell? ⟨w.heap.size, 0, none⟩ = some (.int .i64 now) := by rw [← hW]; simp [go_sem]
  have s1 : W0.cell? ⟨w.heap.size, 1, none⟩ = some (.slice A zs.length cap) := by rw [← hW]; simp [go_sem]
  have ls : w.heap.size < W0.heap.size := by rw [← hW]; simp
  have B0 := Lib.hid (show Below w.heap.size w W0 from by rw [← hW]; exact (Below.refl _ _).alloc (Nat.le_refl _) _)
  have HZ := Lib.hid (hz.below B0.out)
  obtain ⟨G, hG⟩ : ∃ G, w.heap.size = G := ⟨_, rfl⟩
  rw [hG] at s0 s1 ls ⊢
  clear hW hG hz
  refine (l5Ok_any A cap zs now _ HZ.out hl HS.out).mono ?_
  rw [HSB.out]
  rintro e w1 ⟨rfl, hb⟩
  replace s0 := cellBelow hb ls s0
  replace s1 := cellBelow hb ls s1
  have ls1 := Nat.lt_of_lt_of_le ls hb.size
  have Z1 := Lib.hid (HZ.out.below hb)
  have B1 := Lib.hid (B0.out.trans (hb.mono B0.out.size))
  clear hb HZ B0 ls
  cases sb
  · have HE := Lib.hid (show r = [] from by rw [← HR.out, storeAtL, if_neg (by rw [HSB.out]; simp)])
    go_wp2
    go_ret
    rw [HE.out]
    exact getsE_nil _ _ _ B1.out
  · have HE := Lib.hid (show r = liveS zs (min st now) from by rw [← HR.out, storeAtL, if_pos HSB.out])
    have hq0 : Below w1.heap.size w1 w1 := Below.refl _ _
    have hB1 := B1.out.size
    go_upto_region 3 with fail
    go_region_held3 (fun w' => w'.cell? ⟨G, 0, none⟩ = some (.int .i64 now) ∧ w'.cell? ⟨G, 1, none⟩ = some (.slice A zs.length cap) ∧ w1.heap.size ≤ w'.heap.size ∧ Below w1.heap.size w1 w')
      (((try go_split_ands); refine ⟨?cc90, ?cc91, ?sz9, ?bl9⟩; (case cc90 => (repeat (first | with_reducible assumption | with_reducible refine cell_below hb (by first | omega | (simp; done) | (simp; omega)) ?_ | with_reducible refine cell_set_far (by first | omega | (simp; done) | (simp; omega)) ?_ | with_reducible exact cell_alloc_swap (by with_reducible assumption) (by first | omega | (simp; done) | (simp; omega)) | with_reducible refine cell_alloc_far ?_ | with_reducible refine cell_drew ?_))); (case cc91 => (repeat (first | with_reducible assumption | with_reducible refine cell_below hb (by first | omega | (simp; done) | (simp; omega)) ?_ | with_reducible refine cell_set_far (by first | omega | (simp; done) | (simp; omega)) ?_ | with_reducible exact cell_alloc_swap (by with_reducible assumption) (by first | omega | (simp; done) | (simp; omega)) | with_reducible refine cell_alloc_far ?_ | with_reducible refine cell_drew ?_))); (case sz9 => (first | with_reducible assumption | (have := hb.size; omega) | omega | (simp; done) | (simp; omega) | (have := hb.size; simp at this ⊢; omega))); (case bl9 => (repeat (first | with_reducible assumption | with_reducible exact hq0 | with_reducible refine Below.drew ?_ | with_reducible refine Below.trans ?_ (hb.mono (by first | omega | (simp; done) | (simp; omega))) | with_reducible refine Below.setCell ?_ (by first | omega | (simp; done) | (simp; omega)) _ | with_reducible exact below_alloc_swap (by with_reducible assumption) (by first | omega | (simp; done) | (simp; omega)) | with_reducible refine Below.alloc ?_ (by first | omega | (simp; done) | (simp; omega)) _)))))
      (first
        | (go_at_call 72; (try go_split_ands); refine (l5Clamp_any _ _ _ _ _ _).mono ?_; rintro e wA ⟨rfl, hb⟩; have hsz : w1.heap.size ≤ wA.heap.size := (by have := hb.size; first | omega | (simp at this; omega)); obtain ⟨hc, hf, hlb⟩ := bcell3 hb)
        | (go_at_call 71; (try go_split_ands); refine (l5Live_any A cap zs (min st now) _ (Z1.out.below (by (repeat (first | with_reducible assumption | with_reducible exact hq0 | with_reducible refine Below.drew ?_ | with_reducible refine Below.trans ?_ (hb.mono (by first | omega | (simp; done) | (simp; omega))) | with_reducible refine Below.setCell ?_ (by first | omega | (simp; done) | (simp; omega)) _ | with_reducible exact below_alloc_swap (by with_reducible assumption) (by first | omega | (simp; done) | (simp; omega)) | with_reducible refine Below.alloc ?_ (by first | omega | (simp; done) | (simp; omega)) _)))) hl).mono ?_; rintro e wB ⟨AB, cB, rfl, ho, hb⟩; have OB := Lib.hid (ownsBase (base' := w.heap.size) ho (by have := hb.size; first | omega | (simp at this; omega) | (simp; omega))); clear ho; have hsz : w1.heap.size ≤ wB.heap.size := (by have := hb.size; first | omega | (simp at this; omega)); obtain ⟨hc, hf, hlb⟩ := bcell3 hb))
    all_goals go_wp2
    all_goals go_ret
    all_goals (rename_i hH; rw [HE.out]; exact ⟨AB, cB, rfl, OB.out, B1.out.trans (hH.2.2.2.mono B1.out.size)⟩)
end Go.Proofs.Ytacddgipcafdlaa
