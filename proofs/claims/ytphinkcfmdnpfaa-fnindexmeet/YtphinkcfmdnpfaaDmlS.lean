/-
  Walks: the model's changes of tables: l3Fits, l3Insert, RelMerge.
-/
import Derived.Test.YtphinkcfmdnpfaaCutS
namespace Go.Proofs.Ytphinkcfmdnpfaa
open Go.Shelf Go.RowKit Go.Lib Go.Sort

/-- The rows of a slice in another world. -/
theorem src_below {w w' : World} {A : Option Addr} {zs : List RowV} {cap : Nat} (h : RowsA w A zs) (hA : A = none → cap = 0) (hb : Below w.heap.size w w') : Src w' (.slice A zs.length cap) zs := src_of (h.below hb) hA

/-- A slice of rows and a bool, owned from a base on. -/
def GetsRBat (base : Nat) (w : World) (p : List RowV × Bool) (e : Ending) (w' : World) : Prop :=
  ∃ A cap, e = .returned (.tuple #[.slice A p.1.length cap, .bool p.2]) ∧ w'.ownsRow base 70 4 (.slice A p.1.length cap) p.1.length (flatOf rowC p.1) ∧ Below w.heap.size w w'

set_option maxRecDepth 100000 in
set_option maxHeartbeats 1000000 in
theorem l3Fits_any (base : Nat) (A B : Option Addr) (ca cb : Nat) (ts old : List RowV) (w : World) (ho : w.ownsRow base 70 4 (.slice A ts.length ca) ts.length (flatOf rowC ts)) (hb : base ≤ w.heap.size) (hz : RowsA w B old) (hN : B = none → cb = 0) (hl : old.length ≤ 1048577) (hlt : ts.length ≤ 4194304) :
    Calls Try.prog 160 #[.slice A ts.length ca, .slice B old.length cb] w (GetsRBat base w (fitsL ts old)) := by
  obtain ⟨i0, hi, hz0, hz1, hz2⟩ := info_parts Try.infoR70
  have Hi := Lib.hid hi
  have Hz0 := Lib.hid hz0
  have Hz1 := Lib.hid hz1
  have Hz2 := Lib.hid hz2
  clear hi hz0 hz1 hz2
  have HO := Lib.hid ho
  have HZ := Lib.hid hz
  have HNn := Lib.hid hN
  clear ho hz hN
  by_cases h24 : ts.length ≤ 24
  · have HF := Lib.hid (show fitsL ts old = (ts, true) from if_pos h24)
    go_enter Try.func160, Try.ntmps160
    go_wp2
    refine bodyPost_ret (v := .tuple #[.slice A ts.length ca, .bool true]) (by simp [results, Try.results160, go_sem]) rfl ?_
    rw [HF.out]
    exact ⟨A, ca, rfl, HO.out, Below.refl _ _⟩
  · have HF := Lib.hid (show fitsL ts old = (old, false) from if_neg h24)
    have h24' : (24 : Int) < (ts.length : Int) := by omega
    have OL := Lib.hid (World.ownsRow_lit (base := base) (e := 70) (size := 4) w #[] 0 hb (by simp [maxLen]) (by simp))
    have SL := Lib.hid (src_below HZ.out HNn.out ((Below.refl w.heap.size w).alloc (Nat.le_refl _) (.cells #[] 70)))
    go_enter Try.func160, Try.ntmps160
    go_wp2_with (at_builtin; refine wpList_append_src _ rfl _ _ 23 rfl base 70 i0 _ 48 Try.underlying23 Hi.out Hz0.out Hz1.out Hz2.out rfl (.slice (some ⟨w.heap.size, 0, none⟩) 0 0) 0 [] rfl OL.out _ old rfl SL.out (by unfold maxLen; omega) (by omega) (by simp; omega) ?_; rw [List.nil_append, Nat.zero_add]; intro v1 w9 ho1 hg1; obtain ⟨A1, k1, rfl⟩ := owns_formN ho1; have O1 := Lib.hid ho1; have B1 := Lib.hid (((Below.refl w.heap.size w).alloc (Nat.le_refl _) (.cells #[] 70)).grown hg1 (by simp) (fun i e => by simp [Value.ownBlock] at e; omega)); clear ho1 hg1)
    refine bodyPost_ret (v := .tuple #[.slice A1 old.length k1, .bool false]) (by simp [results, Try.results160, go_sem]) rfl ?_
    rw [HF.out]
    exact ⟨A1, k1, rfl, O1.out, B1.out⟩

theorem putR_len (l : List RowV) (r : RowV) : (putR l r).length = l.length + 1 := by
  have := (putR_perm l r).length_eq
  simpa using this

set_option maxRecDepth 100000 in
set_option maxHeartbeats 1000000 in
theorem l3Insert_any (A : Option Addr) (cap : Nat) (zs : List RowV) (r : RowV) (w : World) (hz : RowsA w A zs) (hN : A = none → cap = 0) (hcap : zs.length ≤ cap) (hl : zs.length ≤ 1048576) :
    Calls Try.prog 161 #[.slice A zs.length cap, .agg #[.string r.k, .string r.t, .int .i64 r.f, .int .i64 r.e]] w (GetsE rowC 4 70 w (joinRows (putR zs r))) := by
  go_enter Try.func161, Try.ntmps161
  go_wp2_with fail
  generalize hW : w.alloc _ = W0
  obtain ⟨rb, hrb⟩ : ∃ rb, w.heap.size = rb := ⟨_, rfl⟩
  have r0 : W0.cell? ⟨rb, 0, none⟩ = some (.string r.k) := by rw [← hW, ← hrb]; simp [go_sem]
  have r1 : W0.cell? ⟨rb, 1, none⟩ = some (.string r.t) := by rw [← hW, ← hrb]; simp [go_sem]
  have r2 : W0.cell? ⟨rb, 2, none⟩ = some (.int .i64 r.f) := by rw [← hW, ← hrb]; simp [go_sem]
  have r3 : W0.cell? ⟨rb, 3, none⟩ = some (.int .i64 r.e) := by rw [← hW, ← hrb]; simp [go_sem]
  have lrb : rb < W0.heap.size := by rw [← hW, ← hrb]; simp
  have lrb0 : rb ≤ W0.heap.size := Nat.le_of_lt lrb
  have B0 := Lib.hid (show Below rb w W0 from by rw [← hW]; exact (Below.refl _ _).alloc (by omega) _)
  have HZ := Lib.hid (show RowsA W0 A zs from hz.below (by have := B0.out; rw [← hrb] at this; exact this))
  rw [hrb]
  have HRB := Lib.hid hrb
  clear hW hz hrb
  have hpl := putR_len zs r
  refine (l2Put_any A cap zs r W0 HZ.out hN hcap (by omega)).mono ?_
  rintro e w1 ⟨A1, c1, rfl, ho1, hb1⟩
  obtain ⟨ps, hps⟩ : ∃ ps, putR zs r = ps := ⟨_, rfl⟩
  rw [hps] at ho1 hpl ⊢
  have O1 := Lib.hid ho1
  have HB1 := Lib.hid (B0.out.trans (hb1.mono lrb0))
  have l1 : rb ≤ w1.heap.size := Nat.le_trans lrb0 hb1.size
  have hpl2 : ps.length ≤ 1048577 := by omega
  have HPS := Lib.hid hps
  clear ho1 hb1 hps r0 r1 r2 r3 hpl
  go_wp2_with fail
  refine (l2Join_any A1 c1 ps w1 (rowsA_own O1.out rfl) hpl2).mono ?_
  rintro e w2 ⟨A2, c2, rfl, ho2, hb2⟩
  obtain ⟨js, hjs⟩ : ∃ js, joinRows ps = js := ⟨_, rfl⟩
  rw [hjs] at ho2 ⊢
  have HJS := Lib.hid hjs
  have O2 := Lib.hid ho2
  have HB2 := Lib.hid (HB1.out.trans (hb2.mono l1))
  clear ho2 hb2 hjs
  go_wp2
  go_ret
  rw [HPS.out, HJS.out]
  exact ⟨A2, c2, rfl, owns_baseE O2.out (by rw [HRB.out]; omega), by rw [HRB.out]; exact HB2.out⟩

def mergeS (zs : List RowV) (r : RowV) : List RowV × Bool := if relOk zs = true then (if rowOk r = true then mergeL zs r else (zs, false)) else ([], false)
theorem cut_owncap {w : World} {base n cap : Nat} {A : Option Addr} {t : TypeId} {xs : List Value} (h : w.ownsRow base t 4 (.slice A n cap) n xs) : n ≤ cap := owns_cap h

set_option maxRecDepth 100000 in
set_option maxHeartbeats 4000000 in
theorem sRelMerge_any (A : Option Addr) (cap : Nat) (zs : List RowV) (r : RowV) (w : World) (hz : RowsA w A zs) (hN : A = none → cap = 0) (hl : zs.length ≤ 1048577) (hs : Short zs) (hr : r.k.size ≤ maxLen ∧ r.t.size ≤ maxLen) :
    Calls Try.prog 142 #[.slice A zs.length cap, .agg #[.string r.k, .string r.t, .int .i64 r.f, .int .i64 r.e]] w (GetsRB w (mergeS zs r)) := by
  obtain ⟨i0, hi, hz0, hz1, hz2⟩ := info_parts Try.infoR70
  have Hi := Lib.hid hi
  have Hz0 := Lib.hid hz0
  have Hz1 := Lib.hid hz1
  have Hz2 := Lib.hid hz2
  clear hi hz0 hz1 hz2
  have HS := Lib.hid hs
  have HNn := Lib.hid hN
  have HR := Lib.hid hr
  obtain ⟨o, ho⟩ : ∃ o, relOk zs = o := ⟨_, rfl⟩
  have HO := Lib.hid ho
  obtain ⟨ro, hro⟩ : ∃ ro, rowOk r = ro := ⟨_, rfl⟩
  have HRO := Lib.hid hro
  clear hs hN hr ho hro
  go_enter Try.func142, Try.ntmps142
  go_wp2_with fail
  generalize hW : w.alloc _ = W0
  obtain ⟨rb, hrb⟩ : ∃ rb, w.heap.size = rb := ⟨_, rfl⟩
  have r0 : W0.cell? ⟨rb, 0, none⟩ = some (.string r.k) := by rw [← hW, ← hrb]; simp [go_sem]
  have r1 : W0.cell? ⟨rb, 1, none⟩ = some (.string r.t) := by rw [← hW, ← hrb]; simp [go_sem]
  have r2 : W0.cell? ⟨rb, 2, none⟩ = some (.int .i64 r.f) := by rw [← hW, ← hrb]; simp [go_sem]
  have r3 : W0.cell? ⟨rb, 3, none⟩ = some (.int .i64 r.e) := by rw [← hW, ← hrb]; simp [go_sem]
  have lrb : rb < W0.heap.size := by rw [← hW, ← hrb]; simp
  have lrb0 : rb ≤ W0.heap.size := Nat.le_of_lt lrb
  have B0 := Lib.hid (show Below rb w W0 from by rw [← hW]; exact (Below.refl _ _).alloc (by omega) _)
  have HZ := Lib.hid (show RowsA W0 A zs from hz.below (by have := B0.out; rw [← hrb] at this; exact this))
  rw [hrb]
  have HRB := Lib.hid hrb
  clear hW hz hrb
  refine (l2Ok_any A cap zs W0 HZ.out hl HS.out).mono ?_
  rintro e w1 ⟨rfl, hb1⟩
  rw [HO.out]
  replace r0 := cellBelow hb1 lrb r0
  replace r1 := cellBelow hb1 lrb r1
  replace r2 := cellBelow hb1 lrb r2
  replace r3 := cellBelow hb1 lrb r3
  replace lrb := Nat.lt_of_lt_of_le lrb hb1.size
  have B1 := Lib.hid hb1
  have BW := Lib.hid (B0.out.trans (hb1.mono lrb0))
  clear hb1
  cases o
  · have HM := Lib.hid (show mergeS zs r = ([], false) from if_neg (by rw [HO.out]; simp))
    go_wp2
    refine bodyPost_ret (v := .tuple #[.slice none 0 0, .bool false]) (by simp [results, Try.results142, go_sem]) rfl ?_
    rw [HM.out]
    exact ⟨none, 0, rfl, World.ownsRow_nil _ _ _ _, by rw [HRB.out]; exact BW.out⟩
  · have hlen := relOk_len HO.out
    go_wp2_with fail
    refine (l2RowOk_val r _ ro HR.out.1 HR.out.2 HRO.out).mono ?_
    rintro e w2 ⟨rfl, hb2⟩
    have l1 : rb ≤ w1.heap.size := Nat.le_of_lt lrb
    replace r0 := cellBelow hb2 lrb r0
    replace r1 := cellBelow hb2 lrb r1
    replace r2 := cellBelow hb2 lrb r2
    replace r3 := cellBelow hb2 lrb r3
    replace lrb := Nat.lt_of_lt_of_le lrb hb2.size
    have Z2 := Lib.hid ((HZ.out.below B1.out).below hb2)
    have BW2 := Lib.hid (BW.out.trans (hb2.mono l1))
    have hs2 : rb ≤ w2.heap.size := Nat.le_of_lt lrb
    clear hb2 BW
    cases ro
    · have HM := Lib.hid (show mergeS zs r = (zs, false) from by unfold mergeS; rw [if_pos HO.out, if_neg (by rw [HRO.out]; simp)])
      have OL := Lib.hid (World.ownsRow_lit (base := rb) (e := 70) (size := 4) w2 #[] 0 hs2 (by simp [maxLen]) (by simp))
      have SL := Lib.hid (src_below Z2.out HNn.out ((Below.refl w2.heap.size w2).alloc (Nat.le_refl _) (.cells #[] 70)))
      go_wp2_with (at_builtin; refine wpList_append_src _ rfl _ _ 23 rfl rb 70 i0 _ 48 Try.underlying23 Hi.out Hz0.out Hz1.out Hz2.out rfl (.slice (some ⟨w2.heap.size, 0, none⟩) 0 0) 0 [] rfl OL.out _ zs rfl SL.out (by unfold maxLen; omega) (by omega) (by simp; omega) ?_; rw [List.nil_append, Nat.zero_add]; intro v1 w9 ho1 hg1; obtain ⟨A1, k1, rfl⟩ := owns_formN ho1; have O1 := Lib.hid ho1; have B9 := Lib.hid (BW2.out.trans ((((Below.refl w2.heap.size w2).alloc (Nat.le_refl _) (.cells #[] 70)).grown hg1 (by simp) (fun i e => by simp [Value.ownBlock] at e; omega)).mono hs2)); clear ho1 hg1)
      refine bodyPost_ret (v := .tuple #[.slice A1 zs.length k1, .bool false]) (by simp [results, Try.results142, go_sem]) rfl ?_
      rw [HM.out]
      exact ⟨A1, k1, rfl, by rw [HRB.out]; exact O1.out, by rw [HRB.out]; exact B9.out⟩
    · have HM := Lib.hid (show mergeS zs r = fitsL (joinRows (putR (cutL zs r.k r.f r.e) r)) zs from by unfold mergeS; rw [if_pos HO.out, if_pos HRO.out]; rfl)
      have hcl := cutL_len r.k r.f r.e zs
      have hpl := putR_len (cutL zs r.k r.f r.e) r
      obtain ⟨cs, hcs⟩ : ∃ cs, cutL zs r.k r.f r.e = cs := ⟨_, rfl⟩
      rw [hcs] at HM hcl hpl
      have hjl := joinRows_len (putR cs r)
      obtain ⟨js, hjs⟩ : ∃ js, joinRows (putR cs r) = js := ⟨_, rfl⟩
      rw [hjs] at HM hjl
      have HCS := Lib.hid hcs
      have HJS := Lib.hid hjs
      have hcl2 : cs.length ≤ 1048576 := by omega
      have hjl2 : js.length ≤ 4194304 := by omega
      clear hcs hjs hcl hpl hjl
      have hq0 : Below w2.heap.size w2 w2 := Below.refl _ _
      go_wp2_with fail
      go_region_held3 (fun w' => w'.cell? ⟨rb, 0, none⟩ = some (.string r.k) ∧ w'.cell? ⟨rb, 1, none⟩ = some (.string r.t) ∧ w'.cell? ⟨rb, 2, none⟩ = some (.int .i64 r.f) ∧ w'.cell? ⟨rb, 3, none⟩ = some (.int .i64 r.e) ∧ w2.heap.size ≤ w'.heap.size ∧ Below w2.heap.size w2 w')
        (((try go_split_ands); refine ⟨?c0, ?c1, ?c2, ?c3, ?s, ?b⟩; (case c0 => (repeat (first | with_reducible assumption | with_reducible refine cell_below hb (by first | omega | (simp; done) | (simp; omega)) ?_ | with_reducible refine cell_set_far (by first | omega | (simp; done) | (simp; omega)) ?_ | with_reducible exact cell_alloc_swap (by with_reducible assumption) (by first | omega | (simp; done) | (simp; omega)) | with_reducible refine cell_alloc_far ?_ | with_reducible refine cell_drew ?_))); (case c1 => (repeat (first | with_reducible assumption | with_reducible refine cell_below hb (by first | omega | (simp; done) | (simp; omega)) ?_ | with_reducible refine cell_set_far (by first | omega | (simp; done) | (simp; omega)) ?_ | with_reducible exact cell_alloc_swap (by with_reducible assumption) (by first | omega | (simp; done) | (simp; omega)) | with_reducible refine cell_alloc_far ?_ | with_reducible refine cell_drew ?_))); (case c2 => (repeat (first | with_reducible assumption | with_reducible refine cell_below hb (by first | omega | (simp; done) | (simp; omega)) ?_ | with_reducible refine cell_set_far (by first | omega | (simp; done) | (simp; omega)) ?_ | with_reducible exact cell_alloc_swap (by with_reducible assumption) (by first | omega | (simp; done) | (simp; omega)) | with_reducible refine cell_alloc_far ?_ | with_reducible refine cell_drew ?_))); (case c3 => (repeat (first | with_reducible assumption | with_reducible refine cell_below hb (by first | omega | (simp; done) | (simp; omega)) ?_ | with_reducible refine cell_set_far (by first | omega | (simp; done) | (simp; omega)) ?_ | with_reducible exact cell_alloc_swap (by with_reducible assumption) (by first | omega | (simp; done) | (simp; omega)) | with_reducible refine cell_alloc_far ?_ | with_reducible refine cell_drew ?_))); (case s => (first | with_reducible assumption | (have := hb.size; omega) | omega | (simp; done) | (simp; omega) | (have := hb.size; simp at this ⊢; omega))); (case b => (repeat (first | with_reducible assumption | with_reducible exact hq0 | with_reducible refine Below.drew ?_ | with_reducible refine Below.trans ?_ (hb.mono (by first | omega | (simp; done) | (simp; omega))) | with_reducible refine Below.setCell ?_ (by first | omega | (simp; done) | (simp; omega)) _ | with_reducible exact below_alloc_swap (by with_reducible assumption) (by first | omega | (simp; done) | (simp; omega)) | with_reducible refine Below.alloc ?_ (by first | omega | (simp; done) | (simp; omega)) _)))))
        (first
          | (go_at_call 126; refine (l3Cut_any A cap zs r.k r.f r.e _ (Z2.out.below (Below.drew hq0)) hl).mono ?_; rw [HCS.out]; rintro e w3 ⟨A3, c3, rfl, ho3, hb⟩; have O3 := Lib.hid ho3; have Z3 := Lib.hid ((Z2.out.below (Below.drew hq0)).below hb); have hsz : w2.heap.size ≤ w3.heap.size := hb.size; obtain ⟨hc, hf, hlb⟩ := bcell3 hb; clear ho3)
          | (go_at_call 161; refine (l3Insert_any A3 c3 cs r _ (rowsA_own O3.out rfl) (owns_nilcap O3.out) (owns_cap O3.out) hcl2).mono ?_; rw [HJS.out]; rintro e w4 ⟨A4, c4, rfl, ho4, hb⟩; have O4 := Lib.hid ho4; have Z4 := Lib.hid (Z3.out.below hb); have hsz4 : w3.heap.size ≤ w4.heap.size := hb.size; clear ho4)
          | (go_at_call 160; refine (l3Fits_any w3.heap.size A4 A c4 cap js zs _ O4.out hsz4 Z4.out HNn.out hl hjl2).mono ?_; rintro e w5 ⟨A5, c5, rfl, ho5, hb⟩; have O5 := Lib.hid ho5; clear ho5))
      all_goals (go_wp2_with fail)
      all_goals (
        rename_i hHd
        refine bodyPost_ret (v := .tuple #[.slice A5 (fitsL js zs).1.length c5, .bool (fitsL js zs).2]) (by simp [results, Try.results142, go_sem]) rfl ?_
        rw [HM.out]
        exact ⟨A5, c5, rfl, owns_baseE O5.out (by rw [HRB.out]; omega), by rw [HRB.out]; exact BW2.out.trans (hHd.2.2.2.2.2.mono hs2)⟩)
end Go.Proofs.Ytphinkcfmdnpfaa
