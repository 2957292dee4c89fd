/-
  Walks: the model's RelInsert, RelDelete; the program's RelDelete.
-/
import Derived.Test.YtgclmldhdjmabaaDmlA
import Derived.Test.YtgclmldhdjmabaaRelOfS
import Derived.Deep.RegionWith
namespace Go.Proofs.Ytgclmldhdjmabaa
open Go.Shelf Go.RowKit Go.Lib Go.Sort

theorem insert_held {zs : List RowV} {r : RowV} (h : holdsR zs r = true) : insertL zs r = (zs, false) := if_neg (by simp [h])
theorem insert_free {zs : List RowV} {r : RowV} (h1 : rowOk r = true) (h2 : holdsR zs r = false) : insertL zs r = fitsL (joinRows (putR zs r)) zs := if_pos ⟨h1, h2⟩

set_option maxRecDepth 100000 in
set_option maxHeartbeats 4000000 in
theorem sRelInsert_any (A : Option Addr) (cap : Nat) (zs : List RowV) (r : RowV) (w : World) (hz : RowsA w A zs) (hN : A = none → cap = 0) (hcap : zs.length ≤ cap) (hl : zs.length ≤ 1048577) (hs : Short zs) (hr : r.k.size ≤ maxLen ∧ r.t.size ≤ maxLen) :
    Calls Try.prog 37 #[.slice A zs.length cap, .agg #[.string r.k, .string r.t, .int .i64 r.f, .int .i64 r.e]] w (GetsRB w (insertS zs r)) := by
  obtain ⟨i0, hi, hz0, hz1, hz2⟩ := info_parts Try.infoR34
  have Hi := Lib.hid hi
  have Hz0 := Lib.hid hz0
  have Hz1 := Lib.hid hz1
  have Hz2 := Lib.hid hz2
  clear hi hz0 hz1 hz2
  have HS := Lib.hid hs
  have HNn := Lib.hid hN
  have HR := Lib.hid hr
  have HCp := Lib.hid hcap
  obtain ⟨o, ho⟩ : ∃ o, relOk zs = o := ⟨_, rfl⟩
  have HO := Lib.hid ho
  obtain ⟨ro, hro⟩ : ∃ ro, rowOk r = ro := ⟨_, rfl⟩
  have HRO := Lib.hid hro
  clear hs hN hr ho hro hcap
  go_enter Try.func37, Try.ntmps37
  go_wp2_with fail
  generalize hW : w.alloc _ = W0
  obtain ⟨rb, hrb⟩ : ∃ rb, w.heap.size = rb := ⟨_, rfl⟩
  have r0 : W0.cell? ⟨rb, 0, none⟩ = some (.string r.k) := by rw [← hW, ← hrb]; simp [go_sem]
  have r1 : W0.cell? ⟨rb, 1, none⟩ = some (.string r.t) := by rw [← hW, ← hrb]; simp [go_sem]
  have r2 : W0.cell? ⟨rb, 2, none⟩ = some (.int .i64 r.f) := by rw [← hW, ← hrb]; simp [go_sem]
  have r3 : W0.cell? ⟨rb, 3, none⟩ = some (.int .i64 r.e) := by rw [← hW, ← hrb]; simp [go_sem]
  have lrb : rb < W0.heap.size := by rw [← hW, ← hrb]; simp
  have lrb0 : rb ≤ W0.heap.size := Nat.le_of_lt lrb
  have B0 := Lib.hid (show Below rb w W0 from by rw [← hW]; exact (Below.refl _ _).alloc (by omega) _)
  have HZ := Lib.hid (show RowsA W0 A zs from hz.below (by have := B0.out; rw [← hrb] at this; exact this))
  rw [hrb]
  have HRB := Lib.hid hrb
  clear hW hz hrb
  refine (l2Ok_any A cap zs W0 HZ.out hl HS.out).mono ?_
  rintro e w1 ⟨rfl, hb1⟩
  rw [HO.out]
  replace r0 := cellBelow hb1 lrb r0
  replace r1 := cellBelow hb1 lrb r1
  replace r2 := cellBelow hb1 lrb r2
  replace r3 := cellBelow hb1 lrb r3
  replace lrb := Nat.lt_of_lt_of_le lrb hb1.size
  have Z1 := Lib.hid (HZ.out.below hb1)
  have BW := Lib.hid (B0.out.trans (hb1.mono lrb0))
  have BWs : rb ≤ w1.heap.size := Nat.le_of_lt lrb
  clear hb1
  cases o
  · have HM := Lib.hid (show insertS zs r = ([], false) from if_neg (by rw [HO.out]; simp))
    go_wp2
    refine bodyPost_ret (v := .tuple #[.slice none 0 0, .bool false]) (by simp [results, Try.results37, go_sem]) rfl ?_
    rw [HM.out]
    exact ⟨none, 0, rfl, World.ownsRow_nil _ _ _ _, by rw [HRB.out]; exact BW.out⟩
  · have hlen := relOk_len HO.out
    have HI := Lib.hid (show insertS zs r = insertL zs r from if_pos HO.out)
    go_wp2_with fail
    refine (l2RowOk_val r _ ro HR.out.1 HR.out.2 HRO.out).mono ?_
    rintro e w2 ⟨rfl, hb2⟩
    replace r0 := cellBelow hb2 lrb r0
    replace r1 := cellBelow hb2 lrb r1
    replace r2 := cellBelow hb2 lrb r2
    replace r3 := cellBelow hb2 lrb r3
    replace lrb := Nat.lt_of_lt_of_le lrb hb2.size
    have Z2 := Lib.hid (Z1.out.below hb2)
    have BW2 := Lib.hid (BW.out.trans (hb2.mono BWs))
    have BW2s : rb ≤ w2.heap.size := Nat.le_of_lt lrb
    clear hb2 BW Z1
    cases ro
    · have HM := Lib.hid (HI.out.trans (insert_bad HRO.out))
      have OL := Lib.hid (World.ownsRow_lit (base := rb) (e := 34) (size := 4) w2 #[] 0 BW2s (by simp [maxLen]) (by simp))
      have SL := Lib.hid (src_below Z2.out HNn.out ((Below.refl w2.heap.size w2).alloc (Nat.le_refl _) (.cells #[] 34)))
      go_wp2_with (at_builtin; refine wpList_append_src _ rfl _ _ 23 rfl rb 34 i0 _ 48 Try.underlying23 Hi.out Hz0.out Hz1.out Hz2.out rfl (.slice (some ⟨w2.heap.size, 0, none⟩) 0 0) 0 [] rfl OL.out _ zs rfl SL.out (by unfold maxLen; omega) (by omega) (by simp; omega) ?_; rw [List.nil_append, Nat.zero_add]; intro v1 w9 ho1 hg1; obtain ⟨A1, k1, rfl⟩ := owns_formN ho1; have O1 := Lib.hid ho1; have B9 := Lib.hid (BW2.out.trans ((((Below.refl w2.heap.size w2).alloc (Nat.le_refl _) (.cells #[] 34)).grown hg1 (by simp) (fun i e => by simp [Value.ownBlock] at e; omega)).mono BW2s)); clear ho1 hg1)
      refine bodyPost_ret (v := .tuple #[.slice A1 zs.length k1, .bool false]) (by simp [results, Try.results37, go_sem]) rfl ?_
      rw [HM.out]
      exact ⟨A1, k1, rfl, by rw [HRB.out]; exact O1.out, by rw [HRB.out]; exact B9.out⟩
    · obtain ⟨hv, hhv⟩ : ∃ hv, holdsS zs r.k r.f r.e = hv := ⟨_, rfl⟩
      have HV := Lib.hid hhv
      clear hhv
      go_wp2_with fail
      refine (l2Holds_val A cap zs _ _ _ _ hv Z2.out (by omega) HV.out).mono ?_
      rintro e w3 ⟨rfl, hb3⟩
      replace r0 := cellBelow hb3 lrb r0
      replace r1 := cellBelow hb3 lrb r1
      replace r2 := cellBelow hb3 lrb r2
      replace r3 := cellBelow hb3 lrb r3
      replace lrb := Nat.lt_of_lt_of_le lrb hb3.size
      have Z3 := Lib.hid (Z2.out.below hb3)
      have BW3 := Lib.hid (BW2.out.trans (hb3.mono BW2s))
      have BW3s : rb ≤ w3.heap.size := Nat.le_of_lt lrb
      clear hb3 BW2 Z2
      cases hv
      · have HM := Lib.hid (HI.out.trans (insert_free HRO.out (by rw [← holdsS_R]; exact HV.out)))
        have hpl := putR_len zs r
        have hjl := joinRows_len (putR zs r)
        obtain ⟨js, hjs⟩ : ∃ js, joinRows (putR zs r) = js := ⟨_, rfl⟩
        rw [hjs] at HM hjl
        have HJS := Lib.hid hjs
        have hjl2 : js.length ≤ 4194304 := by omega
        clear hjs hpl hjl
        go_wp2_with fail
        refine (l3Insert_any A cap zs r _ Z3.out HNn.out HCp.out (by omega)).mono ?_
        rw [HJS.out]
        rintro e w4 ⟨A4, c4, rfl, ho4, hb4⟩
        have O4 := Lib.hid ho4
        have Z4 := Lib.hid (Z3.out.below hb4)
        have BW4 := Lib.hid (BW3.out.trans (hb4.mono BW3s))
        have hsz4 := hb4.size
        have BW4s : rb ≤ w4.heap.size := Nat.le_trans BW3s hsz4
        clear ho4 hb4 r0 r1 r2 r3
        go_wp2_with fail
        refine (l3Fits_any w3.heap.size A4 A c4 cap js zs _ O4.out hsz4 Z4.out HNn.out (by omega) hjl2).mono ?_
        rintro e w8 ⟨A8, c8, rfl, ho8, hb8⟩
        have O8 := Lib.hid (owns_baseE (base' := rb) ho8 (by omega))
        have B8 := Lib.hid (BW4.out.trans (hb8.mono BW4s))
        clear ho8 hb8
        generalize fitsL js zs = p at *
        go_wp2
        refine bodyPost_ret (v := .tuple #[.slice A8 p.1.length c8, .bool p.2]) (by simp [results, Try.results37, go_sem]) rfl ?_
        rw [HM.out]
        exact ⟨A8, c8, rfl, by rw [HRB.out]; exact O8.out, by rw [HRB.out]; exact B8.out⟩
      · have HM := Lib.hid (HI.out.trans (insert_held (by rw [← holdsS_R]; exact HV.out)))
        have OL := Lib.hid (World.ownsRow_lit (base := rb) (e := 34) (size := 4) w3 #[] 0 BW3s (by simp [maxLen]) (by simp))
        have SL := Lib.hid (src_below Z3.out HNn.out ((Below.refl w3.heap.size w3).alloc (Nat.le_refl _) (.cells #[] 34)))
        go_wp2_with (at_builtin; refine wpList_append_src _ rfl _ _ 23 rfl rb 34 i0 _ 48 Try.underlying23 Hi.out Hz0.out Hz1.out Hz2.out rfl (.slice (some ⟨w3.heap.size, 0, none⟩) 0 0) 0 [] rfl OL.out _ zs rfl SL.out (by unfold maxLen; omega) (by omega) (by simp; omega) ?_; rw [List.nil_append, Nat.zero_add]; intro v1 w9 ho1 hg1; obtain ⟨A1, k1, rfl⟩ := owns_formN ho1; have O1 := Lib.hid ho1; have B9 := Lib.hid (BW3.out.trans ((((Below.refl w3.heap.size w3).alloc (Nat.le_refl _) (.cells #[] 34)).grown hg1 (by simp) (fun i e => by simp [Value.ownBlock] at e; omega)).mono BW3s)); clear ho1 hg1)
        refine bodyPost_ret (v := .tuple #[.slice A1 zs.length k1, .bool false]) (by simp [results, Try.results37, go_sem]) rfl ?_
        rw [HM.out]
        exact ⟨A1, k1, rfl, by rw [HRB.out]; exact O1.out, by rw [HRB.out]; exact B9.out⟩

set_option maxRecDepth 100000 in
set_option maxHeartbeats 4000000 in
theorem sRelDelete_any (A : Option Addr) (cap : Nat) (zs : List RowV) (key : ByteArray) (a b : Int) (w : World) (hz : RowsA w A zs) (hN : A = none → cap = 0) (hl : zs.length ≤ 1048577) (hs : Short zs) (hk : key.size ≤ maxLen) :
    Calls Try.prog 30 #[.slice A zs.length cap, .string key, .agg #[.int .i64 a, .int .i64 b]] w (GetsRB w (deleteS zs key a b)) := by
  obtain ⟨i0, hi, hz0, hz1, hz2⟩ := info_parts Try.infoR34
  have Hi := Lib.hid hi
  have Hz0 := Lib.hid hz0
  have Hz1 := Lib.hid hz1
  have Hz2 := Lib.hid hz2
  clear hi hz0 hz1 hz2
  have HS := Lib.hid hs
  have HNn := Lib.hid hN
  have HK := Lib.hid hk
  obtain ⟨o, ho⟩ : ∃ o, relOk zs = o := ⟨_, rfl⟩
  have HO := Lib.hid ho
  obtain ⟨wo, hwo⟩ : ∃ wo, wordB key = wo := ⟨_, rfl⟩
  have HWO := Lib.hid hwo
  obtain ⟨so, hso⟩ : ∃ so, okSpan a b = so := ⟨_, rfl⟩
  have HSO := Lib.hid hso
  clear hs hN hk ho hwo hso
  go_enter Try.func30, Try.ntmps30
  go_wp2_with fail
  generalize hW : w.alloc _ = W0
  obtain ⟨rb, hrb⟩ : ∃ rb, w.heap.size = rb := ⟨_, rfl⟩
  have r0 : W0.cell? ⟨rb, 0, none⟩ = some (.int .i64 a) := by rw [← hW, ← hrb]; simp [go_sem]
  have r1 : W0.cell? ⟨rb, 1, none⟩ = some (.int .i64 b) := by rw [← hW, ← hrb]; simp [go_sem]
  have lrb : rb < W0.heap.size := by rw [← hW, ← hrb]; simp
  have lrb0 : rb ≤ W0.heap.size := Nat.le_of_lt lrb
  have B0 := Lib.hid (show Below rb w W0 from by rw [← hW]; exact (Below.refl _ _).alloc (by omega) _)
  have HZ := Lib.hid (show RowsA W0 A zs from hz.below (by have := B0.out; rw [← hrb] at this; exact this))
  rw [hrb]
  have HRB := Lib.hid hrb
  clear hW hz hrb
  refine (l2Ok_any A cap zs W0 HZ.out hl HS.out).mono ?_
  rintro e w1 ⟨rfl, hb1⟩
  rw [HO.out]
  replace r0 := cellBelow hb1 lrb r0
  replace r1 := cellBelow hb1 lrb r1
  replace lrb := Nat.lt_of_lt_of_le lrb hb1.size
  have Z1 := Lib.hid (HZ.out.below hb1)
  have BW := Lib.hid (B0.out.trans (hb1.mono lrb0))
  have BWs : rb ≤ w1.heap.size := Nat.le_of_lt lrb
  clear hb1
  cases o
  · have HM := Lib.hid (show deleteS zs key a b = ([], false) from if_neg (by rw [HO.out]; simp))
    go_wp2
    refine bodyPost_ret (v := .tuple #[.slice none 0 0, .bool false]) (by simp [results, Try.results30, go_sem]) rfl ?_
    rw [HM.out]
    exact ⟨none, 0, rfl, World.ownsRow_nil _ _ _ _, by rw [HRB.out]; exact BW.out⟩
  · have hlen := relOk_len HO.out
    go_wp2_with fail
    refine (l2Word_val key _ wo HK.out HWO.out).mono ?_
    rintro e w2 ⟨rfl, rfl⟩
    have Z2 := Lib.hid Z1.out
    have BW2 := Lib.hid BW.out
    have BW2s := BWs
    clear BW Z1
    cases wo
    · have HM := Lib.hid (show deleteS zs key a b = (zs, false) from by unfold deleteS; rw [if_pos HO.out, HWO.out]; rfl)
      have OL := Lib.hid (World.ownsRow_lit (base := rb) (e := 34) (size := 4) w1 #[] 0 BW2s (by simp [maxLen]) (by simp))
      have SL := Lib.hid (src_below Z2.out HNn.out ((Below.refl w1.heap.size w1).alloc (Nat.le_refl _) (.cells #[] 34)))
      go_wp2_with (at_builtin; refine wpList_append_src _ rfl _ _ 23 rfl rb 34 i0 _ 48 Try.underlying23 Hi.out Hz0.out Hz1.out Hz2.out rfl (.slice (some ⟨w1.heap.size, 0, none⟩) 0 0) 0 [] rfl OL.out _ zs rfl SL.out (by unfold maxLen; omega) (by omega) (by simp; omega) ?_; rw [List.nil_append, Nat.zero_add]; intro v1 w9 ho1 hg1; obtain ⟨A1, k1, rfl⟩ := owns_formN ho1; have O1 := Lib.hid ho1; have B9 := Lib.hid (BW2.out.trans ((((Below.refl w1.heap.size w1).alloc (Nat.le_refl _) (.cells #[] 34)).grown hg1 (by simp) (fun i e => by simp [Value.ownBlock] at e; omega)).mono BW2s)); clear ho1 hg1)
      refine bodyPost_ret (v := .tuple #[.slice A1 zs.length k1, .bool false]) (by simp [results, Try.results30, go_sem]) rfl ?_
      rw [HM.out]
      exact ⟨A1, k1, rfl, by rw [HRB.out]; exact O1.out, by rw [HRB.out]; exact B9.out⟩
    · go_wp2_with fail
      refine (l1Ok_val a b _ so HSO.out).mono ?_
      rintro e w3 ⟨rfl, hb3⟩
      replace r0 := cellBelow hb3 lrb r0
      replace r1 := cellBelow hb3 lrb r1
      replace lrb := Nat.lt_of_lt_of_le lrb hb3.size
      have Z3 := Lib.hid (Z2.out.below hb3)
      have BW3 := Lib.hid (BW2.out.trans (hb3.mono BW2s))
      have BW3s : rb ≤ w3.heap.size := Nat.le_of_lt lrb
      clear hb3 BW2 Z2
      cases so
      · have HM := Lib.hid (show deleteS zs key a b = (zs, false) from by unfold deleteS; rw [if_pos HO.out, HWO.out, HSO.out]; rfl)
        have OL := Lib.hid (World.ownsRow_lit (base := rb) (e := 34) (size := 4) w3 #[] 0 BW3s (by simp [maxLen]) (by simp))
        have SL := Lib.hid (src_below Z3.out HNn.out ((Below.refl w3.heap.size w3).alloc (Nat.le_refl _) (.cells #[] 34)))
        go_wp2_with (at_builtin; refine wpList_append_src _ rfl _ _ 23 rfl rb 34 i0 _ 48 Try.underlying23 Hi.out Hz0.out Hz1.out Hz2.out rfl (.slice (some ⟨w3.heap.size, 0, none⟩) 0 0) 0 [] rfl OL.out _ zs rfl SL.out (by unfold maxLen; omega) (by omega) (by simp; omega) ?_; rw [List.nil_append, Nat.zero_add]; intro v1 w9 ho1 hg1; obtain ⟨A1, k1, rfl⟩ := owns_formN ho1; have O1 := Lib.hid ho1; have B9 := Lib.hid (BW3.out.trans ((((Below.refl w3.heap.size w3).alloc (Nat.le_refl _) (.cells #[] 34)).grown hg1 (by simp) (fun i e => by simp [Value.ownBlock] at e; omega)).mono BW3s)); clear ho1 hg1)
        refine bodyPost_ret (v := .tuple #[.slice A1 zs.length k1, .bool false]) (by simp [results, Try.results30, go_sem]) rfl ?_
        rw [HM.out]
        exact ⟨A1, k1, rfl, by rw [HRB.out]; exact O1.out, by rw [HRB.out]; exact B9.out⟩
      · have HM := Lib.hid (show deleteS zs key a b = fitsL (cutL zs key a b) zs from by unfold deleteS; rw [if_pos HO.out, HWO.out, HSO.out]; rfl)
        have hcl := cutL_len key a b zs
        obtain ⟨cs, hcs⟩ : ∃ cs, cutL zs key a b = cs := ⟨_, rfl⟩
        rw [hcs] at HM hcl
        have HCS := Lib.hid hcs
        have hcl2 : cs.length ≤ 4194304 := by omega
        clear hcs hcl
        go_wp2_with fail
        refine (l3Cut_any A cap zs key a b _ Z3.out (by omega)).mono ?_
        rw [HCS.out]
        rintro e w4 ⟨A4, c4, rfl, ho4, hb4⟩
        have O4 := Lib.hid ho4
        have Z4 := Lib.hid (Z3.out.below hb4)
        have BW4 := Lib.hid (BW3.out.trans (hb4.mono BW3s))
        have hsz4 := hb4.size
        have BW4s : rb ≤ w4.heap.size := Nat.le_trans BW3s hsz4
        clear ho4 hb4 r0 r1
        go_wp2_with fail
        refine (l3Fits_any w3.heap.size A4 A c4 cap cs zs _ O4.out hsz4 Z4.out HNn.out (by omega) hcl2).mono ?_
        rintro e w8 ⟨A8, c8, rfl, ho8, hb8⟩
        have O8 := Lib.hid (owns_baseE (base' := rb) ho8 (by omega))
        have B8 := Lib.hid (BW4.out.trans (hb8.mono BW4s))
        clear ho8 hb8
        generalize fitsL cs zs = p at *
        go_wp2
        refine bodyPost_ret (v := .tuple #[.slice A8 p.1.length c8, .bool p.2]) (by simp [results, Try.results30, go_sem]) rfl ?_
        rw [HM.out]
        exact ⟨A8, c8, rfl, by rw [HRB.out]; exact O8.out, by rw [HRB.out]; exact B8.out⟩

set_option maxRecDepth 100000 in
set_option maxHeartbeats 8000000 in
theorem RelDelete_any (A : Option Addr) (cap : Nat) (zs : List RowV) (key : ByteArray) (a b : Int) (w : World) (hz : RowsA w A zs) (hA : A = none ∨ ∃ b off, A = some ⟨b, off, none⟩) (hl : zs.length ≤ 1048577) (hs : Short zs) (hk : key.size ≤ maxLen) :
    Calls Try.prog 29 #[.slice A zs.length cap, .string key, .agg #[.int .i64 a, .int .i64 b]] w (GetsRB w (deleteS zs key a b)) := by
  have HS := Lib.hid hs
  have HA := Lib.hid hA
  have HK := Lib.hid hk
  obtain ⟨o, ho⟩ : ∃ o, relOk zs = o := ⟨_, rfl⟩
  have HO := Lib.hid ho
  obtain ⟨wo, hwo⟩ : ∃ wo, wordB key = wo := ⟨_, rfl⟩
  have HWO := Lib.hid hwo
  obtain ⟨so, hso⟩ : ∃ so, okSpan a b = so := ⟨_, rfl⟩
  have HSO := Lib.hid hso
  have EG := Lib.hid (show ∀ args w, (callFunc 137 args).run Try.prog w = .ok (.enter 137 args) w from enters_of Try.func137 (by kernel_rfl) rfl)
  clear hs hA hk ho hwo hso
  cases o
  · rw [show deleteS zs key a b = ([], false) from if_neg (by rw [HO.out]; simp)]
    cases wo
    · skip
      go_enter Try.func29, Try.ntmps29
      go_wp2_with fail
      generalize hW : w.alloc _ = W0
      obtain ⟨rb, hrb⟩ : ∃ rb, w.heap.size = rb := ⟨_, rfl⟩
      have r0 : W0.cell? ⟨rb, 0, none⟩ = some (.int .i64 a) := by rw [← hW, ← hrb]; simp [go_sem]
      have r1 : W0.cell? ⟨rb, 1, none⟩ = some (.int .i64 b) := by rw [← hW, ← hrb]; simp [go_sem]
      have lrb : rb < W0.heap.size := by rw [← hW, ← hrb]; simp
      have lrb0 : rb ≤ W0.heap.size := Nat.le_of_lt lrb
      have B0 := Lib.hid (show Below rb w W0 from by rw [← hW]; exact (Below.refl _ _).alloc (by omega) _)
      have HZ := Lib.hid (show RowsA W0 A zs from hz.below (by have := B0.out; rw [← hrb] at this; exact this))
      rw [hrb]
      have HRB := Lib.hid hrb
      clear hW hz hrb
      have hq0 : Below W0.heap.size W0 W0 := Below.refl _ _
      go_region_with (first
        | (go_at_call 90; refine (word_val key _ _ HK.out HWO.out).mono ?_; rintro e w1 ⟨rfl, rfl⟩)
        | (go_at_call 92; refine (removed_any key a b _).mono ?_; rintro e w2 ⟨kb, sb, rfl, kc, sc0, sc1, lk, ls, hb⟩; have hbB := hb; have hsz2 : W0.heap.size ≤ w2.heap.size := (by have := hb.size; first | omega | (simp at this; omega)); obtain ⟨hc2, hf2, hlb2⟩ := bcell3 hb)
        | (go_at_call 89; refine (modified_no A cap zs _ _ _ _ (HZ.out.below (by repeat (first | with_reducible assumption | with_reducible exact hq0 | with_reducible refine Below.drew ?_ | with_reducible refine Below.trans ?_ (hbB.mono (by first | omega | (simp; done) | (simp; omega) | (have h9 := hbA.size; simp at h9; omega))) | with_reducible refine Below.trans ?_ (hbC.mono (by first | omega | (simp; done) | (simp; omega) | (have h9 := hbA.size; simp at h9; omega))) | with_reducible refine Below.trans ?_ (hbA.mono (by first | omega | (simp; done) | (simp; omega) | (have h9 := hbA.size; simp at h9; omega))) | with_reducible refine Below.alloc ?_ (by first | omega | (simp; done) | (simp; omega) | (have h9 := hbA.size; simp at h9; omega)) _))) hl HS.out HO.out).mono ?_; rintro e w5 ⟨A5, c5, rfl, ho5, hb⟩; have O5 := Lib.hid (owns_baseE (base' := rb) ho5 (by first | omega | (simp; omega))); clear ho5))
      all_goals (go_wp2_with fail)
      all_goals (
        refine bodyPost_ret (v := .tuple #[.slice A5 (([], false) : List RowV × Bool).1.length c5, .bool (([], false) : List RowV × Bool).2]) (by simp [results, Try.results29, go_sem]) rfl ?_
        exact ⟨A5, c5, rfl, by rw [HRB.out]; exact O5.out, by rw [HRB.out]; exact B0.out.trans ((show Below W0.heap.size W0 w5 from (by repeat (first | with_reducible assumption | with_reducible exact hq0 | with_reducible refine Below.drew ?_ | with_reducible refine Below.trans ?_ (hb.mono (by first | omega | (simp; done) | (simp; omega) | (have h9 := hbA.size; simp at h9; omega))) | with_reducible refine Below.trans ?_ (hbB.mono (by first | omega | (simp; done) | (simp; omega) | (have h9 := hbA.size; simp at h9; omega))) | with_reducible refine Below.alloc ?_ (by first | omega | (simp; done) | (simp; omega) | (have h9 := hbA.size; simp at h9; omega)) _))).mono lrb0)⟩)
    · cases so
      all_goals (
        go_enter Try.func29, Try.ntmps29
        go_wp2_with fail
        generalize hW : w.alloc _ = W0
        obtain ⟨rb, hrb⟩ : ∃ rb, w.heap.size = rb := ⟨_, rfl⟩
        have r0 : W0.cell? ⟨rb, 0, none⟩ = some (.int .i64 a) := by rw [← hW, ← hrb]; simp [go_sem]
        have r1 : W0.cell? ⟨rb, 1, none⟩ = some (.int .i64 b) := by rw [← hW, ← hrb]; simp [go_sem]
        have lrb : rb < W0.heap.size := by rw [← hW, ← hrb]; simp
        have lrb0 : rb ≤ W0.heap.size := Nat.le_of_lt lrb
        have B0 := Lib.hid (show Below rb w W0 from by rw [← hW]; exact (Below.refl _ _).alloc (by omega) _)
        have HZ := Lib.hid (show RowsA W0 A zs from hz.below (by have := B0.out; rw [← hrb] at this; exact this))
        rw [hrb]
        have HRB := Lib.hid hrb
        clear hW hz hrb
        have hq0 : Below W0.heap.size W0 W0 := Below.refl _ _
        go_region_held3 (fun w' => w'.cell? ⟨rb, 0, none⟩ = some (.int .i64 a) ∧ w'.cell? ⟨rb, 1, none⟩ = some (.int .i64 b) ∧ W0.heap.size ≤ w'.heap.size ∧ Below W0.heap.size W0 w')
          (((try go_split_ands); refine ⟨?c0, ?c1, ?s, ?b⟩; (case c0 => (repeat (first | with_reducible assumption | with_reducible refine cell_below hb (by first | omega | (simp; done) | (simp; omega)) ?_ | with_reducible refine cell_set_far (by first | omega | (simp; done) | (simp; omega)) ?_ | with_reducible exact cell_alloc_swap (by with_reducible assumption) (by first | omega | (simp; done) | (simp; omega)) | with_reducible refine cell_alloc_far ?_ | with_reducible refine cell_drew ?_))); (case c1 => (repeat (first | with_reducible assumption | with_reducible refine cell_below hb (by first | omega | (simp; done) | (simp; omega)) ?_ | with_reducible refine cell_set_far (by first | omega | (simp; done) | (simp; omega)) ?_ | with_reducible exact cell_alloc_swap (by with_reducible assumption) (by first | omega | (simp; done) | (simp; omega)) | with_reducible refine cell_alloc_far ?_ | with_reducible refine cell_drew ?_))); (case s => (first | with_reducible assumption | (have := hb.size; omega) | omega | (simp; done) | (simp; omega) | (have := hb.size; simp at this ⊢; omega))); (case b => (repeat (first | with_reducible assumption | with_reducible exact hq0 | with_reducible refine Below.drew ?_ | with_reducible refine Below.trans ?_ (hb.mono (by first | omega | (simp; done) | (simp; omega))) | with_reducible refine Below.setCell ?_ (by first | omega | (simp; done) | (simp; omega)) _ | with_reducible exact below_alloc_swap (by with_reducible assumption) (by first | omega | (simp; done) | (simp; omega)) | with_reducible refine Below.alloc ?_ (by first | omega | (simp; done) | (simp; omega)) _)))))
          (first
            | (go_at_call 90; refine (word_val key _ _ HK.out HWO.out).mono ?_; rintro e w1 ⟨rfl, rfl⟩)
            | (go_at_call 91; refine (ok_val a b _ _ HSO.out).mono ?_; rintro e w3 ⟨rfl, hb⟩; have hbA := hb; have hsz3 : W0.heap.size ≤ w3.heap.size := (by have := hb.size; first | omega | (simp at this; omega)); obtain ⟨hc3, hf3, hlb3⟩ := bcell3 hb)
            | (go_at_call 92; refine (removed_any key a b _).mono ?_; rintro e w2 ⟨kb, sb, rfl, kc, sc0, sc1, lk, ls, hb⟩; have hbB := hb; have hsz2 : W0.heap.size ≤ w2.heap.size := (by have := hb.size; first | omega | (simp at this; omega)); obtain ⟨hc2, hf2, hlb2⟩ := bcell3 hb)
            | (go_at_call 89; refine (modified_no A cap zs _ _ _ _ (HZ.out.below (by repeat (first | with_reducible assumption | with_reducible exact hq0 | with_reducible refine Below.drew ?_ | with_reducible refine Below.trans ?_ (hbB.mono (by first | omega | (simp; done) | (simp; omega) | (have h9 := hbA.size; simp at h9; omega))) | with_reducible refine Below.trans ?_ (hbC.mono (by first | omega | (simp; done) | (simp; omega) | (have h9 := hbA.size; simp at h9; omega))) | with_reducible refine Below.trans ?_ (hbA.mono (by first | omega | (simp; done) | (simp; omega) | (have h9 := hbA.size; simp at h9; omega))) | with_reducible refine Below.alloc ?_ (by first | omega | (simp; done) | (simp; omega) | (have h9 := hbA.size; simp at h9; omega)) _))) hl HS.out HO.out).mono ?_; rintro e w5 ⟨A5, c5, rfl, ho5, hb⟩; have O5 := Lib.hid (owns_baseE (base' := rb) ho5 (by first | omega | (simp; omega))); clear ho5))
        all_goals (go_wp2_with fail)
        all_goals (
          rename_i hHd
          refine bodyPost_ret (v := .tuple #[.slice A5 (([], false) : List RowV × Bool).1.length c5, .bool (([], false) : List RowV × Bool).2]) (by simp [results, Try.results29, go_sem]) rfl ?_
          exact ⟨A5, c5, rfl, by rw [HRB.out]; exact O5.out, by rw [HRB.out]; exact B0.out.trans (hHd.2.2.2.mono lrb0)⟩))
  · cases wo
    · rw [show deleteS zs key a b = (zs, false) from by unfold deleteS; rw [if_pos HO.out, HWO.out]; rfl]
      go_enter Try.func29, Try.ntmps29
      go_wp2_with fail
      generalize hW : w.alloc _ = W0
      obtain ⟨rb, hrb⟩ : ∃ rb, w.heap.size = rb := ⟨_, rfl⟩
      have r0 : W0.cell? ⟨rb, 0, none⟩ = some (.int .i64 a) := by rw [← hW, ← hrb]; simp [go_sem]
      have r1 : W0.cell? ⟨rb, 1, none⟩ = some (.int .i64 b) := by rw [← hW, ← hrb]; simp [go_sem]
      have lrb : rb < W0.heap.size := by rw [← hW, ← hrb]; simp
      have lrb0 : rb ≤ W0.heap.size := Nat.le_of_lt lrb
      have B0 := Lib.hid (show Below rb w W0 from by rw [← hW]; exact (Below.refl _ _).alloc (by omega) _)
      have HZ := Lib.hid (show RowsA W0 A zs from hz.below (by have := B0.out; rw [← hrb] at this; exact this))
      rw [hrb]
      have HRB := Lib.hid hrb
      clear hW hz hrb
      have hq0 : Below W0.heap.size W0 W0 := Below.refl _ _
      go_region_with (first
        | (go_at_call 90; refine (word_val key _ _ HK.out HWO.out).mono ?_; rintro e w1 ⟨rfl, rfl⟩)
        | (go_at_call 92; refine (removed_any key a b _).mono ?_; rintro e w2 ⟨kb, sb, rfl, kc, sc0, sc1, lk, ls, hb⟩; have hbB := hb; have hsz2 : W0.heap.size ≤ w2.heap.size := (by have := hb.size; first | omega | (simp at this; omega)); obtain ⟨hc2, hf2, hlb2⟩ := bcell3 hb)
        | (go_at_call 89; refine (modified_bad A cap zs _ _ _ (HZ.out.below (by repeat (first | with_reducible assumption | with_reducible exact hq0 | with_reducible refine Below.drew ?_ | with_reducible refine Below.trans ?_ (hbB.mono (by first | omega | (simp; done) | (simp; omega) | (have h9 := hbA.size; simp at h9; omega))) | with_reducible refine Below.trans ?_ (hbC.mono (by first | omega | (simp; done) | (simp; omega) | (have h9 := hbA.size; simp at h9; omega))) | with_reducible refine Below.trans ?_ (hbA.mono (by first | omega | (simp; done) | (simp; omega) | (have h9 := hbA.size; simp at h9; omega))) | with_reducible refine Below.alloc ?_ (by first | omega | (simp; done) | (simp; omega) | (have h9 := hbA.size; simp at h9; omega)) _))) HA.out HS.out HO.out).mono ?_; rintro e w5 ⟨A5, c5, rfl, ho5, hb⟩; have O5 := Lib.hid (owns_baseE (base' := rb) ho5 (by first | omega | (simp; omega))); clear ho5))
      all_goals (go_wp2_with fail)
      all_goals (
        refine bodyPost_ret (v := .tuple #[.slice A5 ((zs, false) : List RowV × Bool).1.length c5, .bool ((zs, false) : List RowV × Bool).2]) (by simp [results, Try.results29, go_sem]) rfl ?_
        exact ⟨A5, c5, rfl, by rw [HRB.out]; exact O5.out, by rw [HRB.out]; exact B0.out.trans ((show Below W0.heap.size W0 w5 from (by repeat (first | with_reducible assumption | with_reducible exact hq0 | with_reducible refine Below.drew ?_ | with_reducible refine Below.trans ?_ (hb.mono (by first | omega | (simp; done) | (simp; omega) | (have h9 := hbA.size; simp at h9; omega))) | with_reducible refine Below.trans ?_ (hbB.mono (by first | omega | (simp; done) | (simp; omega) | (have h9 := hbA.size; simp at h9; omega))) | with_reducible refine Below.alloc ?_ (by first | omega | (simp; done) | (simp; omega) | (have h9 := hbA.size; simp at h9; omega)) _))).mono lrb0)⟩)
    · cases so
      · rw [show deleteS zs key a b = (zs, false) from by unfold deleteS; rw [if_pos HO.out, HWO.out, HSO.out]; rfl]
        go_enter Try.func29, Try.ntmps29
        go_wp2_with fail
        generalize hW : w.alloc _ = W0
        obtain ⟨rb, hrb⟩ : ∃ rb, w.heap.size = rb := ⟨_, rfl⟩
        have r0 : W0.cell? ⟨rb, 0, none⟩ = some (.int .i64 a) := by rw [← hW, ← hrb]; simp [go_sem]
        have r1 : W0.cell? ⟨rb, 1, none⟩ = some (.int .i64 b) := by rw [← hW, ← hrb]; simp [go_sem]
        have lrb : rb < W0.heap.size := by rw [← hW, ← hrb]; simp
        have lrb0 : rb ≤ W0.heap.size := Nat.le_of_lt lrb
        have B0 := Lib.hid (show Below rb w W0 from by rw [← hW]; exact (Below.refl _ _).alloc (by omega) _)
        have HZ := Lib.hid (show RowsA W0 A zs from hz.below (by have := B0.out; rw [← hrb] at this; exact this))
        rw [hrb]
        have HRB := Lib.hid hrb
        clear hW hz hrb
        have hq0 : Below W0.heap.size W0 W0 := Below.refl _ _
        go_region_held3 (fun w' => w'.cell? ⟨rb, 0, none⟩ = some (.int .i64 a) ∧ w'.cell? ⟨rb, 1, none⟩ = some (.int .i64 b) ∧ W0.heap.size ≤ w'.heap.size ∧ Below W0.heap.size W0 w')
          (((try go_split_ands); refine ⟨?c0, ?c1, ?s, ?b⟩; (case c0 => (repeat (first | with_reducible assumption | with_reducible refine cell_below hb (by first | omega | (simp; done) | (simp; omega)) ?_ | with_reducible refine cell_set_far (by first | omega | (simp; done) | (simp; omega)) ?_ | with_reducible exact cell_alloc_swap (by with_reducible assumption) (by first | omega | (simp; done) | (simp; omega)) | with_reducible refine cell_alloc_far ?_ | with_reducible refine cell_drew ?_))); (case c1 => (repeat (first | with_reducible assumption | with_reducible refine cell_below hb (by first | omega | (simp; done) | (simp; omega)) ?_ | with_reducible refine cell_set_far (by first | omega | (simp; done) | (simp; omega)) ?_ | with_reducible exact cell_alloc_swap (by with_reducible assumption) (by first | omega | (simp; done) | (simp; omega)) | with_reducible refine cell_alloc_far ?_ | with_reducible refine cell_drew ?_))); (case s => (first | with_reducible assumption | (have := hb.size; omega) | omega | (simp; done) | (simp; omega) | (have := hb.size; simp at this ⊢; omega))); (case b => (repeat (first | with_reducible assumption | with_reducible exact hq0 | with_reducible refine Below.drew ?_ | with_reducible refine Below.trans ?_ (hb.mono (by first | omega | (simp; done) | (simp; omega))) | with_reducible refine Below.setCell ?_ (by first | omega | (simp; done) | (simp; omega)) _ | with_reducible exact below_alloc_swap (by with_reducible assumption) (by first | omega | (simp; done) | (simp; omega)) | with_reducible refine Below.alloc ?_ (by first | omega | (simp; done) | (simp; omega)) _)))))
          (first
            | (go_at_call 90; refine (word_val key _ _ HK.out HWO.out).mono ?_; rintro e w1 ⟨rfl, rfl⟩)
            | (go_at_call 91; refine (ok_val a b _ _ HSO.out).mono ?_; rintro e w3 ⟨rfl, hb⟩; have hbA := hb; have hsz3 : W0.heap.size ≤ w3.heap.size := (by have := hb.size; first | omega | (simp at this; omega)); obtain ⟨hc3, hf3, hlb3⟩ := bcell3 hb)
            | (go_at_call 92; refine (removed_any key a b _).mono ?_; rintro e w2 ⟨kb, sb, rfl, kc, sc0, sc1, lk, ls, hb⟩; have hbB := hb; have hsz2 : W0.heap.size ≤ w2.heap.size := (by have := hb.size; first | omega | (simp at this; omega)); obtain ⟨hc2, hf2, hlb2⟩ := bcell3 hb)
            | (go_at_call 89; refine (modified_bad A cap zs _ _ _ (HZ.out.below (by repeat (first | with_reducible assumption | with_reducible exact hq0 | with_reducible refine Below.drew ?_ | with_reducible refine Below.trans ?_ (hbB.mono (by first | omega | (simp; done) | (simp; omega) | (have h9 := hbA.size; simp at h9; omega))) | with_reducible refine Below.trans ?_ (hbC.mono (by first | omega | (simp; done) | (simp; omega) | (have h9 := hbA.size; simp at h9; omega))) | with_reducible refine Below.trans ?_ (hbA.mono (by first | omega | (simp; done) | (simp; omega) | (have h9 := hbA.size; simp at h9; omega))) | with_reducible refine Below.alloc ?_ (by first | omega | (simp; done) | (simp; omega) | (have h9 := hbA.size; simp at h9; omega)) _))) HA.out HS.out HO.out).mono ?_; rintro e w5 ⟨A5, c5, rfl, ho5, hb⟩; have O5 := Lib.hid (owns_baseE (base' := rb) ho5 (by first | omega | (simp; omega))); clear ho5))
        all_goals (go_wp2_with fail)
        all_goals (
          rename_i hHd
          refine bodyPost_ret (v := .tuple #[.slice A5 ((zs, false) : List RowV × Bool).1.length c5, .bool ((zs, false) : List RowV × Bool).2]) (by simp [results, Try.results29, go_sem]) rfl ?_
          exact ⟨A5, c5, rfl, by rw [HRB.out]; exact O5.out, by rw [HRB.out]; exact B0.out.trans (hHd.2.2.2.mono lrb0)⟩)
      · have HSp := Lib.hid (show 0 ≤ a ∧ a < b ∧ b ≤ 100 from by simpa [okSpan] using HSO.out)
        have HP := Lib.hid (show ∀ s, Ordered s → s.Perm (zs.flatMap (cutRow key a b) ++ []) → changedL s zs = deleteL zs key a b from fun s h1 h2 => delete_eq HO.out HSp.out.2.1 h1 (by rwa [List.append_nil] at h2))
        rw [show deleteS zs key a b = deleteL zs key a b from by unfold deleteS; rw [if_pos HO.out, HWO.out, HSO.out]; rfl]
        obtain ⟨p, hp⟩ : ∃ p, deleteL zs key a b = p := ⟨_, rfl⟩
        rw [hp] at HP ⊢
        clear hp
        go_enter Try.func29, Try.ntmps29
        go_wp2_with fail
        generalize hW : w.alloc _ = W0
        obtain ⟨rb, hrb⟩ : ∃ rb, w.heap.size = rb := ⟨_, rfl⟩
        have r0 : W0.cell? ⟨rb, 0, none⟩ = some (.int .i64 a) := by rw [← hW, ← hrb]; simp [go_sem]
        have r1 : W0.cell? ⟨rb, 1, none⟩ = some (.int .i64 b) := by rw [← hW, ← hrb]; simp [go_sem]
        have lrb : rb < W0.heap.size := by rw [← hW, ← hrb]; simp
        have lrb0 : rb ≤ W0.heap.size := Nat.le_of_lt lrb
        have B0 := Lib.hid (show Below rb w W0 from by rw [← hW]; exact (Below.refl _ _).alloc (by omega) _)
        have HZ := Lib.hid (show RowsA W0 A zs from hz.below (by have := B0.out; rw [← hrb] at this; exact this))
        rw [hrb]
        have HRB := Lib.hid hrb
        clear hW hz hrb
        have hq0 : Below W0.heap.size W0 W0 := Below.refl _ _
        go_region_held3 (fun w' => w'.cell? ⟨rb, 0, none⟩ = some (.int .i64 a) ∧ w'.cell? ⟨rb, 1, none⟩ = some (.int .i64 b) ∧ W0.heap.size ≤ w'.heap.size ∧ Below W0.heap.size W0 w')
          (((try go_split_ands); refine ⟨?c0, ?c1, ?s, ?b⟩; (case c0 => (repeat (first | with_reducible assumption | with_reducible refine cell_below hb (by first | omega | (simp; done) | (simp; omega)) ?_ | with_reducible refine cell_set_far (by first | omega | (simp; done) | (simp; omega)) ?_ | with_reducible exact cell_alloc_swap (by with_reducible assumption) (by first | omega | (simp; done) | (simp; omega)) | with_reducible refine cell_alloc_far ?_ | with_reducible refine cell_drew ?_))); (case c1 => (repeat (first | with_reducible assumption | with_reducible refine cell_below hb (by first | omega | (simp; done) | (simp; omega)) ?_ | with_reducible refine cell_set_far (by first | omega | (simp; done) | (simp; omega)) ?_ | with_reducible exact cell_alloc_swap (by with_reducible assumption) (by first | omega | (simp; done) | (simp; omega)) | with_reducible refine cell_alloc_far ?_ | with_reducible refine cell_drew ?_))); (case s => (first | with_reducible assumption | (have := hb.size; omega) | omega | (simp; done) | (simp; omega) | (have := hb.size; simp at this ⊢; omega))); (case b => (repeat (first | with_reducible assumption | with_reducible exact hq0 | with_reducible refine Below.drew ?_ | with_reducible refine Below.trans ?_ (hb.mono (by first | omega | (simp; done) | (simp; omega))) | with_reducible refine Below.setCell ?_ (by first | omega | (simp; done) | (simp; omega)) _ | with_reducible exact below_alloc_swap (by with_reducible assumption) (by first | omega | (simp; done) | (simp; omega)) | with_reducible refine Below.alloc ?_ (by first | omega | (simp; done) | (simp; omega)) _)))))
          (first
            | (go_at_call 90; refine (word_val key _ _ HK.out HWO.out).mono ?_; rintro e w1 ⟨rfl, rfl⟩)
            | (go_at_call 91; refine (ok_val a b _ _ HSO.out).mono ?_; rintro e w3 ⟨rfl, hb⟩; have hbA := hb; have hsz3 : W0.heap.size ≤ w3.heap.size := (by have := hb.size; first | omega | (simp at this; omega)); obtain ⟨hc3, hf3, hlb3⟩ := bcell3 hb)
            | (go_at_call 92; refine (removed_any key a b _).mono ?_; rintro e w2 ⟨kb, sb, rfl, kc, sc0, sc1, lk, ls, hb⟩; have hbB := hb; have hsz2 : W0.heap.size ≤ w2.heap.size := (by have := hb.size; first | omega | (simp at this; omega)); obtain ⟨hc2, hf2, hlb2⟩ := bcell3 hb)
            | (go_at_call 89; refine (modified_yes A cap zs 137 _ (cutRow key a b) (fun x => 0 ≤ x.f ∧ x.f < x.e ∧ x.e ≤ 100) _ [] _ EG.out (HZ.out.below (by repeat (first | with_reducible assumption | with_reducible exact hq0 | with_reducible refine Below.drew ?_ | with_reducible refine Below.trans ?_ (hbB.mono (by first | omega | (simp; done) | (simp; omega) | (have h9 := hbA.size; simp at h9; omega))) | with_reducible refine Below.trans ?_ (hbC.mono (by first | omega | (simp; done) | (simp; omega) | (have h9 := hbA.size; simp at h9; omega))) | with_reducible refine Below.trans ?_ (hbA.mono (by first | omega | (simp; done) | (simp; omega) | (have h9 := hbA.size; simp at h9; omega))) | with_reducible refine Below.alloc ?_ (by first | omega | (simp; done) | (simp; omega) | (have h9 := hbA.size; simp at h9; omega)) _))) HA.out HS.out HO.out (removed_chg (by repeat (first | with_reducible assumption | (simp; done) | (simp [go_sem]; done) | with_reducible refine cell_drew ?_ | with_reducible refine cell_alloc_far ?_ | with_reducible refine cell_below hbB (by first | omega | (simp; done) | (simp; omega) | (have h9 := hbA.size; simp at h9; omega)) ?_ | with_reducible refine cell_below hbA (by first | omega | (simp; done) | (simp; omega) | (have h9 := hbA.size; simp at h9; omega)) ?_)) (by repeat (first | with_reducible assumption | (simp; done) | (simp [go_sem]; done) | with_reducible refine cell_drew ?_ | with_reducible refine cell_alloc_far ?_ | with_reducible refine cell_below hbB (by first | omega | (simp; done) | (simp; omega) | (have h9 := hbA.size; simp at h9; omega)) ?_ | with_reducible refine cell_below hbA (by first | omega | (simp; done) | (simp; omega) | (have h9 := hbA.size; simp at h9; omega)) ?_)) (by repeat (first | with_reducible assumption | (simp; done) | (simp [go_sem]; done) | with_reducible refine cell_drew ?_ | with_reducible refine cell_alloc_far ?_ | with_reducible refine cell_below hbB (by first | omega | (simp; done) | (simp; omega) | (have h9 := hbA.size; simp at h9; omega)) ?_ | with_reducible refine cell_below hbA (by first | omega | (simp; done) | (simp; omega) | (have h9 := hbA.size; simp at h9; omega)) ?_)) HSp.out) (rel_spans HO.out) (src_nil _) (fun x _ => Nat.le_trans (cut_len _ _ _ x) (by omega)) (cutRow_short HS.out) (by simp) short_none _ HP.out).mono ?_; rintro e w5 ⟨A5, c5, rfl, ho5, hb⟩; have O5 := Lib.hid (owns_baseE (base' := rb) ho5 (by first | omega | (simp; omega))); clear ho5))
        all_goals (go_wp2_with fail)
        all_goals (
          rename_i hHd
          refine bodyPost_ret (v := .tuple #[.slice A5 p.1.length c5, .bool p.2]) (by simp [results, Try.results29, go_sem]) rfl ?_
          exact ⟨A5, c5, rfl, by rw [HRB.out]; exact O5.out, by rw [HRB.out]; exact B0.out.trans (hHd.2.2.2.mono lrb0)⟩)
end Go.Proofs.Ytgclmldhdjmabaa
