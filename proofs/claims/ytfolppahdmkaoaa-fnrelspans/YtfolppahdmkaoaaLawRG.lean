/-
  The walk of FnRelGet.
-/
import Derived.Test.YtfolppahdmkaoaaDrawL
import Derived.Test.YtfolppahdmkaoaaRelSp
namespace Go.Proofs.Ytfolppahdmkaoaa
open Go.Shelf Go.RowKit Go.Lib Go.Sort

theorem anyTo (zs : List RowV) (key : ByteArray) (c : Int) : has ((zs.filter fun x => x.k.toList == key.toList).map spanOf) c ↔ ∃ x ∈ zs, (x.k.toList == key.toList) = true ∧ x.f ≤ c ∧ c < x.e := by
  unfold has
  constructor
  · rintro ⟨s, hs, h1, h2⟩
    obtain ⟨x, hx, rfl⟩ := List.mem_map.1 hs
    exact ⟨x, (List.mem_filter.1 hx).1, (List.mem_filter.1 hx).2, h1, h2⟩
  · rintro ⟨x, hx, h1, h2, h3⟩
    exact ⟨spanOf x, List.mem_map.2 ⟨x, List.mem_filter.2 ⟨hx, h1⟩, rfl⟩, h2, h3⟩
theorem getR_some (key : ByteArray) (c : Int) : ∀ zs : List RowV, (∀ x ∈ zs, rowOk x = true) → ((getR key c zs).size = 0 ↔ ¬ ∃ x ∈ zs, (x.k.toList == key.toList) = true ∧ x.f ≤ c ∧ c < x.e)
  | [], _ => by simp [getR, ByteArray.size]
  | x :: l, h => by
    rw [getR]
    by_cases hx : ((x.k.toList == key.toList) && hasB x.f x.e c) = true
    · rw [if_pos hx]
      rw [Bool.and_eq_true] at hx
      have h2 : x.f ≤ c ∧ c < x.e := by simpa [hasB] using hx.2
      have hw := (rowOk_iff.1 (h x (by simp))).2.1
      have hsz : 1 ≤ x.t.size := by
        simp only [wordB, Bool.and_eq_true, decide_eq_true_eq] at hw
        exact hw.1.1
      constructor
      · intro h0; omega
      · intro h0; exact absurd ⟨x, by simp, hx.1, h2.1, h2.2⟩ h0
    · rw [if_neg hx, getR_some key c l (fun y hy => h y (by simp [hy]))]
      refine not_congr ⟨?_, ?_⟩
      · rintro ⟨y, hy, h1⟩; exact ⟨y, by simp [hy], h1⟩
      · rintro ⟨y, hy, h1, h2, h3⟩
        rcases List.mem_cons.1 hy with rfl | hy
        · exact absurd (by rw [Bool.and_eq_true]; exact ⟨h1, by simp [hasB, h2, h3]⟩) hx
        · exact ⟨y, hy, h1, h2, h3⟩
theorem relGet_has {zs : List RowV} {key : ByteArray} {c : Int} (h : relOk zs = true) : setHas (relSpansL zs key) c = true ↔ ¬ (relGetL zs key c).size = 0 := by
  rw [setHas_iff (relSpansL_ok zs key), relGetL_ok h, getR_some key c zs (rel_apart h).1, Decidable.not_not]
  unfold relSpansL
  rw [if_pos h, has_addAll (spansTo_ok h key _)]
  unfold spansTo
  rw [List.take_length, anyTo]
theorem size_empty {s : ByteArray} (h : s.size = 0) : s = ⟨#[]⟩ := by
  cases s with
  | mk d => simp [ByteArray.size] at h; subst h; rfl
theorem size_some {s : ByteArray} (h : ¬ s.size = 0) : (s.toList == (⟨#[]⟩ : ByteArray).toList) = false := by
  cases he : (s.toList == (⟨#[]⟩ : ByteArray).toList) with
  | false => rfl
  | true =>
    have := same_key.1 he
    subst this
    exact absurd rfl h

theorem size_some2 {s : ByteArray} (h : ¬ s.size = 0) : s.toList.isEmpty = false := by
  have h1 := size_some h
  cases he : s.toList with
  | nil => rw [he] at h1; simp [go_sem] at h1
  | cons a l => rfl

set_option maxRecDepth 100000 in
set_option maxHeartbeats 4000000 in
theorem FnRelGet_any (A : Option Addr) (n cap : Nat) (bs : List Int) (w : World) (hz : Bytes w w.heap.size A bs ∧ bs.length = n ∧ n ≤ cap ∧ cap ≤ maxLen) :
    Calls Try.prog 5 #[.slice A n cap] w fun e w' => e = .returned (.bool true) ∧ Below w.heap.size w w' := by
  obtain ⟨hz, rfl, hc, hm⟩ := hz
  have hm' := hm
  unfold maxLen at hm'
  by_cases hl0 : (1048576 : Int) < bs.length
  · go_enter Try.func5, Try.ntmps5
    go_wp2
    go_ret
    exact ⟨rfl, Below.refl _ _⟩
  · go_enter Try.func5, Try.ntmps5
    go_wp2_with fail
    refine (DrawRelGet_any A cap bs w hz hc hm).mono ?_
    rintro e w0 ⟨zs, A1, c1, key, c, rfl, hll, hsh, hk, hol, hb0⟩
    have T0 := Lib.hid (rowsA_own hol rfl)
    have B0 := Lib.hid hb0
    have HS := Lib.hid hsh
    have hl : zs.length ≤ 1048577 := by omega
    obtain ⟨o, ho⟩ : ∃ o, relOk zs = o := ⟨_, rfl⟩
    have HO := Lib.hid ho
    obtain ⟨gv, hgv⟩ : ∃ gv, relGetL zs key c = gv := ⟨_, rfl⟩
    have HG := Lib.hid hgv
    clear hol hb0 hsh hk hz hc hm hm' ho hgv
    go_wp2_with fail
    refine (RelGet_any A1 c1 zs key c _ T0.out hl HS.out).mono ?_
    rw [HG.out]
    rintro e w1 ⟨rfl, hb⟩
    have Tw1 := Lib.hid (T0.out.below hb)
    have Bw1 := Lib.hid (B0.out.trans (hb.mono B0.out.size))
    clear hb T0 B0
    go_wp2_with fail
    refine (sRelGet_any A1 c1 zs key c _ Tw1.out hl HS.out).mono ?_
    rw [HG.out]
    rintro e w2 ⟨rfl, hb⟩
    have Tw2 := Lib.hid (Tw1.out.below hb)
    have Bw2 := Lib.hid (Bw1.out.trans (hb.mono Bw1.out.size))
    clear hb Tw1 Bw1
    go_wp2_with fail
    refine (RelOk_any A1 c1 zs _ Tw2.out hl HS.out).mono ?_
    rw [HO.out]
    rintro e w3 ⟨rfl, hb⟩
    have Tw3 := Lib.hid (Tw2.out.below hb)
    have Bw3 := Lib.hid (Bw2.out.trans (hb.mono Bw2.out.size))
    clear hb Tw2 Bw2
    go_wp2_with fail
    refine (sRelOk_any A1 c1 zs _ Tw3.out hl HS.out).mono ?_
    rw [HO.out]
    rintro e w4 ⟨rfl, hb⟩
    have Tw4 := Lib.hid (Tw3.out.below hb)
    have Bw4 := Lib.hid (Bw3.out.trans (hb.mono Bw3.out.size))
    clear hb Tw3 Bw3
    go_wp2_with fail
    refine (RelOk_any A1 c1 zs _ Tw4.out hl HS.out).mono ?_
    rw [HO.out]
    rintro e w5 ⟨rfl, hb⟩
    have Tw5 := Lib.hid (Tw4.out.below hb)
    have Bw5 := Lib.hid (Bw4.out.trans (hb.mono Bw4.out.size))
    clear hb Tw4 Bw4
    cases o
    · skip
      go_wp2_with fail
      refine (sRelGet_any A1 c1 zs key c _ Tw5.out hl HS.out).mono ?_
      rw [HG.out]
      rintro e w6 ⟨rfl, hb⟩
      have Tw6 := Lib.hid (Tw5.out.below hb)
      have Bw6 := Lib.hid (Bw5.out.trans (hb.mono Bw5.out.size))
      clear hb Tw5 Bw5
      go_wp2_with fail
      refine (RelOk_any A1 c1 zs _ Tw6.out hl HS.out).mono ?_
      rw [HO.out]
      rintro e w7 ⟨rfl, hb⟩
      have Tw7 := Lib.hid (Tw6.out.below hb)
      have Bw7 := Lib.hid (Bw6.out.trans (hb.mono Bw6.out.size))
      clear hb Tw6 Bw6
      go_wp2_with fail
      refine (sRelOk_any A1 c1 zs _ Tw7.out hl HS.out).mono ?_
      rw [HO.out]
      rintro e w8 ⟨rfl, hb⟩
      have Tw8 := Lib.hid (Tw7.out.below hb)
      have Bw8 := Lib.hid (Bw7.out.trans (hb.mono Bw7.out.size))
      clear hb Tw7 Bw7
      go_wp2
      go_ret
      exact ⟨rfl, Bw8.out⟩
    · have hpl := relAtL_len zs c
      obtain ⟨ps, hps⟩ : ∃ ps, relAtL zs c = ps := ⟨_, rfl⟩
      have HPS := Lib.hid hps
      have HGP := Lib.hid (show getP key ps = gv from by rw [← hps]; exact HG.out)
      rw [hps] at hpl
      have hsl := relSpansL_len zs key
      have HRS := Lib.hid (relGet_has (key := key) (c := c) HO.out)
      obtain ⟨ss, hss⟩ : ∃ ss, relSpansL zs key = ss := ⟨_, rfl⟩
      have HSS := Lib.hid hss
      rw [hss] at hsl HRS
      rw [HG.out] at HRS
      obtain ⟨sv, hsv⟩ : ∃ sv, setHas ss c = sv := ⟨_, rfl⟩
      have HSV := Lib.hid hsv
      rw [hsv] at HRS
      clear hps hss hsv
      go_wp2_with fail
      refine (RelAt_any A1 c1 zs c _ Tw5.out hl HS.out).mono ?_
      rw [HPS.out]
      rintro e w6 ⟨A6, c6, rfl, ho, hb⟩
      have OP := Lib.hid (show PairsA w6 A6 ps from el_of_owns pairC_len ho)
      clear ho
      have Tw6 := Lib.hid (Tw5.out.below hb)
      have Bw6 := Lib.hid (Bw5.out.trans (hb.mono Bw5.out.size))
      clear hb Tw5 Bw5
      go_wp2_with fail
      refine (vaText_any A6 c6 ps key _ OP.out (by omega)).mono ?_
      rw [HGP.out]
      rintro e w7 ⟨rfl, rfl⟩
      cases sv
      · obtain rfl : gv = ⟨#[]⟩ := size_empty (Decidable.of_not_not fun h => by have := HRS.out.2 h; cases this)
        go_wp2_with fail
        refine (RelSpans_any A1 c1 zs key _ Tw6.out hl HS.out).mono ?_
        rw [HSS.out]
        rintro e w8 ⟨A8, c8, rfl, ho, hb⟩
        have OS := Lib.hid (owns_spans ho)
        clear ho
        have Tw8 := Lib.hid (Tw6.out.below hb)
        have Bw8 := Lib.hid (Bw6.out.trans (hb.mono Bw6.out.size))
        clear hb Tw6 Bw6
        go_wp2_with fail
        refine (SetHas_any A8 c8 ss c _ OS.out (by omega)).mono ?_
        rw [HSV.out]
        rintro e w9 ⟨rfl, hb⟩
        have Tw9 := Lib.hid (Tw8.out.below hb)
        have Bw9 := Lib.hid (Bw8.out.trans (hb.mono Bw8.out.size))
        clear hb Tw8 Bw8
        go_wp2
        go_ret
        exact ⟨rfl, Bw9.out⟩
      · have hne := size_some2 (HRS.out.1 rfl)
        go_wp2_with fail
        refine (RelSpans_any A1 c1 zs key _ Tw6.out hl HS.out).mono ?_
        rw [HSS.out]
        rintro e w8 ⟨A8, c8, rfl, ho, hb⟩
        have OS := Lib.hid (owns_spans ho)
        clear ho
        have Tw8 := Lib.hid (Tw6.out.below hb)
        have Bw8 := Lib.hid (Bw6.out.trans (hb.mono Bw6.out.size))
        clear hb Tw6 Bw6
        go_wp2_with fail
        refine (SetHas_any A8 c8 ss c _ OS.out (by omega)).mono ?_
        rw [HSV.out]
        rintro e w9 ⟨rfl, hb⟩
        have Tw9 := Lib.hid (Tw8.out.below hb)
        have Bw9 := Lib.hid (Bw8.out.trans (hb.mono Bw8.out.size))
        clear hb Tw8 Bw8
        go_wp2
        go_ret
        exact ⟨rfl, Bw9.out⟩
end Go.Proofs.Ytfolppahdmkaoaa
