/-
  The walk of FnRelSpans.
-/
import Derived.Test.YtfolppahdmkaoaaLawRG
import Derived.Test.YtfolppahdmkaoaaLawSM
namespace Go.Proofs.Ytfolppahdmkaoaa
open Go.Shelf Go.RowKit Go.Lib Go.Sort

def sumLen : List (Int × Int) → Int
  | [] => 0
  | z :: l => (z.2 - z.1) + sumLen l
theorem sumLen_snoc (z : Int × Int) : ∀ l : List (Int × Int), sumLen (l ++ [z]) = sumLen l + (z.2 - z.1)
  | [] => by simp [sumLen]
  | y :: l => by rw [List.cons_append, sumLen, sumLen, sumLen_snoc z l]; omega
theorem sumTo_len (zs : List (Int × Int)) : ∀ k, k ≤ zs.length → sumTo zs k = sumLen (zs.take k)
  | 0, _ => by simp [sumTo, sumLen]
  | k + 1, h => by
    have hk : k < zs.length := by omega
    rw [sumTo, sumTo_len zs k (by omega), List.take_succ_eq_append_getElem hk, sumLen_snoc, show zs.getD k (0, 0) = zs[k] from by simp [hk]]
def cnt (f : Int → Bool) : Nat → Int
  | 0 => 0
  | n + 1 => cnt f n + (if f (n : Int) = true then 1 else 0)
theorem cnt_iv (a b : Int) (h0 : 0 ≤ a) (h : a ≤ b) : ∀ n : Nat, cnt (fun p => decide (a ≤ p ∧ p < b)) n = min b n - min a n
  | 0 => by simp only [cnt]; omega
  | n + 1 => by
    rw [cnt, cnt_iv a b h0 h n]
    by_cases hp : a ≤ (n : Int) ∧ (n : Int) < b
    · rw [if_pos (by simpa using hp)]; omega
    · rw [if_neg (by simpa using hp)]; omega
theorem cnt_or (f g : Int → Bool) (hd : ∀ p, ¬ (f p = true ∧ g p = true)) : ∀ n : Nat, cnt (fun p => f p || g p) n = cnt f n + cnt g n
  | 0 => rfl
  | n + 1 => by
    rw [cnt, cnt, cnt, cnt_or f g hd n]
    have := hd n
    cases h1 : f n <;> cases h2 : g n <;> simp_all <;> omega
theorem cnt_same (f g : Int → Bool) (h : ∀ p, f p = g p) (n : Nat) : cnt f n = cnt g n := by
  have : f = g := funext h
  rw [this]
theorem cnt_none : ∀ n : Nat, cnt (fun _ => false) n = 0
  | 0 => rfl
  | n + 1 => by rw [cnt, cnt_none n]; rfl
def anyB (l : List (Int × Int)) (p : Int) : Bool := l.any fun z => decide (z.1 ≤ p ∧ p < z.2)
theorem anyB_has (l : List (Int × Int)) (p : Int) : anyB l p = true ↔ has l p := by
  unfold anyB has
  rw [List.any_eq_true]
  constructor
  · rintro ⟨z, hz, h⟩; exact ⟨z, hz, by simpa using h⟩
  · rintro ⟨z, hz, h⟩; exact ⟨z, hz, by simpa using h⟩
theorem sum_cnt : ∀ l : List (Int × Int), (∀ z ∈ l, 0 ≤ z.1 ∧ z.1 < z.2 ∧ z.2 ≤ 100) → l.Pairwise (fun x y => x.2 ≤ y.1) → sumLen l = cnt (anyB l) 100
  | [], _, _ => (cnt_none 100).symm
  | z :: l, h, hp => by
    obtain ⟨h1, h2⟩ := List.pairwise_cons.1 hp
    obtain ⟨a1, a2, a3⟩ := h z (by simp)
    rw [sumLen, sum_cnt l (fun y hy => h y (by simp [hy])) h2]
    have e : cnt (anyB (z :: l)) 100 = cnt (fun p => (fun q => decide (z.1 ≤ q ∧ q < z.2)) p || anyB l p) 100 := cnt_same _ _ (fun p => by simp [anyB]) 100
    rw [e, cnt_or _ _ (fun p hpp => by
      have hz : z.1 ≤ p ∧ p < z.2 := by simpa using hpp.1
      obtain ⟨y, hy, hy1, hy2⟩ := (anyB_has l p).1 hpp.2
      have := h1 y hy
      omega) 100, cnt_iv z.1 z.2 a1 (by omega) 100]
    omega
theorem canon_pair : ∀ {l : List (Int × Int)} {lo : Int}, canon lo l → (∀ z ∈ l, lo < z.1 ∧ z.1 < z.2 ∧ z.2 ≤ 100) ∧ l.Pairwise (fun x y => x.2 ≤ y.1)
  | [], _, _ => ⟨fun z hz => (by cases hz), List.Pairwise.nil⟩
  | z :: l, lo, hc => by
    obtain ⟨c1, c2, c3, c4⟩ := hc
    obtain ⟨h1, h2⟩ := canon_pair c4
    refine ⟨fun y hy => ?_, List.pairwise_cons.2 ⟨fun y hy => ?_, h2⟩⟩
    · rcases List.mem_cons.1 hy with rfl | hy
      · omega
      · have := h1 y hy; omega
    · have := h1 y hy; omega
theorem spans_pair {zs : List RowV} (h : relOk zs = true) (key : ByteArray) (k : Nat) : (∀ z ∈ spansTo zs key k, 0 ≤ z.1 ∧ z.1 < z.2 ∧ z.2 ≤ 100) ∧ (spansTo zs key k).Pairwise (fun x y => x.2 ≤ y.1) := by
  constructor
  · intro z hz
    have := List.all_eq_true.1 (spansTo_ok h key k) z hz
    simpa [okB] using this
  · unfold spansTo
    rw [List.pairwise_map]
    have hp : ((zs.take k).filter fun x => x.k.toList == key.toList).Pairwise adj := ((rel_apart h).2.sublist (List.take_sublist _ _)).sublist List.filter_sublist
    refine hp.imp_of_mem ?_
    intro x y hx hy hxy
    have e1 := same_key.1 (List.mem_filter.1 hx).2
    have e2 := same_key.1 (List.mem_filter.1 hy).2
    rcases hxy with hxy | hxy
    · rw [e1, e2, kl_irrefl] at hxy; cases hxy
    · exact hxy.2
theorem many_sum {zs : List RowV} (h : relOk zs = true) (key : ByteArray) : setMany (relSpansL zs key) = sumLen (spansTo zs key zs.length) := by
  have hk := relSpansL_ok zs key
  rw [← setMany_ok hk, sumTo_len _ _ (Nat.le_refl _), List.take_length]
  obtain ⟨a1, a2⟩ := canon_pair ((setOk_iff _).1 hk)
  obtain ⟨b1, b2⟩ := spans_pair h key zs.length
  rw [sum_cnt _ (fun z hz => by have := a1 z hz; omega) a2, sum_cnt _ b1 b2]
  refine cnt_same _ _ (fun q => ?_) 100
  rw [Bool.eq_iff_iff, anyB_has, anyB_has]
  unfold relSpansL
  rw [if_pos h, has_addAll (spansTo_ok h key _)]
theorem spans_some {zs : List RowV} (h : relOk zs = true) (key : ByteArray) : 0 < (relSpansL zs key).length ↔ 0 < (spansTo zs key zs.length).length := by
  have e : ∀ q, has (relSpansL zs key) q ↔ has (spansTo zs key zs.length) q := fun q => by
    unfold relSpansL
    rw [if_pos h, has_addAll (spansTo_ok h key _)]
  obtain ⟨a1, -⟩ := canon_pair ((setOk_iff _).1 (relSpansL_ok zs key))
  obtain ⟨b1, -⟩ := spans_pair h key zs.length
  constructor
  · intro h0
    obtain ⟨z, hz⟩ := List.exists_mem_of_length_pos h0
    have := a1 z hz
    obtain ⟨y, hy, _⟩ := (e z.1).1 ⟨z, hz, by omega, by omega⟩
    exact List.length_pos_of_mem hy
  · intro h0
    obtain ⟨z, hz⟩ := List.exists_mem_of_length_pos h0
    have := b1 z hz
    obtain ⟨y, hy, _⟩ := (e z.1).2 ⟨z, hz, by omega, by omega⟩
    exact List.length_pos_of_mem hy
theorem sumLen_bd : ∀ l : List (Int × Int), (∀ z ∈ l, 0 ≤ z.1 ∧ z.1 < z.2 ∧ z.2 ≤ 100) → 0 ≤ sumLen l ∧ sumLen l ≤ 100 * l.length
  | [], _ => by simp [sumLen]
  | z :: l, h => by
    have h1 := h z (by simp)
    have h2 := sumLen_bd l (fun y hy => h y (by simp [hy]))
    rw [sumLen, List.length_cons]
    omega

/-- A drawn table and a key. -/
def DrawnRS (w : World) (e : Ending) (w' : World) : Prop :=
  ∃ (zs : List RowV) (A : Option Addr) (cap : Nat) (key : ByteArray), e = .returned (.tuple #[.slice A zs.length cap, .string key]) ∧ zs.length ≤ 25 ∧ Short zs ∧ w'.ownsRow w.heap.size 45 4 (.slice A zs.length cap) zs.length (flatOf rowC zs) ∧ Below w.heap.size w w'

set_option maxRecDepth 100000 in
set_option maxHeartbeats 2000000 in
theorem DrawRelSpans_any (A : Option Addr) (cap : Nat) (bs : List Int) (w : World) (h : Bytes w w.heap.size A bs) (hc : bs.length ≤ cap) (hm : cap ≤ maxLen) :
    Calls Try.prog 20 #[.slice A bs.length cap] w (DrawnRS w) := by
  go_enter Try.func20, Try.ntmps20
  go_wp2_with fail
  refine (l20Open_any A cap bs _ h hc hm).mono ?_
  rintro e w1 ⟨zs0, rfl, hrd1, hb1⟩
  have hl1 := hrd1.lt
  clear h
  go_wp2_with fail
  refine (l20AnyRel_any _ zs0 0 _ hrd1 (by omega) (by omega)).mono ?_
  rintro e w2 ⟨zs, A2, c2, rfl, hll, hsh, hol, p', hpa, hpb, hrd2, hgr2⟩
  have O2 := Lib.hid hol
  have HS := Lib.hid hsh
  clear hol hsh
  go_wp2_with fail
  refine (l20Key_any _ zs0 p' _ hrd2 (by omega) (by omega)).mono ?_
  rintro e w3 ⟨key, rfl, hk, hrd3, hgr3⟩
  have O3 := Lib.hid (O2.out.kept hgr3 (owns_notR O2.out hl1))
  have HB := Lib.hid (grown_below hb1 (grown_trans hgr2 hgr3) (Nat.le_refl _))
  have hs1 := hb1.size
  clear hgr2 hgr3 hrd1 hrd2 hrd3 O2 hb1 hk
  go_wp2
  refine bodyPost_ret (v := .tuple #[.slice A2 zs.length c2, .string key]) (by simp [results, Try.results20, go_sem]) rfl ?_
  exact ⟨zs, A2, c2, key, rfl, hll, HS.out, owns_baseE O3.out hs1, HB.out⟩

set_option maxRecDepth 100000 in
set_option maxHeartbeats 4000000 in
theorem FnRelSpans_any (A : Option Addr) (n cap : Nat) (bs : List Int) (w : World) (hz : Bytes w w.heap.size A bs ∧ bs.length = n ∧ n ≤ cap ∧ cap ≤ maxLen) :
    Calls Try.prog 6 #[.slice A n cap] w fun e w' => e = .returned (.bool true) ∧ Below w.heap.size w w' := by
  obtain ⟨hz, rfl, hc, hm⟩ := hz
  have hm' := hm
  unfold maxLen at hm'
  by_cases hl0 : (1048576 : Int) < bs.length
  · go_enter Try.func6, Try.ntmps6
    go_wp2
    go_ret
    exact ⟨rfl, Below.refl _ _⟩
  · go_enter Try.func6, Try.ntmps6
    go_wp2_with fail
    refine (DrawRelSpans_any A cap bs w hz hc hm).mono ?_
    rintro e w0 ⟨zs, A1, c1, key, rfl, hll, hsh, hol, hb0⟩
    have T0 := Lib.hid (rowsA_own hol rfl)
    have B0 := Lib.hid hb0
    have HS := Lib.hid hsh
    have hl : zs.length ≤ 1048577 := by omega
    obtain ⟨o, ho⟩ : ∃ o, relOk zs = o := ⟨_, rfl⟩
    have HO := Lib.hid ho
    have hsl := relSpansL_len zs key
    have HSk := Lib.hid (relSpansL_ok zs key)
    have HMS := Lib.hid (show relOk zs = true → setMany (relSpansL zs key) = sumLen (spansTo zs key zs.length) from fun h => many_sum h key)
    have HSo := Lib.hid (show relOk zs = true → (0 < (relSpansL zs key).length ↔ 0 < (spansTo zs key zs.length).length) from fun h => spans_some h key)
    obtain ⟨ss, hss⟩ : ∃ ss, relSpansL zs key = ss := ⟨_, rfl⟩
    have HSS := Lib.hid hss
    rw [hss] at hsl HSk HMS HSo
    clear hol hb0 hsh hz hc hm hm' ho hss
    go_wp2_with fail
    refine (RelSpans_any A1 c1 zs key _ T0.out hl HS.out).mono ?_
    rw [HSS.out]
    rintro e w1 ⟨A2, c2, rfl, ho, hb⟩
    have OS := Lib.hid ho
    clear ho
    have Tw1 := Lib.hid (T0.out.below hb)
    have Bw1 := Lib.hid (B0.out.trans (hb.mono B0.out.size))
    clear T0 B0
    clear hb
    go_wp2_with fail
    refine (sRelSpans_any A1 c1 zs key _ Tw1.out hl HS.out).mono ?_
    rw [HSS.out]
    rintro e w2 ⟨Aq, cq, rfl, ho, hb⟩
    have OQ := Lib.hid ho
    clear ho
    have Tw2 := Lib.hid (Tw1.out.below hb)
    have Bw2 := Lib.hid (Bw1.out.trans (hb.mono Bw1.out.size))
    clear Tw1 Bw1
    have Sw2 := Lib.hid (owns_keep OS.out hb)
    clear OS
    clear hb
    go_wp2_with fail
    refine (vaSpans_same _ _ _ _ ss _ (owns_spans Sw2.out) (owns_spans OQ.out) (by unfold maxLen; omega)).mono ?_
    rintro e w3 ⟨rfl, hb⟩
    clear OQ
    have Tw3 := Lib.hid (Tw2.out.below hb)
    have Bw3 := Lib.hid (Bw2.out.trans (hb.mono Bw2.out.size))
    clear Tw2 Bw2
    have Sw3 := Lib.hid (owns_keep Sw2.out hb)
    clear Sw2
    clear hb
    go_wp2_with fail
    refine (RelOk_any A1 c1 zs _ Tw3.out hl HS.out).mono ?_
    rw [HO.out]
    rintro e w4 ⟨rfl, hb⟩
    have Tw4 := Lib.hid (Tw3.out.below hb)
    have Bw4 := Lib.hid (Bw3.out.trans (hb.mono Bw3.out.size))
    clear Tw3 Bw3
    have Sw4 := Lib.hid (owns_keep Sw3.out hb)
    clear Sw3
    clear hb
    cases o
    · skip
      go_wp2_with fail
      refine (sRelSpans_any A1 c1 zs key _ Tw4.out hl HS.out).mono ?_
      rw [HSS.out]
      rintro e w5 ⟨Aq, cq, rfl, ho, hb⟩
      have OQ := Lib.hid ho
      clear ho
      have Tw5 := Lib.hid (Tw4.out.below hb)
      have Bw5 := Lib.hid (Bw4.out.trans (hb.mono Bw4.out.size))
      clear Tw4 Bw4
      have Sw5 := Lib.hid (owns_keep Sw4.out hb)
      clear Sw4
      clear hb
      go_wp2_with fail
      refine (vaSpans_same _ _ _ _ ss _ (owns_spans Sw5.out) (owns_spans OQ.out) (by unfold maxLen; omega)).mono ?_
      rintro e w6 ⟨rfl, hb⟩
      clear OQ
      have Tw6 := Lib.hid (Tw5.out.below hb)
      have Bw6 := Lib.hid (Bw5.out.trans (hb.mono Bw5.out.size))
      clear Tw5 Bw5
      have Sw6 := Lib.hid (owns_keep Sw5.out hb)
      clear Sw5
      clear hb
      go_wp2
      go_ret
      exact ⟨rfl, Bw6.out⟩
    · have hl24 := relOk_len HO.out
      go_wp2
      go_loopw [6, 7, 8] (fun b m i wr => ∃ k : Nat, k ≤ zs.length ∧ i = .int .i64 k ∧ b = .bool (decide (0 < (spansTo zs key k).length)) ∧ m = .int .i64 (sumLen (spansTo zs key k)) ∧ Below w4.heap.size w4 wr) (fun _ _ i _ => zs.length - (intOf i).toNat)
      case atStart => exact ⟨0, Nat.zero_le _, rfl, by simp [spansTo], by simp [spansTo, sumLen], Below.refl _ _⟩
      case round =>
        obtain ⟨k, hk, rfl, rfl, rfl, hbr⟩ := hrel
        have hbd := sumLen_bd _ (spans_pair HO.out key k).1
        have hlo := spansTo_len zs key k
        by_cases hlt : k < zs.length
        · obtain ⟨b0, off, x, rfl, hb0, hx, c0, c1', c2', c3'⟩ := (Tw4.out.below hbr).at_ hlt
          have HT := Lib.hid (spansTo_succ (key := key) hx)
          have hxs := relOk_span HO.out (List.mem_of_getElem? hx)
          obtain ⟨sp, hsp⟩ : ∃ sp, spansTo zs key k = sp := ⟨_, rfl⟩
          rw [hsp] at hbd hlo HT ⊢
          have hkz : (k : Int) < (zs.length : Int) := by omega
          have hkz0 : (0 : Int) ≤ (k : Int) := by omega
          obtain ⟨sv, hsv⟩ : ∃ sv, sumLen sp = sv := ⟨_, rfl⟩
          have HSV := Lib.hid hsv
          rw [hsv] at hbd ⊢
          clear hx hsp hsv
          cases hkey : (x.k.toList == key.toList)
          · rw [hkey, if_neg (by simp), List.append_nil] at HT
            generalize hdd : decide (0 < sp.length) = dd
            have HDD := Lib.hid hdd
            clear hdd
            go_wp2
            go_roundw
            case rel => exact ⟨k + 1, by omega, by go_num, by rw [HT.out, HDD.out], by rw [HT.out, HSV.out], hbr⟩
            case measure => simp [intOf]; omega
          · rw [hkey, if_pos rfl] at HT
            have HL1 := Lib.hid (show decide (0 < (spansTo zs key (k + 1)).length) = true from by rw [HT.out]; simp)
            have HL2 := Lib.hid (show sumLen (spansTo zs key (k + 1)) = sv + x.e - x.f from by rw [HT.out, sumLen_snoc, HSV.out]; simp only [spanOf]; omega)
            generalize decide (0 < sp.length) = dd
            go_wp2_with fail
            go_quiet (fail)
            have BN := Lib.hid (show Below w4.heap.size w4 (wr.drewN nq) from below_drewN hbr _)
            go_wp2
            go_roundw
            case rel => exact ⟨k + 1, by omega, by go_num, by rw [HL1.out], by rw [HL2.out], BN.out⟩
            case measure => simp [intOf]; omega
        · obtain rfl : k = zs.length := by omega
          have HMs := Lib.hid (HMS.out HO.out)
          have HD := Lib.hid (show decide (0 < (spansTo zs key zs.length).length) = decide (0 < ss.length) from by rw [decide_eq_decide]; exact (HSo.out HO.out).symm)
          rw [HD.out]
          obtain ⟨sv, hsv⟩ : ∃ sv, sumLen (spansTo zs key zs.length) = sv := ⟨_, rfl⟩
          rw [hsv] at HMs hbd ⊢
          have SR := Lib.hid (owns_keep Sw4.out hbr)
          have BR := Lib.hid (Bw4.out.trans (hbr.mono Bw4.out.size))
          clear hbr hsv
          go_wp2_with fail
          refine (SetOk_any A2 c2 ss _ (owns_spans SR.out) (by omega)).mono ?_
          rw [HSk.out]
          rintro e w5 ⟨rfl, hb⟩
          have SS := Lib.hid (owns_keep SR.out hb)
          have BS := Lib.hid (BR.out.trans (hb.mono BR.out.size))
          clear hb
          by_cases hp : 0 < ss.length
          · have hp1 : decide (0 < ss.length) = true := decide_eq_true hp
            have hp2 : (0 : Int) < (ss.length : Int) := by omega
            rw [hp1]
            go_wp2_with fail
            refine (SetMany_any A2 c2 ss _ (owns_spans SS.out) (by omega)).mono ?_
            rw [HMs.out]
            rintro e w6 ⟨rfl, hb⟩
            have BT := Lib.hid (BS.out.trans (hb.mono BS.out.size))
            clear hb
            go_wp2
            go_ret
            exact ⟨rfl, BT.out⟩
          · have hp1 : decide (0 < ss.length) = false := decide_eq_false hp
            have hp2 : ¬ (0 : Int) < (ss.length : Int) := by omega
            have hp3 : decide ((0 : Int) < (ss.length : Int)) = false := decide_eq_false hp2
            rw [hp1]
            go_wp2_with fail
            refine (SetMany_any A2 c2 ss _ (owns_spans SS.out) (by omega)).mono ?_
            rw [HMs.out]
            rintro e w6 ⟨rfl, hb⟩
            have BT := Lib.hid (BS.out.trans (hb.mono BS.out.size))
            clear hb
            go_wp2
            go_ret
            exact ⟨rfl, BT.out⟩
end Go.Proofs.Ytfolppahdmkaoaa
