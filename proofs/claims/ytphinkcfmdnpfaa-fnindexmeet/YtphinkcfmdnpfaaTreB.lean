/-
  Walks: the model's tree of rows in order, and its index of a table.
-/
import Derived.Test.YtphinkcfmdnpfaaTreI
import Derived.Test.YtphinkcfmdnpfaaTreG
import Derived.Test.YtphinkcfmdnpfaaRelOfS
import Derived.Test.YtphinkcfmdnpfaaTreL
import Derived.Laws.EntriesVeiled
namespace Go.Proofs.Ytphinkcfmdnpfaa
open Go.Shelf Go.RowKit Go.Lib

theorem insF_at' {x : RowV} {ss : List RowV} {q : Nat} (h : insF x ss = ss.take q ++ x :: ss.drop q) : insF x ss = ss.take q ++ ([x] ++ ss.drop q) := h
theorem owns_someF {w : World} {base n k : Nat} {v : Value} {t : TypeId} {xs : List Value} (h : w.ownsRow base t k v n xs) (hn : 0 < n) : ∃ g cap, v = .slice (some ⟨g, 0, none⟩) n cap := by
  rcases h.2 with ⟨_, h0⟩ | ⟨g, c, cur, e1, _⟩
  · omega
  · exact ⟨g, c, e1⟩

set_option maxRecDepth 100000 in
set_option maxHeartbeats 8000000 in
theorem l8Sort_any (A : Option Addr) (ca : Nat) (t : List RowV) (w : World) (hx : RowsA w A t) (hl : t.length ≤ 1048577) :
    Calls Try.prog 86 #[.slice A t.length ca] w (GetsE rowC 4 70 w (sortF t)) := by
  obtain ⟨i0, hi, hz0, hz1, hz2⟩ := info_parts Try.infoR70
  have Hi := Lib.hid hi
  have Hz0 := Lib.hid hz0
  have Hz1 := Lib.hid hz1
  have Hz2 := Lib.hid hz2
  have HX := Lib.hid hx
  clear hi hz0 hz1 hz2 hx
  go_enter Try.func86, Try.ntmps86
  go_wp2
  go_loopw [3, 4] (fun v i wr => ∃ (k g cap : Nat), k ≤ t.length ∧ i = .int .i64 k ∧ v = .slice (some ⟨g, 0, none⟩) k cap ∧ wr.ownsRow w.heap.size 70 4 v k (flatOf rowC (sortF (t.take k))) ∧ Below w.heap.size w wr) (fun _ i _ => t.length - (intOf i).toNat)
  case atStart =>
    refine ⟨0, w.heap.size, 0, Nat.zero_le _, rfl, rfl, ?_, (Below.refl _ _).alloc (Nat.le_refl _) _⟩
    have := World.ownsRow_lit (base := w.heap.size) (e := 70) (size := 4) w #[] 0 (by simp) (by simp [maxLen]) (by simp)
    simpa [flatOf, sortF] using this
  case round =>
    obtain ⟨k, g, c5, hk, rfl, rfl, hown, hbr⟩ := hrel
    have hsl : (sortF (t.take k)).length = k := by rw [sortF_len, List.length_take]; omega
    by_cases hlt : k < t.length
    · obtain ⟨b, off, x, rfl, hb, hx, c0, c1, c2, c3⟩ := HX.out.at_ hlt
      have HT := Lib.hid (sortF_take hx)
      have HRW := Lib.hid hx
      obtain ⟨ss, hss⟩ : ∃ ss, sortF (t.take k) = ss := ⟨_, rfl⟩
      rw [hss] at hown hsl HT
      have Hown := Lib.hid hown
      have HOut := Lib.hid (rowsA_own hown hsl.symm)
      have HCap := Lib.hid (owns_cap hown)
      have HSL := Lib.hid hsl
      have hgl := (hown.lt g rfl).2
      have BR := Lib.hid hbr
      have hs5 := hbr.size
      clear hx hss hown hbr hsl
      have hkz : (k : Int) < (t.length : Int) := by omega
      have hkz0 : (0 : Int) ≤ (k : Int) := by omega
      obtain ⟨wo, rfl⟩ : ∃ W, W = wr := ⟨_, rfl⟩
      go_wp2
      go_loopw [5] (fun j wi => ∃ q : Nat, q ≤ k ∧ j = .int .i64 q ∧ (∀ p y, p < q → ss[p]? = some y → lessFK y x = true) ∧ Below wo.heap.size wo wi) (fun j _ => k - (intOf j).toNat)
      case atStart => exact ⟨0, Nat.zero_le _, rfl, fun p y hp => absurd hp (by omega), Below.refl _ _⟩
      case round =>
        obtain ⟨q, hq, rfl, hall, hbi⟩ := hrel
        have Hall := Lib.hid hall
        clear hall
        have p0 := cellBelow hbi (Nat.lt_of_lt_of_le hb hs5) (cellBelow BR.out hb c0)
        have p1 := cellBelow hbi (Nat.lt_of_lt_of_le hb hs5) (cellBelow BR.out hb c1)
        have p2 := cellBelow hbi (Nat.lt_of_lt_of_le hb hs5) (cellBelow BR.out hb c2)
        have p3 := cellBelow hbi (Nat.lt_of_lt_of_le hb hs5) (cellBelow BR.out hb c3)
        by_cases hqt : q < k
        · obtain ⟨b2, off2, y, hA, -, hy, r0, r1, r2, r3⟩ := (HOut.out.below hbi).at_ (show q < ss.length by rw [HSL.out]; exact hqt)
          injection hA with hA
          injection hA with e1 e2 e3
          subst e1 e2
          clear e3
          rw [Nat.zero_add] at r0
          simp only [Nat.zero_add] at r2
          have HY := Lib.hid hy
          have BI := Lib.hid hbi
          have hqz : (q : Int) < (k : Int) := by omega
          have hqd : decide ((q : Int) < (k : Int)) = true := decide_eq_true hqz
          clear hy hbi r1 r3
          by_cases h1 : y.f < x.f
          · have n1 : decide (y.f < x.f) = true := decide_eq_true h1
            have HLess := Lib.hid (lessFK_iff.2 (.inl h1))
            go_wp2_with fail
            go_quiet (fail)
            have BN := Lib.hid (show Below wo.heap.size wo (wr.drewN nq) from below_drewN BI.out _)
            go_wp2
            go_roundw
            case rel => exact ⟨q + 1, by omega, by go_num, fun p z hp hz => by
              by_cases e : p = q
              · subst e
                have := hz.symm.trans HY.out
                injection this with this
                rw [this]; exact HLess.out
              · exact Hall.out p z (by omega) hz, BN.out⟩
            case measure => simp [intOf]; omega
          · have n1 : decide (y.f < x.f) = false := decide_eq_false h1
            by_cases h2 : y.f = x.f
            · have n2 : (y.f == x.f) = true := by simpa using h2
              obtain ⟨lb, hlb⟩ : ∃ lb, kl y.k x.k = lb := ⟨_, rfl⟩
              have n3 : Op.bytesLess y.k.toList x.k.toList = lb := hlb
              have HLB := Lib.hid hlb
              have H1 := Lib.hid h1
              have H2 := Lib.hid h2
              clear h1 h2 hlb
              go_wp2_with fail
              go_quiet (fail)
              have BN := Lib.hid (show Below wo.heap.size wo (wr.drewN nq) from below_drewN BI.out _)
              cases lb
              · have HNo := Lib.hid (show ∀ y', ss[q]? = some y' → lessFK y' x = false from fun y' hy' => by
                  have := hy'.symm.trans HY.out
                  injection this with this
                  rw [this]
                  exact lessFK_no.2 (.inr ⟨H2.out, HLB.out⟩))
                have HP := Lib.hid (insF_at (show q ≤ ss.length by rw [HSL.out]; exact hq) Hall.out HNo.out)
                replace p0 : (wr.drewN nq).cell? ⟨b, off + k * 4, none⟩ = some (.string x.k) := p0
                replace p1 : (wr.drewN nq).cell? ⟨b, off + k * 4 + 1, none⟩ = some (.string x.t) := p1
                replace p2 : (wr.drewN nq).cell? ⟨b, off + k * 4 + 2, none⟩ = some (.int .i64 x.f) := p2
                replace p3 : (wr.drewN nq).cell? ⟨b, off + k * 4 + 3, none⟩ = some (.int .i64 x.e) := p3
                generalize wr.drewN nq = W at *
                clear Hall HNo
                have hbW : b < W.heap.size := by have := BN.out.size; omega
                have HRW2 := Lib.hid (HOut.out.below BN.out)
                have HLT := Lib.hid (show (ss.take q).length = q from by rw [List.length_take, HSL.out]; omega)
                have HLD := Lib.hid (show (ss.drop q).length = k - q from by rw [List.length_drop, HSL.out])
                have hcp := HCap.out
                have OL := Lib.hid (World.ownsRow_lit (base := W.heap.size) (e := 70) (size := 4) W #[] 0 (by omega) (by simp [maxLen]) (by simp))
                have SL := Lib.hid (show Src (W.alloc (.cells #[] 70)) (.slice (some ⟨g, 0, none⟩) q c5) (ss.take q) from by
                  have := src_of (cap := c5) (rows_take (HRW2.out.below ((Below.refl _ _).alloc (Nat.le_refl _) (.cells #[] 70))) q) (fun h => by cases h)
                  rwa [HLT.out] at this)
                have P1 := Lib.hid (fun w1 (h : Below W.heap.size W w1) => cellBelow h hbW p0)
                have P2 := Lib.hid (fun w1 (h : Below W.heap.size W w1) => cellBelow h hbW p1)
                have P3 := Lib.hid (fun w1 (h : Below W.heap.size W w1) => cellBelow h hbW p2)
                have P4 := Lib.hid (fun w1 (h : Below W.heap.size W w1) => cellBelow h hbW p3)
                have BW := Lib.hid (BR.out.trans (BN.out.mono hs5))
                have hsW := BW.out.size
                clear p0 p1 p2 p3 c0 c1 c2 c3
                have SDF := Lib.hid (show ∀ w2 : World, Below W.heap.size W w2 → ∀ (a : Addr) (cc : Nat), (¬ c5 - q = 0 → a = ⟨g, 0 + q * 4, none⟩) → Src w2 (.slice (some a) (k - q) cc) (ss.drop q) from fun w2 h2 a cc ha => by
                  by_cases hc : c5 - q = 0
                  · have h1 : ss.drop q = [] := List.drop_of_length_le (by rw [HSL.out]; omega)
                    have h3 : k - q = 0 := by omega
                    rw [h1, h3]
                    exact .inr ⟨a, _, rfl, fun j x hx => by simp [flatOf] at hx⟩
                  · obtain rfl := ha hc
                    have := src_of (w := w2) (cap := cc) (rows_drop (HRW2.out.below h2) q) (fun h => by cases h)
                    rwa [HLD.out] at this)
                have hck : ¬ c5 - q = 0 := by omega
                have hck2 : ¬ c5 = q := by omega
                go_wp2_with (at_builtin; first
                  | (refine wpList_append_src _ rfl _ _ 23 rfl W.heap.size 70 i0 _ 48 Try.underlying23 Hi.out Hz0.out Hz1.out Hz2.out rfl _ (q + 1) (ss.take q ++ [x]) rfl O2.out _ (ss.drop q) rfl (SDF.out _ B2.out _ _ (by first | (intro hh; exact absurd (by assumption) hh) | (intro _; first | rfl | simp))) (by rw [HLD.out]; unfold maxLen; omega) (by rw [HLD.out]; omega) (by omega) ?_; intro v3 w3 ho3 hg3; obtain ⟨A3, k3, rfl⟩ := owns_formN ho3; have O3 := Lib.hid ho3; have B3 := Lib.hid (B2.out.grown hg3 (by omega) (fun i e => (O2.out.lt i e).1)); clear ho3 hg3)
                  | (refine wpList_append_own _ rfl _ _ 23 rfl W.heap.size 70 i0 _ 4 48 Try.underlying23 Hi.out Hz0.out Hz1.out Hz2.out rfl (by decide) _ q (flatOf rowC (ss.take q)) rfl (O1.out.alloc _) ⟨w1.heap.size, 0, none⟩ 1 1 [.string x.k, .string x.t, .int .i64 x.f, .int .i64 x.e] rfl rfl (newsFour (by simp) (by simp) (by simp) (by simp)) (by simp [Value.oneCell']) (by unfold maxLen; omega) (by omega) (by simp; omega) ?_; intro v2 w2 ho2 hg2 hn2; obtain ⟨A2, k2, rfl⟩ := owns_formN ho2; have O2 := Lib.hid (show w2.ownsRow W.heap.size 70 4 (.slice A2 (q + 1) k2) (q + 1) (flatOf rowC (ss.take q ++ [x])) from by rw [flatOf_append, flatOf_one]; exact ho2); have B2 := Lib.hid ((B1.out.alloc (by omega) _).grown hg2 (by simp; omega) (fun i e => (O1.out.lt i e).1)); have l2 : W.heap.size ≤ w2.heap.size := B2.out.size; clear ho2 hg2 hn2)
                  | (refine wpList_append_src _ rfl _ _ 23 rfl W.heap.size 70 i0 _ 48 Try.underlying23 Hi.out Hz0.out Hz1.out Hz2.out rfl (.slice (some ⟨W.heap.size, 0, none⟩) 0 0) 0 [] rfl OL.out _ (ss.take q) rfl SL.out (by rw [HLT.out]; unfold maxLen; omega) (by rw [HLT.out]; omega) (by simp) ?_; rw [HLT.out, List.nil_append, Nat.zero_add]; intro v1 w1 ho1 hg1; obtain ⟨A1, k1, rfl⟩ := owns_formN ho1; have O1 := Lib.hid ho1; have B1 := Lib.hid (((Below.refl W.heap.size W).alloc (Nat.le_refl _) _).grown hg1 (by simp) (fun i e => (OL.out.lt i e).1)); have l1 : W.heap.size ≤ w1.heap.size := B1.out.size; have q0' := P1.out w1 B1.out; have q1' := P2.out w1 B1.out; have q2' := P3.out w1 B1.out; have q3' := P4.out w1 B1.out; have hb1 : b < w1.heap.size := Nat.lt_of_lt_of_le hbW l1; clear ho1 hg1))
                go_roundw
                case rel =>
                  have hlen : q + 1 + (ss.drop q).length = k + 1 := by rw [HLD.out]; omega
                  have O4 := O3.out
                  rw [List.append_assoc, ← insF_at' HP.out, ← HT.out] at O4
                  obtain ⟨g3, c3, he3⟩ := owns_someF O4 (by omega)
                  injection he3 with e1 e2 e3
                  subst e1 e3
                  rw [hlen] at O4
                  have hdl : (ss.drop q).length = k - q := HLD.out
                  have hsl2 := HSL.out
                  have O5 := owns_baseE O4 hsW
                  have hn1 : q + 1 + (ss.length - q) = k + 1 := by omega
                  have hn2 : q + 1 + (k - q) = k + 1 := by omega
                  try rw [hdl]
                  try rw [hn1]
                  try rw [hn2]
                  refine ⟨k + 1, g3, k3, by omega, by go_num, rfl, O5, ?_⟩
                  exact BW.out.trans (B3.out.mono hsW)
                case measure => simp [intOf]; omega
              · have HLess := Lib.hid (lessFK_iff.2 (.inr ⟨H2.out, HLB.out⟩))
                go_wp2
                go_roundw
                case rel => exact ⟨q + 1, by omega, by go_num, fun p z hp hz => by
                  by_cases e : p = q
                  · subst e
                    have := hz.symm.trans HY.out
                    injection this with this
                    rw [this]; exact HLess.out
                  · exact Hall.out p z (by omega) hz, BN.out⟩
                case measure => simp [intOf]; omega
            · have n2 : (y.f == x.f) = false := by simpa using h2
              have HNo := Lib.hid (show ∀ y', ss[q]? = some y' → lessFK y' x = false from fun y' hy' => by
                have := hy'.symm.trans HY.out
                injection this with this
                rw [this]
                exact lessFK_no.2 (.inl (by omega)))
              clear h1 h2
              go_wp2_with fail
              go_quiet (fail)
              have BN := Lib.hid (show Below wo.heap.size wo (wr.drewN nq) from below_drewN BI.out _)
              have HP := Lib.hid (insF_at (show q ≤ ss.length by rw [HSL.out]; exact hq) Hall.out HNo.out)
              replace p0 : (wr.drewN nq).cell? ⟨b, off + k * 4, none⟩ = some (.string x.k) := p0
              replace p1 : (wr.drewN nq).cell? ⟨b, off + k * 4 + 1, none⟩ = some (.string x.t) := p1
              replace p2 : (wr.drewN nq).cell? ⟨b, off + k * 4 + 2, none⟩ = some (.int .i64 x.f) := p2
              replace p3 : (wr.drewN nq).cell? ⟨b, off + k * 4 + 3, none⟩ = some (.int .i64 x.e) := p3
              generalize wr.drewN nq = W at *
              clear Hall HNo
              have hbW : b < W.heap.size := by have := BN.out.size; omega
              have HRW2 := Lib.hid (HOut.out.below BN.out)
              have HLT := Lib.hid (show (ss.take q).length = q from by rw [List.length_take, HSL.out]; omega)
              have HLD := Lib.hid (show (ss.drop q).length = k - q from by rw [List.length_drop, HSL.out])
              have hcp := HCap.out
              have OL := Lib.hid (World.ownsRow_lit (base := W.heap.size) (e := 70) (size := 4) W #[] 0 (by omega) (by simp [maxLen]) (by simp))
              have SL := Lib.hid (show Src (W.alloc (.cells #[] 70)) (.slice (some ⟨g, 0, none⟩) q c5) (ss.take q) from by
                have := src_of (cap := c5) (rows_take (HRW2.out.below ((Below.refl _ _).alloc (Nat.le_refl _) (.cells #[] 70))) q) (fun h => by cases h)
                rwa [HLT.out] at this)
              have P1 := Lib.hid (fun w1 (h : Below W.heap.size W w1) => cellBelow h hbW p0)
              have P2 := Lib.hid (fun w1 (h : Below W.heap.size W w1) => cellBelow h hbW p1)
              have P3 := Lib.hid (fun w1 (h : Below W.heap.size W w1) => cellBelow h hbW p2)
              have P4 := Lib.hid (fun w1 (h : Below W.heap.size W w1) => cellBelow h hbW p3)
              have BW := Lib.hid (BR.out.trans (BN.out.mono hs5))
              have hsW := BW.out.size
              clear p0 p1 p2 p3 c0 c1 c2 c3
              have SDF := Lib.hid (show ∀ w2 : World, Below W.heap.size W w2 → ∀ (a : Addr) (cc : Nat), (¬ c5 - q = 0 → a = ⟨g, 0 + q * 4, none⟩) → Src w2 (.slice (some a) (k - q) cc) (ss.drop q) from fun w2 h2 a cc ha => by
                by_cases hc : c5 - q = 0
                · have h1 : ss.drop q = [] := List.drop_of_length_le (by rw [HSL.out]; omega)
                  have h3 : k - q = 0 := by omega
                  rw [h1, h3]
                  exact .inr ⟨a, _, rfl, fun j x hx => by simp [flatOf] at hx⟩
                · obtain rfl := ha hc
                  have := src_of (w := w2) (cap := cc) (rows_drop (HRW2.out.below h2) q) (fun h => by cases h)
                  rwa [HLD.out] at this)
              have hck : ¬ c5 - q = 0 := by omega
              have hck2 : ¬ c5 = q := by omega
              go_wp2_with (at_builtin; first
                | (refine wpList_append_src _ rfl _ _ 23 rfl W.heap.size 70 i0 _ 48 Try.underlying23 Hi.out Hz0.out Hz1.out Hz2.out rfl _ (q + 1) (ss.take q ++ [x]) rfl O2.out _ (ss.drop q) rfl (SDF.out _ B2.out _ _ (by first | (intro hh; exact absurd (by assumption) hh) | (intro _; first | rfl | simp))) (by rw [HLD.out]; unfold maxLen; omega) (by rw [HLD.out]; omega) (by omega) ?_; intro v3 w3 ho3 hg3; obtain ⟨A3, k3, rfl⟩ := owns_formN ho3; have O3 := Lib.hid ho3; have B3 := Lib.hid (B2.out.grown hg3 (by omega) (fun i e => (O2.out.lt i e).1)); clear ho3 hg3)
                | (refine wpList_append_own _ rfl _ _ 23 rfl W.heap.size 70 i0 _ 4 48 Try.underlying23 Hi.out Hz0.out Hz1.out Hz2.out rfl (by decide) _ q (flatOf rowC (ss.take q)) rfl (O1.out.alloc _) ⟨w1.heap.size, 0, none⟩ 1 1 [.string x.k, .string x.t, .int .i64 x.f, .int .i64 x.e] rfl rfl (newsFour (by simp) (by simp) (by simp) (by simp)) (by simp [Value.oneCell']) (by unfold maxLen; omega) (by omega) (by simp; omega) ?_; intro v2 w2 ho2 hg2 hn2; obtain ⟨A2, k2, rfl⟩ := owns_formN ho2; have O2 := Lib.hid (show w2.ownsRow W.heap.size 70 4 (.slice A2 (q + 1) k2) (q + 1) (flatOf rowC (ss.take q ++ [x])) from by rw [flatOf_append, flatOf_one]; exact ho2); have B2 := Lib.hid ((B1.out.alloc (by omega) _).grown hg2 (by simp; omega) (fun i e => (O1.out.lt i e).1)); have l2 : W.heap.size ≤ w2.heap.size := B2.out.size; clear ho2 hg2 hn2)
                | (refine wpList_append_src _ rfl _ _ 23 rfl W.heap.size 70 i0 _ 48 Try.underlying23 Hi.out Hz0.out Hz1.out Hz2.out rfl (.slice (some ⟨W.heap.size, 0, none⟩) 0 0) 0 [] rfl OL.out _ (ss.take q) rfl SL.out (by rw [HLT.out]; unfold maxLen; omega) (by rw [HLT.out]; omega) (by simp) ?_; rw [HLT.out, List.nil_append, Nat.zero_add]; intro v1 w1 ho1 hg1; obtain ⟨A1, k1, rfl⟩ := owns_formN ho1; have O1 := Lib.hid ho1; have B1 := Lib.hid (((Below.refl W.heap.size W).alloc (Nat.le_refl _) _).grown hg1 (by simp) (fun i e => (OL.out.lt i e).1)); have l1 : W.heap.size ≤ w1.heap.size := B1.out.size; have q0' := P1.out w1 B1.out; have q1' := P2.out w1 B1.out; have q2' := P3.out w1 B1.out; have q3' := P4.out w1 B1.out; have hb1 : b < w1.heap.size := Nat.lt_of_lt_of_le hbW l1; clear ho1 hg1))
              go_roundw
              case rel =>
                have hlen : q + 1 + (ss.drop q).length = k + 1 := by rw [HLD.out]; omega
                have O4 := O3.out
                rw [List.append_assoc, ← insF_at' HP.out, ← HT.out] at O4
                obtain ⟨g3, c3, he3⟩ := owns_someF O4 (by omega)
                injection he3 with e1 e2 e3
                subst e1 e3
                rw [hlen] at O4
                have hdl : (ss.drop q).length = k - q := HLD.out
                have hsl2 := HSL.out
                have O5 := owns_baseE O4 hsW
                have hn1 : q + 1 + (ss.length - q) = k + 1 := by omega
                have hn2 : q + 1 + (k - q) = k + 1 := by omega
                try rw [hdl]
                try rw [hn1]
                try rw [hn2]
                refine ⟨k + 1, g3, k3, by omega, by go_num, rfl, O5, ?_⟩
                exact BW.out.trans (B3.out.mono hsW)
              case measure => simp [intOf]; omega
        · have HNo := Lib.hid (show ∀ y', ss[q]? = some y' → lessFK y' x = false from fun y' hy' => by rw [List.getElem?_eq_none (by rw [HSL.out]; omega)] at hy'; cases hy')
          have BI := Lib.hid hbi
          have hqn : ¬ (q : Int) < (k : Int) := by omega
          have hqd : decide ((q : Int) < (k : Int)) = false := decide_eq_false hqn
          clear hbi
          go_wp2_with fail
          go_quiet (fail)
          have BN := Lib.hid (show Below wo.heap.size wo (wr.drewN nq) from below_drewN BI.out _)
          have HP := Lib.hid (insF_at (show q ≤ ss.length by rw [HSL.out]; exact hq) Hall.out HNo.out)
          replace p0 : (wr.drewN nq).cell? ⟨b, off + k * 4, none⟩ = some (.string x.k) := p0
          replace p1 : (wr.drewN nq).cell? ⟨b, off + k * 4 + 1, none⟩ = some (.string x.t) := p1
          replace p2 : (wr.drewN nq).cell? ⟨b, off + k * 4 + 2, none⟩ = some (.int .i64 x.f) := p2
          replace p3 : (wr.drewN nq).cell? ⟨b, off + k * 4 + 3, none⟩ = some (.int .i64 x.e) := p3
          generalize wr.drewN nq = W at *
          clear Hall HNo
          have hbW : b < W.heap.size := by have := BN.out.size; omega
          have HRW2 := Lib.hid (HOut.out.below BN.out)
          have HLT := Lib.hid (show (ss.take q).length = q from by rw [List.length_take, HSL.out]; omega)
          have HLD := Lib.hid (show (ss.drop q).length = k - q from by rw [List.length_drop, HSL.out])
          have hcp := HCap.out
          have OL := Lib.hid (World.ownsRow_lit (base := W.heap.size) (e := 70) (size := 4) W #[] 0 (by omega) (by simp [maxLen]) (by simp))
          have SL := Lib.hid (show Src (W.alloc (.cells #[] 70)) (.slice (some ⟨g, 0, none⟩) q c5) (ss.take q) from by
            have := src_of (cap := c5) (rows_take (HRW2.out.below ((Below.refl _ _).alloc (Nat.le_refl _) (.cells #[] 70))) q) (fun h => by cases h)
            rwa [HLT.out] at this)
          have P1 := Lib.hid (fun w1 (h : Below W.heap.size W w1) => cellBelow h hbW p0)
          have P2 := Lib.hid (fun w1 (h : Below W.heap.size W w1) => cellBelow h hbW p1)
          have P3 := Lib.hid (fun w1 (h : Below W.heap.size W w1) => cellBelow h hbW p2)
          have P4 := Lib.hid (fun w1 (h : Below W.heap.size W w1) => cellBelow h hbW p3)
          have BW := Lib.hid (BR.out.trans (BN.out.mono hs5))
          have hsW := BW.out.size
          clear p0 p1 p2 p3 c0 c1 c2 c3
          have SDF := Lib.hid (show ∀ w2 : World, Below W.heap.size W w2 → ∀ (a : Addr) (cc : Nat), (¬ c5 - q = 0 → a = ⟨g, 0 + q * 4, none⟩) → Src w2 (.slice (some a) (k - q) cc) (ss.drop q) from fun w2 h2 a cc ha => by
            by_cases hc : c5 - q = 0
            · have h1 : ss.drop q = [] := List.drop_of_length_le (by rw [HSL.out]; omega)
              have h3 : k - q = 0 := by omega
              rw [h1, h3]
              exact .inr ⟨a, _, rfl, fun j x hx => by simp [flatOf] at hx⟩
            · obtain rfl := ha hc
              have := src_of (w := w2) (cap := cc) (rows_drop (HRW2.out.below h2) q) (fun h => by cases h)
              rwa [HLD.out] at this)
          by_cases hck : c5 - q = 0
          · go_wp2_with (at_builtin; first
              | (refine wpList_append_src _ rfl _ _ 23 rfl W.heap.size 70 i0 _ 48 Try.underlying23 Hi.out Hz0.out Hz1.out Hz2.out rfl _ (q + 1) (ss.take q ++ [x]) rfl O2.out _ (ss.drop q) rfl (SDF.out _ B2.out _ _ (by first | (intro hh; exact absurd (by assumption) hh) | (intro _; first | rfl | simp))) (by rw [HLD.out]; unfold maxLen; omega) (by rw [HLD.out]; omega) (by omega) ?_; intro v3 w3 ho3 hg3; obtain ⟨A3, k3, rfl⟩ := owns_formN ho3; have O3 := Lib.hid ho3; have B3 := Lib.hid (B2.out.grown hg3 (by omega) (fun i e => (O2.out.lt i e).1)); clear ho3 hg3)
              | (refine wpList_append_own _ rfl _ _ 23 rfl W.heap.size 70 i0 _ 4 48 Try.underlying23 Hi.out Hz0.out Hz1.out Hz2.out rfl (by decide) _ q (flatOf rowC (ss.take q)) rfl (O1.out.alloc _) ⟨w1.heap.size, 0, none⟩ 1 1 [.string x.k, .string x.t, .int .i64 x.f, .int .i64 x.e] rfl rfl (newsFour (by simp) (by simp) (by simp) (by simp)) (by simp [Value.oneCell']) (by unfold maxLen; omega) (by omega) (by simp; omega) ?_; intro v2 w2 ho2 hg2 hn2; obtain ⟨A2, k2, rfl⟩ := owns_formN ho2; have O2 := Lib.hid (show w2.ownsRow W.heap.size 70 4 (.slice A2 (q + 1) k2) (q + 1) (flatOf rowC (ss.take q ++ [x])) from by rw [flatOf_append, flatOf_one]; exact ho2); have B2 := Lib.hid ((B1.out.alloc (by omega) _).grown hg2 (by simp; omega) (fun i e => (O1.out.lt i e).1)); have l2 : W.heap.size ≤ w2.heap.size := B2.out.size; clear ho2 hg2 hn2)
              | (refine wpList_append_src _ rfl _ _ 23 rfl W.heap.size 70 i0 _ 48 Try.underlying23 Hi.out Hz0.out Hz1.out Hz2.out rfl (.slice (some ⟨W.heap.size, 0, none⟩) 0 0) 0 [] rfl OL.out _ (ss.take q) rfl SL.out (by rw [HLT.out]; unfold maxLen; omega) (by rw [HLT.out]; omega) (by simp) ?_; rw [HLT.out, List.nil_append, Nat.zero_add]; intro v1 w1 ho1 hg1; obtain ⟨A1, k1, rfl⟩ := owns_formN ho1; have O1 := Lib.hid ho1; have B1 := Lib.hid (((Below.refl W.heap.size W).alloc (Nat.le_refl _) _).grown hg1 (by simp) (fun i e => (OL.out.lt i e).1)); have l1 : W.heap.size ≤ w1.heap.size := B1.out.size; have q0' := P1.out w1 B1.out; have q1' := P2.out w1 B1.out; have q2' := P3.out w1 B1.out; have q3' := P4.out w1 B1.out; have hb1 : b < w1.heap.size := Nat.lt_of_lt_of_le hbW l1; clear ho1 hg1))
            go_roundw
            case rel =>
              have hlen : q + 1 + (ss.drop q).length = k + 1 := by rw [HLD.out]; omega
              have O4 := O3.out
              rw [List.append_assoc, ← insF_at' HP.out, ← HT.out] at O4
              obtain ⟨g3, c3, he3⟩ := owns_someF O4 (by omega)
              injection he3 with e1 e2 e3
              subst e1 e3
              rw [hlen] at O4
              have hdl : (ss.drop q).length = k - q := HLD.out
              have hsl2 := HSL.out
              have O5 := owns_baseE O4 hsW
              have hn1 : q + 1 + (ss.length - q) = k + 1 := by omega
              have hn2 : q + 1 + (k - q) = k + 1 := by omega
              try rw [hdl]
              try rw [hn1]
              try rw [hn2]
              refine ⟨k + 1, g3, k3, by omega, by go_num, rfl, O5, ?_⟩
              exact BW.out.trans (B3.out.mono hsW)
            case measure => simp [intOf]; omega
          · have hck2 : ¬ c5 = q := by omega
            go_wp2_with (at_builtin; first
              | (refine wpList_append_src _ rfl _ _ 23 rfl W.heap.size 70 i0 _ 48 Try.underlying23 Hi.out Hz0.out Hz1.out Hz2.out rfl _ (q + 1) (ss.take q ++ [x]) rfl O2.out _ (ss.drop q) rfl (SDF.out _ B2.out _ _ (by first | (intro hh; exact absurd (by assumption) hh) | (intro _; first | rfl | simp))) (by rw [HLD.out]; unfold maxLen; omega) (by rw [HLD.out]; omega) (by omega) ?_; intro v3 w3 ho3 hg3; obtain ⟨A3, k3, rfl⟩ := owns_formN ho3; have O3 := Lib.hid ho3; have B3 := Lib.hid (B2.out.grown hg3 (by omega) (fun i e => (O2.out.lt i e).1)); clear ho3 hg3)
              | (refine wpList_append_own _ rfl _ _ 23 rfl W.heap.size 70 i0 _ 4 48 Try.underlying23 Hi.out Hz0.out Hz1.out Hz2.out rfl (by decide) _ q (flatOf rowC (ss.take q)) rfl (O1.out.alloc _) ⟨w1.heap.size, 0, none⟩ 1 1 [.string x.k, .string x.t, .int .i64 x.f, .int .i64 x.e] rfl rfl (newsFour (by simp) (by simp) (by simp) (by simp)) (by simp [Value.oneCell']) (by unfold maxLen; omega) (by omega) (by simp; omega) ?_; intro v2 w2 ho2 hg2 hn2; obtain ⟨A2, k2, rfl⟩ := owns_formN ho2; have O2 := Lib.hid (show w2.ownsRow W.heap.size 70 4 (.slice A2 (q + 1) k2) (q + 1) (flatOf rowC (ss.take q ++ [x])) from by rw [flatOf_append, flatOf_one]; exact ho2); have B2 := Lib.hid ((B1.out.alloc (by omega) _).grown hg2 (by simp; omega) (fun i e => (O1.out.lt i e).1)); have l2 : W.heap.size ≤ w2.heap.size := B2.out.size; clear ho2 hg2 hn2)
              | (refine wpList_append_src _ rfl _ _ 23 rfl W.heap.size 70 i0 _ 48 Try.underlying23 Hi.out Hz0.out Hz1.out Hz2.out rfl (.slice (some ⟨W.heap.size, 0, none⟩) 0 0) 0 [] rfl OL.out _ (ss.take q) rfl SL.out (by rw [HLT.out]; unfold maxLen; omega) (by rw [HLT.out]; omega) (by simp) ?_; rw [HLT.out, List.nil_append, Nat.zero_add]; intro v1 w1 ho1 hg1; obtain ⟨A1, k1, rfl⟩ := owns_formN ho1; have O1 := Lib.hid ho1; have B1 := Lib.hid (((Below.refl W.heap.size W).alloc (Nat.le_refl _) _).grown hg1 (by simp) (fun i e => (OL.out.lt i e).1)); have l1 : W.heap.size ≤ w1.heap.size := B1.out.size; have q0' := P1.out w1 B1.out; have q1' := P2.out w1 B1.out; have q2' := P3.out w1 B1.out; have q3' := P4.out w1 B1.out; have hb1 : b < w1.heap.size := Nat.lt_of_lt_of_le hbW l1; clear ho1 hg1))
            go_roundw
            case rel =>
              have hlen : q + 1 + (ss.drop q).length = k + 1 := by rw [HLD.out]; omega
              have O4 := O3.out
              rw [List.append_assoc, ← insF_at' HP.out, ← HT.out] at O4
              obtain ⟨g3, c3, he3⟩ := owns_someF O4 (by omega)
              injection he3 with e1 e2 e3
              subst e1 e3
              rw [hlen] at O4
              have hdl : (ss.drop q).length = k - q := HLD.out
              have hsl2 := HSL.out
              have O5 := owns_baseE O4 hsW
              have hn1 : q + 1 + (ss.length - q) = k + 1 := by omega
              have hn2 : q + 1 + (k - q) = k + 1 := by omega
              try rw [hdl]
              try rw [hn1]
              try rw [hn2]
              refine ⟨k + 1, g3, k3, by omega, by go_num, rfl, O5, ?_⟩
              exact BW.out.trans (B3.out.mono hsW)
            case measure => simp [intOf]; omega
    · obtain rfl : k = t.length := by omega
      rw [List.take_length] at hown hsl
      go_wp2
      go_ret
      have O := hown
      rw [← hsl] at O ⊢
      exact ⟨some ⟨g, 0, none⟩, c5, rfl, by rw [hsl] at O ⊢; exact O, hbr⟩
end Go.Proofs.Ytphinkcfmdnpfaa
namespace Go.Proofs.Ytphinkcfmdnpfaa
open Go.Shelf Go.RowKit Go.Lib

theorem lastsL_step (ys : List NodV) (k : Nat) (x : NodV) (e : Int) (hx : ys[k]? = some x) : lastsL e (ys.take (k + 1)) = if x.o > lastsL e (ys.take k) then x.o else lastsL e (ys.take k) := by
  obtain ⟨hk, rfl⟩ := List.getElem?_eq_some_iff.1 hx
  unfold lastsL
  rw [List.take_succ_eq_append_getElem hk, List.foldl_append]
  rfl
theorem buildL_len : ∀ (n : Nat) (zs : List RowV), (buildL n zs).length ≤ zs.length
  | 0, _ => Nat.zero_le _
  | n + 1, zs => by
    cases hx : zs[zs.length / 2]? with
    | none =>
      have e2 : buildL (n + 1) zs = [] := by simp [buildL, hx]
      rw [e2]; exact Nat.zero_le _
    | some x =>
      have hlt := (List.getElem?_eq_some_iff.1 hx).1
      rw [buildL_some hx, List.length_cons, List.length_append]
      have h1 := buildL_len n (zs.take (zs.length / 2))
      have h2 := buildL_len n (zs.drop (zs.length / 2 + 1))
      rw [List.length_take] at h1
      rw [List.length_drop] at h2
      omega
/-- A node in a box of its own. -/
def NBox (w : World) (b : Nat) (z : NodV) : Prop := b < w.heap.size ∧ w.cell? ⟨b, 0, none⟩ = some (.string z.r.k) ∧ w.cell? ⟨b, 1, none⟩ = some (.string z.r.t) ∧ w.cell? ⟨b, 2, none⟩ = some (.int .i64 z.r.f) ∧ w.cell? ⟨b, 3, none⟩ = some (.int .i64 z.r.e) ∧ w.cell? ⟨b, 4, none⟩ = some (.int .i64 z.i) ∧ w.cell? ⟨b, 5, none⟩ = some (.int .i64 z.o) ∧ ∀ o, w.frozen? ⟨b, o, none⟩ = false

theorem set_farN {w : World} {b b' o o' : Nat} {v u : Value} (h : w.cell? ⟨b', o', none⟩ = some u) (hn : b ≠ b' ∨ o ≠ o') : (w.setCell ⟨b, o, none⟩ v).cell? ⟨b', o', none⟩ = some u := by
  rw [World.cell?_setCell_other w ⟨b, o, none⟩ ⟨b', o', none⟩ v (fun e => by injection e with e1 e2 _; exact hn.elim (fun h => h e1) (fun h => h e2))]
  exact h
theorem NBox.set {w : World} {b : Nat} {z : NodV} (h : NBox w b z) (v : Int) : NBox (w.setCell ⟨b, 5, none⟩ (.int .i64 v)) b ⟨z.r, z.i, v⟩ := by
  obtain ⟨h0, a0, a1, a2, a3, a4, a5, hf⟩ := h
  exact ⟨by simpa using h0, set_farN a0 (.inr (by simp)), set_farN a1 (.inr (by simp)), set_farN a2 (.inr (by simp)), set_farN a3 (.inr (by simp)), set_farN a4 (.inr (by simp)), World.cell?_setCell_same _ _ _ a5, frozen_set hf⟩

set_option maxRecDepth 100000 in
set_option maxHeartbeats 8000000 in
theorem l8Build_any (n : Nat) : ∀ (A : Option Addr) (cap : Nat) (zs : List RowV) (w : World), RowsA w A zs → zs.length ≤ n → zs.length ≤ cap → n ≤ 1000 →
    Calls Try.prog 85 #[.slice A zs.length cap] w (GetsE nodC 6 72 w (buildL n zs)) := by
  obtain ⟨i0, hi, hz0, hz1, hz2⟩ := info_parts Try.infoC72
  have Hi := Lib.hid hi
  have Hz0 := Lib.hid hz0
  have Hz1 := Lib.hid hz1
  have Hz2 := Lib.hid hz2
  clear hi hz0 hz1 hz2
  induction n with
  | zero =>
    intro A cap zs w hz hl hcap hn
    have e : zs = [] := List.length_eq_zero_iff.1 (by omega)
    subst e
    clear hz hl
    go_enter Try.func85, Try.ntmps85
    go_wp2
    go_ret
    exact getsE_nil _ _ _ (Below.refl _ _)
  | succ n ih =>
    intro A cap zs w hz hl hcap hn
    by_cases h0 : zs.length = 0
    · have e : zs = [] := List.length_eq_zero_iff.1 h0
      subst e
      clear hz hl h0 ih
      go_enter Try.func85, Try.ntmps85
      go_wp2
      go_ret
      rw [buildL_nil]
      exact getsE_nil _ _ _ (Below.refl _ _)
    · obtain ⟨hf, hh⟩ : ∃ hf, zs.length / 2 = hf := ⟨_, rfl⟩
      have hlt : hf < zs.length := by omega
      obtain ⟨b, off, x, rfl, hbb, hx, c0, c1, c2, c3⟩ := RowsA.at_ hz hlt
      have HG := Lib.hid (buildL_some (n := n) (zs := zs) (x := x) (by rw [hh]; exact hx))
      rw [hh] at HG
      have HI1 := Lib.hid (fun w' (hb : Below w.heap.size w w') => ih (some ⟨b, off, none⟩) cap (zs.take hf) w' (by have := rows_part (lo := 0) (n := hf) hz (by omega); simpa using this.below hb) (by rw [List.length_take]; omega) (by rw [List.length_take]; omega) (by omega))
      have HI2 := Lib.hid (fun w' (hb : Below w.heap.size w w') (a : Addr) (cc : Nat) (hcc : zs.length - (hf + 1) ≤ cc) (ha : ¬ cap = hf + 1 → a = ⟨b, off + (hf + 1) * 4, none⟩) => ih (some a) cc (zs.drop (hf + 1)) w' (by
        by_cases hce : cap = hf + 1
        · rw [List.drop_eq_nil_of_le (by omega)]; exact ElAt.nil _ _
        · rw [ha hce]
          have := rows_part (lo := hf + 1) (n := zs.length - (hf + 1)) hz (by omega)
          rw [List.take_of_length_le (by rw [List.length_drop]; omega)] at this
          exact this.below hb) (by rw [List.length_drop]; omega) (by rw [List.length_drop]; exact hcc) (by omega))
      rw [List.length_take, Nat.min_eq_left (by omega)] at HI1
      rw [List.length_drop] at HI2
      have hm1 := buildL_len n (zs.take hf)
      have hm2 := buildL_len n (zs.drop (hf + 1))
      rw [List.length_take] at hm1
      rw [List.length_drop] at hm2
      have hq : Int.tdiv (zs.length : Int) 2 = (hf : Int) := by rw [Int.tdiv_eq_ediv_of_nonneg (by omega)]; omega
      obtain ⟨h1, hh1⟩ : ∃ h1, hf + 1 = h1 := ⟨_, rfl⟩
      rw [hh1] at HI2 HG hm2
      have hw1 : IntKind.i64.wrap ((hf : Int) + 1) = (h1 : Int) := (IntWalk.i64_in _ (by omega)).trans (by omega)
      obtain ⟨len, hlen⟩ : ∃ len, zs.length = len := ⟨_, rfl⟩
      rw [hlen] at hl hcap h0 hlt hq HI2 hm1 hm2 ⊢
      generalize buildL n (zs.take hf) = ys at HI1 HG hm1
      generalize buildL n (zs.drop h1) = vs at HI2 HG hm2
      obtain ⟨Q, hQ⟩ : ∃ Q, buildL (n + 1) zs = Q := ⟨_, rfl⟩
      rw [hQ] at HG ⊢
      have z0 : ((len : Int) == 0) = false := by rw [beq_eq_false_iff_ne]; omega
      have a1 : (0 : Int) ≤ (hf : Int) := by omega
      have a2 : (hf : Int) ≤ (cap : Int) := by omega
      have a3 : (0 : Int) ≤ (h1 : Int) := by omega
      have a4 : (h1 : Int) ≤ (len : Int) := by omega
      have a5 : (len : Int) ≤ (cap : Int) := by omega
      have a6 : (hf : Int) < (len : Int) := by omega
      clear ih hz hx hh hh1 hlen h0 hQ
      go_enter Try.func85, Try.ntmps85
      go_wp2_with fail
      with_reducible refine (HI1.out _ (Below.refl _ _)).mono ?_
      rintro e w2 ⟨A2, c2', rfl, ho, hb⟩
      have O2 := Lib.hid ho
      have B2 := Lib.hid hb
      clear ho hb HI1
      go_wp2_with fail
      all_goals (
        with_reducible refine (HI2.out _ B2.out _ _ (by omega) (by intro hh; first | rfl | exact absurd rfl hh | exact absurd (by assumption) hh)).mono ?_
        rintro e w3 ⟨A3, c3', rfl, ho, hb⟩
        have O3 := Lib.hid (ownsBase (base' := w.heap.size) ho B2.out.size)
        have Y3 := Lib.hid (show NodsA w3 A2 ys from (el_of_owns nodC_len O2.out).below hb)
        have V3 := Lib.hid (show NodsA w3 A3 vs from el_of_owns nodC_len ho)
        have N2 := Lib.hid (owns_nilE O2.out)
        have N3 := Lib.hid (owns_nilE ho)
        have B3 := Lib.hid (B2.out.trans (hb.mono B2.out.size))
        replace c0 := cellBelow B3.out hbb c0
        replace c1 := cellBelow B3.out hbb c1
        replace c2 := cellBelow B3.out hbb c2
        replace c3 := cellBelow B3.out hbb c3
        have hb3 : b < w3.heap.size := Nat.lt_of_lt_of_le hbb B3.out.size
        clear ho hb HI2 O2 O3 B2 hw1 hq z0
        go_upto_region 6 with fail
        go_region
        generalize hW : World.drew _ = W0
        obtain ⟨nb, hnb⟩ : ∃ nb, w3.heap.size = nb := ⟨_, rfl⟩
        have HNB := Lib.hid hnb
        have X0 := Lib.hid (show NBox W0 nb ⟨x, ys.length, lastsL x.e (ys.take 0)⟩ from by
          rw [← hW, ← hnb]
          exact ⟨by simp, by simp [go_sem], by simp [go_sem], by simp [go_sem], by simp [go_sem], by simp [go_sem], by simp [go_sem, lastsL], by intro o; simp [go_sem]⟩)
        have K0 := Lib.hid (show Below w3.heap.size w3 W0 from by rw [← hW]; exact Below.drew ((Below.refl _ _).alloc (Nat.le_refl _) _))
        rw [hnb]
        clear hW hnb
        go_wp2
        go_loopw [7] (fun i wi => ∃ j : Nat, j ≤ ys.length ∧ i = .int .i64 j ∧ NBox wi nb ⟨x, ys.length, lastsL (x.e) (ys.take j)⟩ ∧ Below w3.heap.size w3 wi) (fun i _ => ys.length - (intOf i).toNat)
        case atStart => exact ⟨0, Nat.zero_le _, rfl, X0.out, K0.out⟩
        case round =>
          obtain ⟨j, hj, rfl, hbox, hbj⟩ := hrel
          by_cases hlj : j < ys.length
          · obtain ⟨b1, off1, y, rfl, hb1, hy, d0, d1, d2, d3, d4, d5⟩ := (Y3.out.below hbj).at_ hlj
            have HS := Lib.hid (lastsL_step ys j y (x.e) hy)
            obtain ⟨m, hm⟩ : ∃ m, lastsL (x.e) (ys.take j) = m := ⟨_, rfl⟩
            rw [hm] at hbox HS
            have HBX := Lib.hid hbox
            have BJ := Lib.hid hbj
            obtain ⟨hnl, -, -, -, -, -, n5, nf⟩ := hbox
            dsimp only at n5
            have hjz : (j : Int) < (ys.length : Int) := by omega
            have hjz0 : (0 : Int) ≤ (j : Int) := by omega
            clear d0 d1 d2 d3 d4 hy hbj hm
            by_cases hc : y.o > m
            · have n1 : decide (m < y.o) = true := decide_eq_true hc
              rw [if_pos hc] at HS
              clear hc
              go_wp2_with fail
              go_quiet (fail)
              have BN := Lib.hid (show Below w3.heap.size w3 (wr.drewN nq) from below_drewN BJ.out _)
              have HBN := Lib.hid (show NBox (wr.drewN nq) nb ⟨x, ys.length, m⟩ from HBX.out)
              replace d5 : (wr.drewN nq).cell? ⟨b1, off1 + j * 6 + 5, none⟩ = some (.int .i64 y.o) := d5
              replace n5 : (wr.drewN nq).cell? ⟨nb, 5, none⟩ = some (.int .i64 m) := n5
              replace nf : ∀ o, (wr.drewN nq).frozen? ⟨nb, o, none⟩ = false := nf
              generalize wr.drewN nq = W at *
              have HS2 := Lib.hid (HBN.out.set y.o)
              have BS := Lib.hid (BN.out.setCell (p := ⟨nb, 5, none⟩) (by rw [HNB.out]; exact Nat.le_refl _) (.int .i64 y.o))
              clear n1
              go_wp2
              go_roundw
              case rel => exact ⟨j + 1, by omega, by go_num, by rw [HS.out]; exact HS2.out, BS.out⟩
              case measure => simp [intOf]; omega
            · have n1 : decide (m < y.o) = false := decide_eq_false hc
              rw [if_neg hc] at HS
              clear hc
              go_wp2_with fail
              go_quiet (fail)
              have BN := Lib.hid (show Below w3.heap.size w3 (wr.drewN nq) from below_drewN BJ.out _)
              have HBN := Lib.hid (show NBox (wr.drewN nq) nb ⟨x, ys.length, m⟩ from HBX.out)
              go_wp2
              go_roundw
              case rel => exact ⟨j + 1, by omega, by go_num, by rw [HS.out]; exact HBN.out, BN.out⟩
              case measure => simp [intOf]; omega
          · obtain rfl : j = ys.length := by omega
            rw [List.take_length] at hbox
            have X1 := Lib.hid (show NBox wr nb ⟨x, ys.length, lastsL (lastsL x.e ys) (vs.take 0)⟩ from hbox)
            have K1 := Lib.hid hbj
            clear hbox hbj
            go_wp2
            go_loopw [8] (fun i wi => ∃ j : Nat, j ≤ vs.length ∧ i = .int .i64 j ∧ NBox wi nb ⟨x, ys.length, lastsL (lastsL x.e ys) (vs.take j)⟩ ∧ Below w3.heap.size w3 wi) (fun i _ => vs.length - (intOf i).toNat)
            case atStart => exact ⟨0, Nat.zero_le _, rfl, X1.out, K1.out⟩
            case round =>
              obtain ⟨j, hj, rfl, hbox, hbj⟩ := hrel
              by_cases hlj : j < vs.length
              · first
                | exact absurd hlj (by omega)
                | (skip
                   obtain ⟨b1, off1, y, rfl, hb1, hy, d0, d1, d2, d3, d4, d5⟩ := (V3.out.below hbj).at_ hlj
                   have HS := Lib.hid (lastsL_step vs j y (lastsL x.e ys) hy)
                   obtain ⟨m, hm⟩ : ∃ m, lastsL (lastsL x.e ys) (vs.take j) = m := ⟨_, rfl⟩
                   rw [hm] at hbox HS
                   have HBX := Lib.hid hbox
                   have BJ := Lib.hid hbj
                   obtain ⟨hnl, -, -, -, -, -, n5, nf⟩ := hbox
                   dsimp only at n5
                   have hjz : (j : Int) < (vs.length : Int) := by omega
                   have hjz0 : (0 : Int) ≤ (j : Int) := by omega
                   clear d0 d1 d2 d3 d4 hy hbj hm
                   by_cases hc : y.o > m
                   · have n1 : decide (m < y.o) = true := decide_eq_true hc
                     rw [if_pos hc] at HS
                     clear hc
                     go_wp2_with fail
                     go_quiet (fail)
                     have BN := Lib.hid (show Below w3.heap.size w3 (wr.drewN nq) from below_drewN BJ.out _)
                     have HBN := Lib.hid (show NBox (wr.drewN nq) nb ⟨x, ys.length, m⟩ from HBX.out)
                     replace d5 : (wr.drewN nq).cell? ⟨b1, off1 + j * 6 + 5, none⟩ = some (.int .i64 y.o) := d5
                     replace n5 : (wr.drewN nq).cell? ⟨nb, 5, none⟩ = some (.int .i64 m) := n5
                     replace nf : ∀ o, (wr.drewN nq).frozen? ⟨nb, o, none⟩ = false := nf
                     generalize wr.drewN nq = W at *
                     have HS2 := Lib.hid (HBN.out.set y.o)
                     have BS := Lib.hid (BN.out.setCell (p := ⟨nb, 5, none⟩) (by rw [HNB.out]; exact Nat.le_refl _) (.int .i64 y.o))
                     clear n1
                     go_wp2
                     go_roundw
                     case rel => exact ⟨j + 1, by omega, by go_num, by rw [HS.out]; exact HS2.out, BS.out⟩
                     case measure => simp [intOf]; omega
                   · have n1 : decide (m < y.o) = false := decide_eq_false hc
                     rw [if_neg hc] at HS
                     clear hc
                     go_wp2_with fail
                     go_quiet (fail)
                     have BN := Lib.hid (show Below w3.heap.size w3 (wr.drewN nq) from below_drewN BJ.out _)
                     have HBN := Lib.hid (show NBox (wr.drewN nq) nb ⟨x, ys.length, m⟩ from HBX.out)
                     go_wp2
                     go_roundw
                     case rel => exact ⟨j + 1, by omega, by go_num, by rw [HS.out]; exact HBN.out, BN.out⟩
                     case measure => simp [intOf]; omega)
              · obtain rfl : j = vs.length := by omega
                rw [List.take_length] at hbox
                have HBX := Lib.hid hbox
                have BJ := Lib.hid hbj
                obtain ⟨hnl, a0, a1', a2', a3', a4', a5', nf⟩ := hbox
                dsimp only at a0 a1' a2' a3' a4' a5'
                clear X0 K0 X1 K1 hbj nf
                obtain ⟨m, hm⟩ : ∃ m, lastsL (lastsL x.e ys) vs = m := ⟨_, rfl⟩
                rw [hm] at a5' HG
                clear hm
                have Y4 := Lib.hid (Y3.out.below BJ.out)
                have V4 := Lib.hid (V3.out.below BJ.out)
                have BW := Lib.hid (B3.out.trans (BJ.out.mono B3.out.size))
                have hsz := BW.out.size
                have hyn : ys.length ≤ 1000 := by omega
                have hvn : vs.length ≤ 1000 := by omega
                clear Y3 V3 BJ HBX c0 c1 c2 c3 hb3 a1 a2 a3 a4 a5 a6 hm1 hm2
                obtain ⟨W, rfl⟩ : ∃ W, W = wr := ⟨_, rfl⟩
                have hal := (Below.refl W.heap.size W).alloc (Nat.le_refl _) (.cells #[.string x.k, .string x.t, .int .i64 x.f, .int .i64 x.e, .int .i64 ys.length, .int .i64 m] 72)
                obtain ⟨nd, hnd⟩ : ∃ nd : NodV, (⟨x, ys.length, m⟩ : NodV) = nd := ⟨_, rfl⟩
                rw [hnd] at HG
                have OL := Lib.hid (show (W.alloc (.cells #[.string x.k, .string x.t, .int .i64 x.f, .int .i64 x.e, .int .i64 ys.length, .int .i64 m] 72)).ownsRow W.heap.size 72 6 (.slice (some ⟨W.heap.size, 0, none⟩) 1 1) 1 (flatOf nodC [nd]) from by
                  rw [← hnd]
                  have h := World.ownsRow_lit (base := W.heap.size) (e := 72) (size := 6) W #[.string x.k, .string x.t, .int .i64 x.f, .int .i64 x.e, .int .i64 ys.length, .int .i64 m] 1 (by simp) (by simp [maxLen]) (by simp)
                  simpa [flatOf, nodC] using h)
                clear hnd
                have SY := Lib.hid (srcE_of nodC_len (by omega) (Y4.out.below hal) N2.out)
                have SV := Lib.hid (fun w2 (h : Below W.heap.size W w2) => srcE_of nodC_len (by omega) (V4.out.below h) N3.out)
                have BA := Lib.hid hal
                clear hal
                go_wp2_with (at_builtin; first
                  | (refine wpList_append_srcE nodC_len nodC_one (by omega) _ rfl _ _ 50 rfl W.heap.size 72 i0 _ 64 Try.underlying50 Hi.out Hz0.out Hz1.out Hz2.out rfl _ (1 + ys.length) ([nd] ++ ys) rfl O1.out _ vs rfl (SV.out _ B1.out) (by unfold maxLen; omega) (by omega) (by omega) ?_; intro v2 w2 ho2 hg2; obtain ⟨A9, k9, rfl⟩ := owns_formN ho2; have O9 := Lib.hid ho2; have B9 := Lib.hid (B1.out.grown hg2 (by omega) (fun i e => (O1.out.lt i e).1)); clear ho2 hg2)
                  | (refine wpList_append_srcE nodC_len nodC_one (by omega) _ rfl _ _ 50 rfl W.heap.size 72 i0 _ 64 Try.underlying50 Hi.out Hz0.out Hz1.out Hz2.out rfl _ 1 [nd] rfl OL.out _ ys rfl SY.out (by unfold maxLen; omega) (by omega) (by simp) ?_; intro v1 w1 ho1 hg1; obtain ⟨A8, k8, rfl⟩ := owns_formN ho1; have O1 := Lib.hid ho1; have B1 := Lib.hid (BA.out.grown hg1 (by simp) (fun i e => (OL.out.lt i e).1)); have l1 : W.heap.size ≤ w1.heap.size := B1.out.size; clear ho1 hg1))
                go_ret
                rw [HG.out]
                have hlen : (nd :: (ys ++ vs)).length = 1 + ys.length + vs.length := by rw [List.length_cons, List.length_append]; omega
                refine ⟨A9, k9, by rw [hlen]; rfl, ?_, BW.out.trans (B9.out.mono hsz)⟩
                rw [hlen]
                have O := owns_baseE O9.out hsz
                rw [List.append_assoc] at O
                exact O)

set_option maxRecDepth 100000 in
set_option maxHeartbeats 2000000 in
theorem sIndexOf_any (A : Option Addr) (ca : Nat) (t : List RowV) (w : World) (hx : RowsA w A t) (hl : t.length ≤ 1048577) (hs : Short t) :
    Calls Try.prog 31 #[.slice A t.length ca] w (GetsE nodC 6 72 w (indexL t)) := by
  have HX := Lib.hid hx
  have HS := Lib.hid hs
  obtain ⟨o, ho⟩ : ∃ o, relOk t = o := ⟨_, rfl⟩
  have HO := Lib.hid ho
  clear hx hs ho
  go_enter Try.func31, Try.ntmps31
  go_wp2_with fail
  refine (l2Ok_any A ca t _ HX.out hl HS.out).mono ?_
  rw [HO.out]
  rintro e w2 ⟨rfl, hb⟩
  have B2 := Lib.hid hb
  clear hb
  cases o
  · have HI := Lib.hid (show indexL t = [] from if_neg (by rw [HO.out]; simp))
    go_wp2
    go_ret
    rw [HI.out]
    exact getsE_nil _ _ _ B2.out
  · have HI := Lib.hid (show indexL t = buildL 24 (sortF t) from if_pos HO.out)
    have hl24 := ((relOk_iff t).1 HO.out).1
    have hsl := sortF_len t
    go_wp2_with fail
    refine (l8Sort_any A ca t _ (HX.out.below B2.out) hl).mono ?_
    obtain ⟨st, hst⟩ : ∃ st, sortF t = st := ⟨_, rfl⟩
    rw [hst] at HI hsl ⊢
    rintro e w3 ⟨A3, c3, rfl, ho, hb⟩
    have R3 := Lib.hid (show RowsA w3 A3 st from el_of_owns rowC_len ho)
    have hc3 := owns_cap ho
    have B3 := Lib.hid (B2.out.trans (hb.mono B2.out.size))
    have HBD := Lib.hid (l8Build_any 24 A3 c3 st w3 R3.out (by omega) hc3 (by omega))
    rw [← HI.out] at HBD
    clear ho hb hst hc3 hsl
    go_wp2_with fail
    refine HBD.out.mono ?_
    rintro e w4 ⟨A4, c4, rfl, ho, hb⟩
    have O4 := Lib.hid (ownsBase (base' := w.heap.size) ho B3.out.size)
    have B4 := Lib.hid (B3.out.trans (hb.mono B3.out.size))
    clear ho hb
    go_wp2
    go_ret
    exact ⟨A4, c4, rfl, O4.out, B4.out⟩
end Go.Proofs.Ytphinkcfmdnpfaa
