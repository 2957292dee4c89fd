/-
  Walks: two rows in order that lie side by side, merged in place: the middle.
-/
import Derived.Test.YtphinkcfmdnpfaaSymW
namespace Go.Proofs.Ytphinkcfmdnpfaa
open Go.Shelf Go.RowKit Go.Lib Go.Sort
variable {P : Program} {α : Type} [Inhabited α] {k : Nat}

def MainPost (enc : α → List Value) (k : Nat) (w0 : World) (blk off : Nat) (cf : α → α → Int) (a b : Nat) (d : Array α) (w' : World) : Prop := ∃ d', PermIn a b d d' ∧ SortedIn (ltOf cf) a b d' ∧ SWK enc k w0 blk off d' w'

set_option maxHeartbeats 8000000 in
set_option maxRecDepth 1000000 in
theorem sym_right (L : SortP P k) (enc : α → List Value) (cf : α → α → Int) (hO : SWO (ltOf cf)) (g : Nat) (cb : Array Value) (blk off cap a m b : Nat) (d0 d : Array α) (w0 w : World) (eg : ∀ args w, (callFunc g args).run P w = .ok (.enter g args) w) (hcmp : CmpLays P g cb enc k cf blk off d0.size w0)
    (R : RowK enc k w0 blk off d0) (hs : d0.size = d.size) (S : SWK enc k w0 blk off d w) (ham : a + 2 ≤ m) (hmb : m + 2 ≤ b) (hb : b ≤ d.size) (hsz : d.size < 4611686018427387904) (h1 : SortedIn (ltOf cf) a m d) (h2 : SortedIn (ltOf cf) m b d) (hmid : (a + b) / 2 < m)
    (ih : ∀ (a' m' b' : Nat) (d' : Array α) (w' : World), b' - a' < b - a → d'.size = d0.size → SWK enc k w0 blk off d' w' → a' < m' → m' < b' → b' ≤ d'.size → SortedIn (ltOf cf) a' m' d' → SortedIn (ltOf cf) m' b' d' →
      Calls P 168 #[.slice (some ⟨blk, off, none⟩) d.size cap, .int .i64 a', .int .i64 m', .int .i64 b', .func (.func g) #[] cb] w' fun e w'' => e = .returned (.tuple #[]) ∧ ∃ d'', PermIn a' b' d' d'' ∧ SortedIn (ltOf cf) a' b' d'' ∧ SWK enc k w0 blk off d'' w'') :
    Calls P 168 #[.slice (some ⟨blk, off, none⟩) d.size cap, .int .i64 a, .int .i64 m, .int .i64 b, .func (.func g) #[] cb] w fun e w' => e = .returned (.tuple #[]) ∧ MainPost enc k w0 blk off cf a b d w' := by
  have mixed := L.mixed; have t0 := L.t0.trans Try.underlying0; have a0 := L.a0; have z0 := L.z0; have v0 := L.v0; have t3 := L.t3.trans Try.underlying3; have a3 := L.a3; have z3 := L.z3; have v3 := L.v3; have t4 := L.t4.trans Try.underlying4; have a4 := L.a4; have z4 := L.z4; have v4 := L.v4; have t22 := L.t22.trans Try.underlying23; have a22 := L.a22; have z22 := L.z22; have v22 := L.v22; have t25 := L.t25.trans Try.underlying129; have a25 := L.a25; have z25 := L.z25; have v25 := L.v25; have t9 := L.t9.trans Try.underlying191; have a9 := L.a9; have z9 := L.z9; have v9 := L.v9; have aE := L.aE; have zE := L.zE
  have u0 := run_underlying t0; have u3 := run_underlying t3; have u4 := run_underlying t4; have u22 := run_underlying t22; have u25 := run_underlying t25; have u9 := run_underlying t9
  have FG := L.symMerge.trans Try.func168
  have HC : Aside _ := hcmp
  have S0 : Aside (SWK enc k w0 blk off d w) := S
  clear S hcmp
  have eR : ∀ args w, (callFunc 181 args).run P w = .ok (.enter 181 args) w := enters_of (L.rotate.trans Try.func181) (by kernel_rfl) rfl
  have eM : ∀ args w, (callFunc 168 args).run P w = .ok (.enter 168 args) w := enters_of FG (by kernel_rfl) rfl
  have hm0 : ((m : Int) - (a : Int) == 1) = false := by simp; omega
  have hm1 : ((b : Int) - (m : Int) == 1) = false := by simp; omega
  have hmz : ((a : Int) + (b : Int)) / 2 < (m : Int) := by omega
  have H1 : Aside (SortedIn (ltOf cf) a m d) := h1
  have H2 : Aside (SortedIn (ltOf cf) m b d) := h2
  obtain ⟨l1, l2, l3, l4, l5⟩ := lohi ham hmb
  have hlo : loOf a m b = (a + b) / 2 + m - b := by rcases lohi_or a m b with ⟨x1, x2, x3⟩ | ⟨x1, x2, x3⟩ <;> omega
  have hhi : hiOf a m b = (a + b) / 2 := by rcases lohi_or a m b with ⟨x1, x2, x3⟩ | ⟨x1, x2, x3⟩ <;> omega
  rw [hlo] at l1 l2 l5
  rw [hhi] at l2 l3 l4
  have HLH := Lib.hid (And.intro hlo hhi)
  have MO : Aside (∀ c c', loOf a m b ≤ c → c ≤ c' → c' < hiOf a m b → (!ltOf cf d[(a + b) / 2 + m - 1 - c']! d[c']!) = true → (!ltOf cf d[(a + b) / 2 + m - 1 - c]! d[c]!) = true) := fun c c' h3 h4 h5 => mid_mono hO h1 h2 (by omega) (by omega) (by omega) (by omega) c c' h3 h4 h5
  clear h1 h2 hlo hhi
  go_enter FG, Try.ntmps168
  go_wp2
  go_loopg [20, 21] (b - a) (fun kx s20 s21 wr => ∃ (s r : Nat), s20 = .int .i64 s ∧ s21 = .int .i64 r ∧ r - s ≤ kx ∧ (a + b) / 2 + m - b ≤ s ∧ s ≤ r ∧ r ≤ (a + b) / 2 ∧ Aside (Halves (fun c => !ltOf cf d[(a + b) / 2 + m - 1 - c]! d[c]!) (loOf a m b) (hiOf a m b) s r) ∧ Aside (SWK enc k w0 blk off d wr))
  case atStart => exact ⟨(a + b) / 2 + m - b, (a + b) / 2, by first | rfl | (congr 1; omega), by first | rfl | (congr 1; omega), by omega, Nat.le_refl _, l2, Nat.le_refl _, by have := HLH.out; rw [this.1, this.2]; exact Halves.start _ l2, S0⟩
  case round =>
    clear S0
    obtain ⟨s, r, rfl, rfl, hkx, hls, hsr, hrh, HH, S1⟩ := hrel
    by_cases hlt : s < r
    · have hltz : (s : Int) < (r : Int) := by omega
      obtain ⟨q, hq⟩ : ∃ q, (a + b) / 2 + m - 1 - (s + r) / 2 = q := ⟨_, rfl⟩
      have hqz : ((a : Int) + (b : Int)) / 2 + (m : Int) - 1 - ((s : Int) + (r : Int)) / 2 = (q : Int) := by omega
      have HQ := Lib.hid hq
      clear hq
      cases hlv : ltOf cf d[q]! d[(s + r) / 2]! with
      | false =>
        have HL : Aside ((!ltOf cf d[(a + b) / 2 + m - 1 - (s + r) / 2]! d[(s + r) / 2]!) = true) := by show _ = _; rw [HQ.out, hlv]; rfl
        have ea1 : ((q : Int)).toNat = q := by omega
        have pa1 : (0 : Int) ≤ (q : Int) := by omega
        have ba1 : (q : Int) < (d.size : Int) := by omega
        have ra1 : IntKind.i64.wrap ((q : Int)) = (q : Int) := by rw [IntKind.wrap_i64]; omega
        have ec1 : (((s : Int) + (r : Int)) / 2).toNat = (s + r) / 2 := by omega
        have pc1 : (0 : Int) ≤ ((s : Int) + (r : Int)) / 2 := by omega
        have bc1 : ((s : Int) + (r : Int)) / 2 < (d.size : Int) := by omega
        have rc1 : IntKind.i64.wrap (((s : Int) + (r : Int)) / 2) = ((s : Int) + (r : Int)) / 2 := by rw [IntKind.wrap_i64]; omega
        obtain ⟨x1, hx1⟩ : ∃ x, x = d[q]! := ⟨_, rfl⟩
        obtain ⟨y1, hy1⟩ : ∃ x, x = d[(s + r) / 2]! := ⟨_, rfl⟩
        have l1a := S1.out.ld R (by omega) P (q) (by omega)
        have l1b := S1.out.ld R (by omega) P ((s + r) / 2) (by omega)
        rw [← hx1] at l1a
        rw [← hy1] at l1b
        have hc1 := S1.out.cmp HC.out (by omega) x1 y1
        have hv1 : ¬ cf x1 y1 < 0 := by rw [hx1, hy1]; exact of_decide_eq_false hlv
        have hd1 : decide (cf x1 y1 < 0) = false := decide_eq_false hv1
        clear hx1 hy1
        go_wp2_with fail
        go_quiet_grown (first | (go_at_fn g; refine Calls.grown_of (hc1 _ _)))
        have S2 : Aside (SWK enc k w0 blk off d (grow (wr.drewN nq) osq)) := S1.out.grown nq osq
        clear l1a l1b hc1 S1
        generalize grow (wr.drewN nq) osq = w2 at S2 ⊢
        clear nq osq
        go_wp2
        go_roundg (r - ((s + r) / 2 + 1))
        case measure => omega
        case rel => exact ⟨(s + r) / 2 + 1, r, by first | rfl | (congr 1; omega), rfl, Nat.le_refl _, by omega, by omega, hrh, HH.out.up MO.out (by omega) (by omega) HL.out, S2⟩
      | true =>
        have HL : Aside ((!ltOf cf d[(a + b) / 2 + m - 1 - (s + r) / 2]! d[(s + r) / 2]!) = false) := by show _ = _; rw [HQ.out, hlv]; rfl
        have ea2 : ((q : Int)).toNat = q := by omega
        have pa2 : (0 : Int) ≤ (q : Int) := by omega
        have ba2 : (q : Int) < (d.size : Int) := by omega
        have ra2 : IntKind.i64.wrap ((q : Int)) = (q : Int) := by rw [IntKind.wrap_i64]; omega
        have ec2 : (((s : Int) + (r : Int)) / 2).toNat = (s + r) / 2 := by omega
        have pc2 : (0 : Int) ≤ ((s : Int) + (r : Int)) / 2 := by omega
        have bc2 : ((s : Int) + (r : Int)) / 2 < (d.size : Int) := by omega
        have rc2 : IntKind.i64.wrap (((s : Int) + (r : Int)) / 2) = ((s : Int) + (r : Int)) / 2 := by rw [IntKind.wrap_i64]; omega
        obtain ⟨x2, hx2⟩ : ∃ x, x = d[q]! := ⟨_, rfl⟩
        obtain ⟨y2, hy2⟩ : ∃ x, x = d[(s + r) / 2]! := ⟨_, rfl⟩
        have l2a := S1.out.ld R (by omega) P (q) (by omega)
        have l2b := S1.out.ld R (by omega) P ((s + r) / 2) (by omega)
        rw [← hx2] at l2a
        rw [← hy2] at l2b
        have hc2 := S1.out.cmp HC.out (by omega) x2 y2
        have hv2 : cf x2 y2 < 0 := by rw [hx2, hy2]; exact of_decide_eq_true hlv
        have hd2 : decide (cf x2 y2 < 0) = true := decide_eq_true hv2
        clear hx2 hy2
        go_wp2_with fail
        go_quiet_grown (first | (go_at_fn g; refine Calls.grown_of (hc2 _ _)))
        have S2 : Aside (SWK enc k w0 blk off d (grow (wr.drewN nq) osq)) := S1.out.grown nq osq
        clear l2a l2b hc2 S1
        generalize grow (wr.drewN nq) osq = w2 at S2 ⊢
        clear nq osq
        go_wp2
        go_roundg ((s + r) / 2 - s)
        case measure => omega
        case rel => exact ⟨s, (s + r) / 2, rfl, by first | rfl | (congr 1; omega), Nat.le_refl _, hls, by omega, by omega, HH.out.down MO.out (by omega) (by omega) HL.out, S2⟩
    · obtain rfl : s = r := by omega
      have hltz : ¬ (s : Int) < (s : Int) := by omega
      by_cases r1 : s < m
      · have r1z : (s : Int) < (m : Int) := by omega
        by_cases r2 : m < ((a + b) / 2 + m - s)
        · have r2z : (m : Int) < (((a : Int) + (b : Int)) / 2 + (m : Int) - (s : Int)) := by omega
          have hc := rotate_w L enc g cb blk off cap s m ((a + b) / 2 + m - s) d0 d w0 wr R hs S1.out r1 r2 (by omega) hsz
          rw [show ((((a + b) / 2 + m - s) : Nat) : Int) = (((a : Int) + (b : Int)) / 2 + (m : Int) - (s : Int)) by omega] at hc
          go_wp2_with fail
          go_at_fn 181
          refine hc.mono ?_
          rintro e w7 ⟨rfl, d1, hT, hw7⟩
          have S7 : Aside _ := hw7
          have PT := Lib.hid (parts_of hO H1.out H2.out ham hmb HH.out hT.2)
          have HZ1 := Lib.hid (show d1.size = d0.size from hT.1.1.trans hs.symm)
          have HP0 := Lib.hid (permIn_mono d d1 s ((a + b) / 2 + m - s) a b (by omega) (by omega) hb hT.1)
          clear hw7 hT hc S1
          have FIN : Aside (∀ (d2 d3 : Array α) (w' : World), PermIn a ((a + b) / 2) d1 d2 → SortedIn (ltOf cf) a ((a + b) / 2) d2 → PermIn ((a + b) / 2) b d2 d3 → SortedIn (ltOf cf) ((a + b) / 2) b d3 → SWK enc k w0 blk off d3 w' → MainPost enc k w0 blk off cf a b d w') := fun d2 d3 w' h3 h4 h5 h6 h7 => by
            obtain ⟨q1, q2⟩ := halves_sorted (lt := ltOf cf) (by omega) (by omega) (by have := HZ1.out; omega) PT.out.apart h3 h4 h5 h6
            exact ⟨d3, permIn_trans _ _ _ _ _ HP0.out q2, q1, h7⟩
          by_cases g1 : a < s
          · have g1z : (a : Int) < (s : Int) := by omega
            by_cases g2 : s < (a + b) / 2
            · have g2z : (s : Int) < ((a : Int) + (b : Int)) / 2 := by omega
              have hc := ih a s ((a + b) / 2) d1 w7 (by omega) HZ1.out S7.out g1 g2 (by have := HZ1.out; omega) PT.out.p1 PT.out.p2
              rw [show (((a + b) / 2 : Nat) : Int) = ((a : Int) + (b : Int)) / 2 by omega] at hc
              go_wp2_with fail
              go_at_fn 168
              refine hc.mono ?_
              rintro e w8 ⟨rfl, d2, hp1, hs1, hw8⟩
              have S8 : Aside _ := hw8
              have HP1 := Lib.hid hp1
              have HS1 := Lib.hid hs1
              have HZ2 := Lib.hid (hp1.1.trans HZ1.out)
              clear hw8 hp1 hs1 hc
              by_cases f1 : (a + b) / 2 < ((a + b) / 2 + m - s)
              · have f1z : ((a : Int) + (b : Int)) / 2 < (((a : Int) + (b : Int)) / 2 + (m : Int) - (s : Int)) := by omega
                by_cases f2 : ((a + b) / 2 + m - s) < b
                · have f2z : (((a : Int) + (b : Int)) / 2 + (m : Int) - (s : Int)) < (b : Int) := by omega
                  have hc := ih ((a + b) / 2) ((a + b) / 2 + m - s) b d2 w8 (by omega) HZ2.out S8.out f1 f2 (by have := HZ2.out; omega) (sorted_same PT.out.p3 fun x h3 h4 => HP1.out.2.1 x (Or.inr h3)) (sorted_same PT.out.p4 fun x h3 h4 => HP1.out.2.1 x (Or.inr (by omega)))
                  rw [show (((a + b) / 2 : Nat) : Int) = ((a : Int) + (b : Int)) / 2 by omega, show ((((a + b) / 2 + m - s) : Nat) : Int) = (((a : Int) + (b : Int)) / 2 + (m : Int) - (s : Int)) by omega] at hc
                  go_wp2_with (go_at_fn 168; refine hc.mono ?_; rintro e w9 ⟨rfl, d3, hp3, hs3, hw9⟩; have S9 : Aside _ := hw9; have HP3 := Lib.hid hp3; have HS3 := Lib.hid hs3; clear hw9 hp3 hs3)
                  all_goals (first | go_end0 | go_ret | ((try simp only [Exit.inBlock, Exit.then]); refine bodyPost_ret (results_none rfl _ _ _) rfl ?_))
                  all_goals exact ⟨rfl, FIN.out d2 d3 _ HP1.out HS1.out HP3.out HS3.out S9.out⟩
                · have f2z : ¬ (((a : Int) + (b : Int)) / 2 + (m : Int) - (s : Int)) < (b : Int) := by omega
                  have HS3 := Lib.hid (sorted_one (lt := ltOf cf) (a := (a + b) / 2) (m := ((a + b) / 2 + m - s)) (b := b) (d := d2) (sorted_same PT.out.p3 fun x h3 h4 => HP1.out.2.1 x (Or.inr h3)) (sorted_same PT.out.p4 fun x h3 h4 => HP1.out.2.1 x (Or.inr (by omega))) (by omega) (by omega) (by omega))
                  go_wp2
                  all_goals (first | go_end0 | go_ret | ((try simp only [Exit.inBlock, Exit.then]); refine bodyPost_ret (results_none rfl _ _ _) rfl ?_))
                  all_goals exact ⟨rfl, FIN.out d2 d2 _ HP1.out HS1.out (permIn_refl _ _ _) HS3.out S8.out⟩
              · have f1z : ¬ ((a : Int) + (b : Int)) / 2 < (((a : Int) + (b : Int)) / 2 + (m : Int) - (s : Int)) := by omega
                have HS3 := Lib.hid (sorted_one (lt := ltOf cf) (a := (a + b) / 2) (m := ((a + b) / 2 + m - s)) (b := b) (d := d2) (sorted_same PT.out.p3 fun x h3 h4 => HP1.out.2.1 x (Or.inr h3)) (sorted_same PT.out.p4 fun x h3 h4 => HP1.out.2.1 x (Or.inr (by omega))) (by omega) (by omega) (by omega))
                go_wp2
                all_goals (first | go_end0 | go_ret | ((try simp only [Exit.inBlock, Exit.then]); refine bodyPost_ret (results_none rfl _ _ _) rfl ?_))
                all_goals exact ⟨rfl, FIN.out d2 d2 _ HP1.out HS1.out (permIn_refl _ _ _) HS3.out S8.out⟩
            · have g2z : ¬ (s : Int) < ((a : Int) + (b : Int)) / 2 := by omega
              have HP1 := Lib.hid (permIn_refl d1 a ((a + b) / 2))
              have HS1 := Lib.hid (sorted_one (lt := ltOf cf) PT.out.p1 PT.out.p2 (by omega) (by omega) (by omega))
              have HZ2 := Lib.hid HZ1.out
              by_cases f1 : (a + b) / 2 < ((a + b) / 2 + m - s)
              · have f1z : ((a : Int) + (b : Int)) / 2 < (((a : Int) + (b : Int)) / 2 + (m : Int) - (s : Int)) := by omega
                by_cases f2 : ((a + b) / 2 + m - s) < b
                · have f2z : (((a : Int) + (b : Int)) / 2 + (m : Int) - (s : Int)) < (b : Int) := by omega
                  have hc := ih ((a + b) / 2) ((a + b) / 2 + m - s) b d1 w7 (by omega) HZ2.out S7.out f1 f2 (by have := HZ2.out; omega) (sorted_same PT.out.p3 fun x h3 h4 => HP1.out.2.1 x (Or.inr h3)) (sorted_same PT.out.p4 fun x h3 h4 => HP1.out.2.1 x (Or.inr (by omega)))
                  rw [show (((a + b) / 2 : Nat) : Int) = ((a : Int) + (b : Int)) / 2 by omega, show ((((a + b) / 2 + m - s) : Nat) : Int) = (((a : Int) + (b : Int)) / 2 + (m : Int) - (s : Int)) by omega] at hc
                  go_wp2_with (go_at_fn 168; refine hc.mono ?_; rintro e w9 ⟨rfl, d3, hp3, hs3, hw9⟩; have S9 : Aside _ := hw9; have HP3 := Lib.hid hp3; have HS3 := Lib.hid hs3; clear hw9 hp3 hs3)
                  all_goals (first | go_end0 | go_ret | ((try simp only [Exit.inBlock, Exit.then]); refine bodyPost_ret (results_none rfl _ _ _) rfl ?_))
                  all_goals exact ⟨rfl, FIN.out d1 d3 _ HP1.out HS1.out HP3.out HS3.out S9.out⟩
                · have f2z : ¬ (((a : Int) + (b : Int)) / 2 + (m : Int) - (s : Int)) < (b : Int) := by omega
                  have HS3 := Lib.hid (sorted_one (lt := ltOf cf) (a := (a + b) / 2) (m := ((a + b) / 2 + m - s)) (b := b) (d := d1) (sorted_same PT.out.p3 fun x h3 h4 => HP1.out.2.1 x (Or.inr h3)) (sorted_same PT.out.p4 fun x h3 h4 => HP1.out.2.1 x (Or.inr (by omega))) (by omega) (by omega) (by omega))
                  go_wp2
                  all_goals (first | go_end0 | go_ret | ((try simp only [Exit.inBlock, Exit.then]); refine bodyPost_ret (results_none rfl _ _ _) rfl ?_))
                  all_goals exact ⟨rfl, FIN.out d1 d1 _ HP1.out HS1.out (permIn_refl _ _ _) HS3.out S7.out⟩
              · have f1z : ¬ ((a : Int) + (b : Int)) / 2 < (((a : Int) + (b : Int)) / 2 + (m : Int) - (s : Int)) := by omega
                have HS3 := Lib.hid (sorted_one (lt := ltOf cf) (a := (a + b) / 2) (m := ((a + b) / 2 + m - s)) (b := b) (d := d1) (sorted_same PT.out.p3 fun x h3 h4 => HP1.out.2.1 x (Or.inr h3)) (sorted_same PT.out.p4 fun x h3 h4 => HP1.out.2.1 x (Or.inr (by omega))) (by omega) (by omega) (by omega))
                go_wp2
                all_goals (first | go_end0 | go_ret | ((try simp only [Exit.inBlock, Exit.then]); refine bodyPost_ret (results_none rfl _ _ _) rfl ?_))
                all_goals exact ⟨rfl, FIN.out d1 d1 _ HP1.out HS1.out (permIn_refl _ _ _) HS3.out S7.out⟩
          · have g1z : ¬ (a : Int) < (s : Int) := by omega
            have HP1 := Lib.hid (permIn_refl d1 a ((a + b) / 2))
            have HS1 := Lib.hid (sorted_one (lt := ltOf cf) PT.out.p1 PT.out.p2 (by omega) (by omega) (by omega))
            have HZ2 := Lib.hid HZ1.out
            by_cases f1 : (a + b) / 2 < ((a + b) / 2 + m - s)
            · have f1z : ((a : Int) + (b : Int)) / 2 < (((a : Int) + (b : Int)) / 2 + (m : Int) - (s : Int)) := by omega
              by_cases f2 : ((a + b) / 2 + m - s) < b
              · have f2z : (((a : Int) + (b : Int)) / 2 + (m : Int) - (s : Int)) < (b : Int) := by omega
                have hc := ih ((a + b) / 2) ((a + b) / 2 + m - s) b d1 w7 (by omega) HZ2.out S7.out f1 f2 (by have := HZ2.out; omega) (sorted_same PT.out.p3 fun x h3 h4 => HP1.out.2.1 x (Or.inr h3)) (sorted_same PT.out.p4 fun x h3 h4 => HP1.out.2.1 x (Or.inr (by omega)))
                rw [show (((a + b) / 2 : Nat) : Int) = ((a : Int) + (b : Int)) / 2 by omega, show ((((a + b) / 2 + m - s) : Nat) : Int) = (((a : Int) + (b : Int)) / 2 + (m : Int) - (s : Int)) by omega] at hc
                go_wp2_with (go_at_fn 168; refine hc.mono ?_; rintro e w9 ⟨rfl, d3, hp3, hs3, hw9⟩; have S9 : Aside _ := hw9; have HP3 := Lib.hid hp3; have HS3 := Lib.hid hs3; clear hw9 hp3 hs3)
                all_goals (first | go_end0 | go_ret | ((try simp only [Exit.inBlock, Exit.then]); refine bodyPost_ret (results_none rfl _ _ _) rfl ?_))
                all_goals exact ⟨rfl, FIN.out d1 d3 _ HP1.out HS1.out HP3.out HS3.out S9.out⟩
              · have f2z : ¬ (((a : Int) + (b : Int)) / 2 + (m : Int) - (s : Int)) < (b : Int) := by omega
                have HS3 := Lib.hid (sorted_one (lt := ltOf cf) (a := (a + b) / 2) (m := ((a + b) / 2 + m - s)) (b := b) (d := d1) (sorted_same PT.out.p3 fun x h3 h4 => HP1.out.2.1 x (Or.inr h3)) (sorted_same PT.out.p4 fun x h3 h4 => HP1.out.2.1 x (Or.inr (by omega))) (by omega) (by omega) (by omega))
                go_wp2
                all_goals (first | go_end0 | go_ret | ((try simp only [Exit.inBlock, Exit.then]); refine bodyPost_ret (results_none rfl _ _ _) rfl ?_))
                all_goals exact ⟨rfl, FIN.out d1 d1 _ HP1.out HS1.out (permIn_refl _ _ _) HS3.out S7.out⟩
            · have f1z : ¬ ((a : Int) + (b : Int)) / 2 < (((a : Int) + (b : Int)) / 2 + (m : Int) - (s : Int)) := by omega
              have HS3 := Lib.hid (sorted_one (lt := ltOf cf) (a := (a + b) / 2) (m := ((a + b) / 2 + m - s)) (b := b) (d := d1) (sorted_same PT.out.p3 fun x h3 h4 => HP1.out.2.1 x (Or.inr h3)) (sorted_same PT.out.p4 fun x h3 h4 => HP1.out.2.1 x (Or.inr (by omega))) (by omega) (by omega) (by omega))
              go_wp2
              all_goals (first | go_end0 | go_ret | ((try simp only [Exit.inBlock, Exit.then]); refine bodyPost_ret (results_none rfl _ _ _) rfl ?_))
              all_goals exact ⟨rfl, FIN.out d1 d1 _ HP1.out HS1.out (permIn_refl _ _ _) HS3.out S7.out⟩
        · have r2z : ¬ (m : Int) < (((a : Int) + (b : Int)) / 2 + (m : Int) - (s : Int)) := by omega
          have PT := Lib.hid (parts_of hO H1.out H2.out ham hmb HH.out (fun p => (rot_none d s m ((a + b) / 2 + m - s) p (by omega) (by omega) (by omega)).symm))
          have HZ1 := Lib.hid (show d.size = d0.size from hs.symm)
          have FIN : Aside (∀ (d2 d3 : Array α) (w' : World), PermIn a ((a + b) / 2) d d2 → SortedIn (ltOf cf) a ((a + b) / 2) d2 → PermIn ((a + b) / 2) b d2 d3 → SortedIn (ltOf cf) ((a + b) / 2) b d3 → SWK enc k w0 blk off d3 w' → MainPost enc k w0 blk off cf a b d w') := fun d2 d3 w' h3 h4 h5 h6 h7 => by
            obtain ⟨q1, q2⟩ := halves_sorted (lt := ltOf cf) (by omega) (by omega) (by have := HZ1.out; omega) PT.out.apart h3 h4 h5 h6
            exact ⟨d3, permIn_trans _ _ _ _ _ (permIn_refl d a b) q2, q1, h7⟩
          by_cases g1 : a < s
          · have g1z : (a : Int) < (s : Int) := by omega
            by_cases g2 : s < (a + b) / 2
            · have g2z : (s : Int) < ((a : Int) + (b : Int)) / 2 := by omega
              have hc := ih a s ((a + b) / 2) d wr (by omega) HZ1.out S1.out g1 g2 (by have := HZ1.out; omega) PT.out.p1 PT.out.p2
              rw [show (((a + b) / 2 : Nat) : Int) = ((a : Int) + (b : Int)) / 2 by omega] at hc
              go_wp2_with fail
              go_at_fn 168
              refine hc.mono ?_
              rintro e w8 ⟨rfl, d2, hp1, hs1, hw8⟩
              have S8 : Aside _ := hw8
              have HP1 := Lib.hid hp1
              have HS1 := Lib.hid hs1
              have HZ2 := Lib.hid (hp1.1.trans HZ1.out)
              clear hw8 hp1 hs1 hc
              by_cases f1 : (a + b) / 2 < ((a + b) / 2 + m - s)
              · have f1z : ((a : Int) + (b : Int)) / 2 < (((a : Int) + (b : Int)) / 2 + (m : Int) - (s : Int)) := by omega
                by_cases f2 : ((a + b) / 2 + m - s) < b
                · have f2z : (((a : Int) + (b : Int)) / 2 + (m : Int) - (s : Int)) < (b : Int) := by omega
                  have hc := ih ((a + b) / 2) ((a + b) / 2 + m - s) b d2 w8 (by omega) HZ2.out S8.out f1 f2 (by have := HZ2.out; omega) (sorted_same PT.out.p3 fun x h3 h4 => HP1.out.2.1 x (Or.inr h3)) (sorted_same PT.out.p4 fun x h3 h4 => HP1.out.2.1 x (Or.inr (by omega)))
                  rw [show (((a + b) / 2 : Nat) : Int) = ((a : Int) + (b : Int)) / 2 by omega, show ((((a + b) / 2 + m - s) : Nat) : Int) = (((a : Int) + (b : Int)) / 2 + (m : Int) - (s : Int)) by omega] at hc
                  go_wp2_with (go_at_fn 168; refine hc.mono ?_; rintro e w9 ⟨rfl, d3, hp3, hs3, hw9⟩; have S9 : Aside _ := hw9; have HP3 := Lib.hid hp3; have HS3 := Lib.hid hs3; clear hw9 hp3 hs3)
                  all_goals (first | go_end0 | go_ret | ((try simp only [Exit.inBlock, Exit.then]); refine bodyPost_ret (results_none rfl _ _ _) rfl ?_))
                  all_goals exact ⟨rfl, FIN.out d2 d3 _ HP1.out HS1.out HP3.out HS3.out S9.out⟩
                · have f2z : ¬ (((a : Int) + (b : Int)) / 2 + (m : Int) - (s : Int)) < (b : Int) := by omega
                  have HS3 := Lib.hid (sorted_one (lt := ltOf cf) (a := (a + b) / 2) (m := ((a + b) / 2 + m - s)) (b := b) (d := d2) (sorted_same PT.out.p3 fun x h3 h4 => HP1.out.2.1 x (Or.inr h3)) (sorted_same PT.out.p4 fun x h3 h4 => HP1.out.2.1 x (Or.inr (by omega))) (by omega) (by omega) (by omega))
                  go_wp2
                  all_goals (first | go_end0 | go_ret | ((try simp only [Exit.inBlock, Exit.then]); refine bodyPost_ret (results_none rfl _ _ _) rfl ?_))
                  all_goals exact ⟨rfl, FIN.out d2 d2 _ HP1.out HS1.out (permIn_refl _ _ _) HS3.out S8.out⟩
              · have f1z : ¬ ((a : Int) + (b : Int)) / 2 < (((a : Int) + (b : Int)) / 2 + (m : Int) - (s : Int)) := by omega
                have HS3 := Lib.hid (sorted_one (lt := ltOf cf) (a := (a + b) / 2) (m := ((a + b) / 2 + m - s)) (b := b) (d := d2) (sorted_same PT.out.p3 fun x h3 h4 => HP1.out.2.1 x (Or.inr h3)) (sorted_same PT.out.p4 fun x h3 h4 => HP1.out.2.1 x (Or.inr (by omega))) (by omega) (by omega) (by omega))
                go_wp2
                all_goals (first | go_end0 | go_ret | ((try simp only [Exit.inBlock, Exit.then]); refine bodyPost_ret (results_none rfl _ _ _) rfl ?_))
                all_goals exact ⟨rfl, FIN.out d2 d2 _ HP1.out HS1.out (permIn_refl _ _ _) HS3.out S8.out⟩
            · have g2z : ¬ (s : Int) < ((a : Int) + (b : Int)) / 2 := by omega
              have HP1 := Lib.hid (permIn_refl d a ((a + b) / 2))
              have HS1 := Lib.hid (sorted_one (lt := ltOf cf) PT.out.p1 PT.out.p2 (by omega) (by omega) (by omega))
              have HZ2 := Lib.hid HZ1.out
              by_cases f1 : (a + b) / 2 < ((a + b) / 2 + m - s)
              · have f1z : ((a : Int) + (b : Int)) / 2 < (((a : Int) + (b : Int)) / 2 + (m : Int) - (s : Int)) := by omega
                by_cases f2 : ((a + b) / 2 + m - s) < b
                · have f2z : (((a : Int) + (b : Int)) / 2 + (m : Int) - (s : Int)) < (b : Int) := by omega
                  have hc := ih ((a + b) / 2) ((a + b) / 2 + m - s) b d wr (by omega) HZ2.out S1.out f1 f2 (by have := HZ2.out; omega) (sorted_same PT.out.p3 fun x h3 h4 => HP1.out.2.1 x (Or.inr h3)) (sorted_same PT.out.p4 fun x h3 h4 => HP1.out.2.1 x (Or.inr (by omega)))
                  rw [show (((a + b) / 2 : Nat) : Int) = ((a : Int) + (b : Int)) / 2 by omega, show ((((a + b) / 2 + m - s) : Nat) : Int) = (((a : Int) + (b : Int)) / 2 + (m : Int) - (s : Int)) by omega] at hc
                  go_wp2_with (go_at_fn 168; refine hc.mono ?_; rintro e w9 ⟨rfl, d3, hp3, hs3, hw9⟩; have S9 : Aside _ := hw9; have HP3 := Lib.hid hp3; have HS3 := Lib.hid hs3; clear hw9 hp3 hs3)
                  all_goals (first | go_end0 | go_ret | ((try simp only [Exit.inBlock, Exit.then]); refine bodyPost_ret (results_none rfl _ _ _) rfl ?_))
                  all_goals exact ⟨rfl, FIN.out d d3 _ HP1.out HS1.out HP3.out HS3.out S9.out⟩
                · have f2z : ¬ (((a : Int) + (b : Int)) / 2 + (m : Int) - (s : Int)) < (b : Int) := by omega
                  have HS3 := Lib.hid (sorted_one (lt := ltOf cf) (a := (a + b) / 2) (m := ((a + b) / 2 + m - s)) (b := b) (d := d) (sorted_same PT.out.p3 fun x h3 h4 => HP1.out.2.1 x (Or.inr h3)) (sorted_same PT.out.p4 fun x h3 h4 => HP1.out.2.1 x (Or.inr (by omega))) (by omega) (by omega) (by omega))
                  go_wp2
                  all_goals (first | go_end0 | go_ret | ((try simp only [Exit.inBlock, Exit.then]); refine bodyPost_ret (results_none rfl _ _ _) rfl ?_))
                  all_goals exact ⟨rfl, FIN.out d d _ HP1.out HS1.out (permIn_refl _ _ _) HS3.out S1.out⟩
              · have f1z : ¬ ((a : Int) + (b : Int)) / 2 < (((a : Int) + (b : Int)) / 2 + (m : Int) - (s : Int)) := by omega
                have HS3 := Lib.hid (sorted_one (lt := ltOf cf) (a := (a + b) / 2) (m := ((a + b) / 2 + m - s)) (b := b) (d := d) (sorted_same PT.out.p3 fun x h3 h4 => HP1.out.2.1 x (Or.inr h3)) (sorted_same PT.out.p4 fun x h3 h4 => HP1.out.2.1 x (Or.inr (by omega))) (by omega) (by omega) (by omega))
                go_wp2
                all_goals (first | go_end0 | go_ret | ((try simp only [Exit.inBlock, Exit.then]); refine bodyPost_ret (results_none rfl _ _ _) rfl ?_))
                all_goals exact ⟨rfl, FIN.out d d _ HP1.out HS1.out (permIn_refl _ _ _) HS3.out S1.out⟩
          · have g1z : ¬ (a : Int) < (s : Int) := by omega
            have HP1 := Lib.hid (permIn_refl d a ((a + b) / 2))
            have HS1 := Lib.hid (sorted_one (lt := ltOf cf) PT.out.p1 PT.out.p2 (by omega) (by omega) (by omega))
            have HZ2 := Lib.hid HZ1.out
            by_cases f1 : (a + b) / 2 < ((a + b) / 2 + m - s)
            · have f1z : ((a : Int) + (b : Int)) / 2 < (((a : Int) + (b : Int)) / 2 + (m : Int) - (s : Int)) := by omega
              by_cases f2 : ((a + b) / 2 + m - s) < b
              · have f2z : (((a : Int) + (b : Int)) / 2 + (m : Int) - (s : Int)) < (b : Int) := by omega
                have hc := ih ((a + b) / 2) ((a + b) / 2 + m - s) b d wr (by omega) HZ2.out S1.out f1 f2 (by have := HZ2.out; omega) (sorted_same PT.out.p3 fun x h3 h4 => HP1.out.2.1 x (Or.inr h3)) (sorted_same PT.out.p4 fun x h3 h4 => HP1.out.2.1 x (Or.inr (by omega)))
                rw [show (((a + b) / 2 : Nat) : Int) = ((a : Int) + (b : Int)) / 2 by omega, show ((((a + b) / 2 + m - s) : Nat) : Int) = (((a : Int) + (b : Int)) / 2 + (m : Int) - (s : Int)) by omega] at hc
                go_wp2_with (go_at_fn 168; refine hc.mono ?_; rintro e w9 ⟨rfl, d3, hp3, hs3, hw9⟩; have S9 : Aside _ := hw9; have HP3 := Lib.hid hp3; have HS3 := Lib.hid hs3; clear hw9 hp3 hs3)
                all_goals (first | go_end0 | go_ret | ((try simp only [Exit.inBlock, Exit.then]); refine bodyPost_ret (results_none rfl _ _ _) rfl ?_))
                all_goals exact ⟨rfl, FIN.out d d3 _ HP1.out HS1.out HP3.out HS3.out S9.out⟩
              · have f2z : ¬ (((a : Int) + (b : Int)) / 2 + (m : Int) - (s : Int)) < (b : Int) := by omega
                have HS3 := Lib.hid (sorted_one (lt := ltOf cf) (a := (a + b) / 2) (m := ((a + b) / 2 + m - s)) (b := b) (d := d) (sorted_same PT.out.p3 fun x h3 h4 => HP1.out.2.1 x (Or.inr h3)) (sorted_same PT.out.p4 fun x h3 h4 => HP1.out.2.1 x (Or.inr (by omega))) (by omega) (by omega) (by omega))
                go_wp2
                all_goals (first | go_end0 | go_ret | ((try simp only [Exit.inBlock, Exit.then]); refine bodyPost_ret (results_none rfl _ _ _) rfl ?_))
                all_goals exact ⟨rfl, FIN.out d d _ HP1.out HS1.out (permIn_refl _ _ _) HS3.out S1.out⟩
            · have f1z : ¬ ((a : Int) + (b : Int)) / 2 < (((a : Int) + (b : Int)) / 2 + (m : Int) - (s : Int)) := by omega
              have HS3 := Lib.hid (sorted_one (lt := ltOf cf) (a := (a + b) / 2) (m := ((a + b) / 2 + m - s)) (b := b) (d := d) (sorted_same PT.out.p3 fun x h3 h4 => HP1.out.2.1 x (Or.inr h3)) (sorted_same PT.out.p4 fun x h3 h4 => HP1.out.2.1 x (Or.inr (by omega))) (by omega) (by omega) (by omega))
              go_wp2
              all_goals (first | go_end0 | go_ret | ((try simp only [Exit.inBlock, Exit.then]); refine bodyPost_ret (results_none rfl _ _ _) rfl ?_))
              all_goals exact ⟨rfl, FIN.out d d _ HP1.out HS1.out (permIn_refl _ _ _) HS3.out S1.out⟩
      · have r1z : ¬ (s : Int) < (m : Int) := by omega
        have PT := Lib.hid (parts_of hO H1.out H2.out ham hmb HH.out (fun p => (rot_none d s m ((a + b) / 2 + m - s) p (by omega) (by omega) (by omega)).symm))
        have HZ1 := Lib.hid (show d.size = d0.size from hs.symm)
        have FIN : Aside (∀ (d2 d3 : Array α) (w' : World), PermIn a ((a + b) / 2) d d2 → SortedIn (ltOf cf) a ((a + b) / 2) d2 → PermIn ((a + b) / 2) b d2 d3 → SortedIn (ltOf cf) ((a + b) / 2) b d3 → SWK enc k w0 blk off d3 w' → MainPost enc k w0 blk off cf a b d w') := fun d2 d3 w' h3 h4 h5 h6 h7 => by
          obtain ⟨q1, q2⟩ := halves_sorted (lt := ltOf cf) (by omega) (by omega) (by have := HZ1.out; omega) PT.out.apart h3 h4 h5 h6
          exact ⟨d3, permIn_trans _ _ _ _ _ (permIn_refl d a b) q2, q1, h7⟩
        by_cases g1 : a < s
        · have g1z : (a : Int) < (s : Int) := by omega
          by_cases g2 : s < (a + b) / 2
          · have g2z : (s : Int) < ((a : Int) + (b : Int)) / 2 := by omega
            have hc := ih a s ((a + b) / 2) d wr (by omega) HZ1.out S1.out g1 g2 (by have := HZ1.out; omega) PT.out.p1 PT.out.p2
            rw [show (((a + b) / 2 : Nat) : Int) = ((a : Int) + (b : Int)) / 2 by omega] at hc
            go_wp2_with fail
            go_at_fn 168
            refine hc.mono ?_
            rintro e w8 ⟨rfl, d2, hp1, hs1, hw8⟩
            have S8 : Aside _ := hw8
            have HP1 := Lib.hid hp1
            have HS1 := Lib.hid hs1
            have HZ2 := Lib.hid (hp1.1.trans HZ1.out)
            clear hw8 hp1 hs1 hc
            by_cases f1 : (a + b) / 2 < ((a + b) / 2 + m - s)
            · have f1z : ((a : Int) + (b : Int)) / 2 < (((a : Int) + (b : Int)) / 2 + (m : Int) - (s : Int)) := by omega
              by_cases f2 : ((a + b) / 2 + m - s) < b
              · have f2z : (((a : Int) + (b : Int)) / 2 + (m : Int) - (s : Int)) < (b : Int) := by omega
                have hc := ih ((a + b) / 2) ((a + b) / 2 + m - s) b d2 w8 (by omega) HZ2.out S8.out f1 f2 (by have := HZ2.out; omega) (sorted_same PT.out.p3 fun x h3 h4 => HP1.out.2.1 x (Or.inr h3)) (sorted_same PT.out.p4 fun x h3 h4 => HP1.out.2.1 x (Or.inr (by omega)))
                rw [show (((a + b) / 2 : Nat) : Int) = ((a : Int) + (b : Int)) / 2 by omega, show ((((a + b) / 2 + m - s) : Nat) : Int) = (((a : Int) + (b : Int)) / 2 + (m : Int) - (s : Int)) by omega] at hc
                go_wp2_with (go_at_fn 168; refine hc.mono ?_; rintro e w9 ⟨rfl, d3, hp3, hs3, hw9⟩; have S9 : Aside _ := hw9; have HP3 := Lib.hid hp3; have HS3 := Lib.hid hs3; clear hw9 hp3 hs3)
                all_goals (first | go_end0 | go_ret | ((try simp only [Exit.inBlock, Exit.then]); refine bodyPost_ret (results_none rfl _ _ _) rfl ?_))
                all_goals exact ⟨rfl, FIN.out d2 d3 _ HP1.out HS1.out HP3.out HS3.out S9.out⟩
              · have f2z : ¬ (((a : Int) + (b : Int)) / 2 + (m : Int) - (s : Int)) < (b : Int) := by omega
                have HS3 := Lib.hid (sorted_one (lt := ltOf cf) (a := (a + b) / 2) (m := ((a + b) / 2 + m - s)) (b := b) (d := d2) (sorted_same PT.out.p3 fun x h3 h4 => HP1.out.2.1 x (Or.inr h3)) (sorted_same PT.out.p4 fun x h3 h4 => HP1.out.2.1 x (Or.inr (by omega))) (by omega) (by omega) (by omega))
                go_wp2
                all_goals (first | go_end0 | go_ret | ((try simp only [Exit.inBlock, Exit.then]); refine bodyPost_ret (results_none rfl _ _ _) rfl ?_))
                all_goals exact ⟨rfl, FIN.out d2 d2 _ HP1.out HS1.out (permIn_refl _ _ _) HS3.out S8.out⟩
            · have f1z : ¬ ((a : Int) + (b : Int)) / 2 < (((a : Int) + (b : Int)) / 2 + (m : Int) - (s : Int)) := by omega
              have HS3 := Lib.hid (sorted_one (lt := ltOf cf) (a := (a + b) / 2) (m := ((a + b) / 2 + m - s)) (b := b) (d := d2) (sorted_same PT.out.p3 fun x h3 h4 => HP1.out.2.1 x (Or.inr h3)) (sorted_same PT.out.p4 fun x h3 h4 => HP1.out.2.1 x (Or.inr (by omega))) (by omega) (by omega) (by omega))
              go_wp2
              all_goals (first | go_end0 | go_ret | ((try simp only [Exit.inBlock, Exit.then]); refine bodyPost_ret (results_none rfl _ _ _) rfl ?_))
              all_goals exact ⟨rfl, FIN.out d2 d2 _ HP1.out HS1.out (permIn_refl _ _ _) HS3.out S8.out⟩
          · have g2z : ¬ (s : Int) < ((a : Int) + (b : Int)) / 2 := by omega
            have HP1 := Lib.hid (permIn_refl d a ((a + b) / 2))
            have HS1 := Lib.hid (sorted_one (lt := ltOf cf) PT.out.p1 PT.out.p2 (by omega) (by omega) (by omega))
            have HZ2 := Lib.hid HZ1.out
            by_cases f1 : (a + b) / 2 < ((a + b) / 2 + m - s)
            · have f1z : ((a : Int) + (b : Int)) / 2 < (((a : Int) + (b : Int)) / 2 + (m : Int) - (s : Int)) := by omega
              by_cases f2 : ((a + b) / 2 + m - s) < b
              · have f2z : (((a : Int) + (b : Int)) / 2 + (m : Int) - (s : Int)) < (b : Int) := by omega
                have hc := ih ((a + b) / 2) ((a + b) / 2 + m - s) b d wr (by omega) HZ2.out S1.out f1 f2 (by have := HZ2.out; omega) (sorted_same PT.out.p3 fun x h3 h4 => HP1.out.2.1 x (Or.inr h3)) (sorted_same PT.out.p4 fun x h3 h4 => HP1.out.2.1 x (Or.inr (by omega)))
                rw [show (((a + b) / 2 : Nat) : Int) = ((a : Int) + (b : Int)) / 2 by omega, show ((((a + b) / 2 + m - s) : Nat) : Int) = (((a : Int) + (b : Int)) / 2 + (m : Int) - (s : Int)) by omega] at hc
                go_wp2_with (go_at_fn 168; refine hc.mono ?_; rintro e w9 ⟨rfl, d3, hp3, hs3, hw9⟩; have S9 : Aside _ := hw9; have HP3 := Lib.hid hp3; have HS3 := Lib.hid hs3; clear hw9 hp3 hs3)
                all_goals (first | go_end0 | go_ret | ((try simp only [Exit.inBlock, Exit.then]); refine bodyPost_ret (results_none rfl _ _ _) rfl ?_))
                all_goals exact ⟨rfl, FIN.out d d3 _ HP1.out HS1.out HP3.out HS3.out S9.out⟩
              · have f2z : ¬ (((a : Int) + (b : Int)) / 2 + (m : Int) - (s : Int)) < (b : Int) := by omega
                have HS3 := Lib.hid (sorted_one (lt := ltOf cf) (a := (a + b) / 2) (m := ((a + b) / 2 + m - s)) (b := b) (d := d) (sorted_same PT.out.p3 fun x h3 h4 => HP1.out.2.1 x (Or.inr h3)) (sorted_same PT.out.p4 fun x h3 h4 => HP1.out.2.1 x (Or.inr (by omega))) (by omega) (by omega) (by omega))
                go_wp2
                all_goals (first | go_end0 | go_ret | ((try simp only [Exit.inBlock, Exit.then]); refine bodyPost_ret (results_none rfl _ _ _) rfl ?_))
                all_goals exact ⟨rfl, FIN.out d d _ HP1.out HS1.out (permIn_refl _ _ _) HS3.out S1.out⟩
            · have f1z : ¬ ((a : Int) + (b : Int)) / 2 < (((a : Int) + (b : Int)) / 2 + (m : Int) - (s : Int)) := by omega
              have HS3 := Lib.hid (sorted_one (lt := ltOf cf) (a := (a + b) / 2) (m := ((a + b) / 2 + m - s)) (b := b) (d := d) (sorted_same PT.out.p3 fun x h3 h4 => HP1.out.2.1 x (Or.inr h3)) (sorted_same PT.out.p4 fun x h3 h4 => HP1.out.2.1 x (Or.inr (by omega))) (by omega) (by omega) (by omega))
              go_wp2
              all_goals (first | go_end0 | go_ret | ((try simp only [Exit.inBlock, Exit.then]); refine bodyPost_ret (results_none rfl _ _ _) rfl ?_))
              all_goals exact ⟨rfl, FIN.out d d _ HP1.out HS1.out (permIn_refl _ _ _) HS3.out S1.out⟩
        · have g1z : ¬ (a : Int) < (s : Int) := by omega
          have HP1 := Lib.hid (permIn_refl d a ((a + b) / 2))
          have HS1 := Lib.hid (sorted_one (lt := ltOf cf) PT.out.p1 PT.out.p2 (by omega) (by omega) (by omega))
          have HZ2 := Lib.hid HZ1.out
          by_cases f1 : (a + b) / 2 < ((a + b) / 2 + m - s)
          · have f1z : ((a : Int) + (b : Int)) / 2 < (((a : Int) + (b : Int)) / 2 + (m : Int) - (s : Int)) := by omega
            by_cases f2 : ((a + b) / 2 + m - s) < b
            · have f2z : (((a : Int) + (b : Int)) / 2 + (m : Int) - (s : Int)) < (b : Int) := by omega
              have hc := ih ((a + b) / 2) ((a + b) / 2 + m - s) b d wr (by omega) HZ2.out S1.out f1 f2 (by have := HZ2.out; omega) (sorted_same PT.out.p3 fun x h3 h4 => HP1.out.2.1 x (Or.inr h3)) (sorted_same PT.out.p4 fun x h3 h4 => HP1.out.2.1 x (Or.inr (by omega)))
              rw [show (((a + b) / 2 : Nat) : Int) = ((a : Int) + (b : Int)) / 2 by omega, show ((((a + b) / 2 + m - s) : Nat) : Int) = (((a : Int) + (b : Int)) / 2 + (m : Int) - (s : Int)) by omega] at hc
              go_wp2_with (go_at_fn 168; refine hc.mono ?_; rintro e w9 ⟨rfl, d3, hp3, hs3, hw9⟩; have S9 : Aside _ := hw9; have HP3 := Lib.hid hp3; have HS3 := Lib.hid hs3; clear hw9 hp3 hs3)
              all_goals (first | go_end0 | go_ret | ((try simp only [Exit.inBlock, Exit.then]); refine bodyPost_ret (results_none rfl _ _ _) rfl ?_))
              all_goals exact ⟨rfl, FIN.out d d3 _ HP1.out HS1.out HP3.out HS3.out S9.out⟩
            · have f2z : ¬ (((a : Int) + (b : Int)) / 2 + (m : Int) - (s : Int)) < (b : Int) := by omega
              have HS3 := Lib.hid (sorted_one (lt := ltOf cf) (a := (a + b) / 2) (m := ((a + b) / 2 + m - s)) (b := b) (d := d) (sorted_same PT.out.p3 fun x h3 h4 => HP1.out.2.1 x (Or.inr h3)) (sorted_same PT.out.p4 fun x h3 h4 => HP1.out.2.1 x (Or.inr (by omega))) (by omega) (by omega) (by omega))
              go_wp2
              all_goals (first | go_end0 | go_ret | ((try simp only [Exit.inBlock, Exit.then]); refine bodyPost_ret (results_none rfl _ _ _) rfl ?_))
              all_goals exact ⟨rfl, FIN.out d d _ HP1.out HS1.out (permIn_refl _ _ _) HS3.out S1.out⟩
          · have f1z : ¬ ((a : Int) + (b : Int)) / 2 < (((a : Int) + (b : Int)) / 2 + (m : Int) - (s : Int)) := by omega
            have HS3 := Lib.hid (sorted_one (lt := ltOf cf) (a := (a + b) / 2) (m := ((a + b) / 2 + m - s)) (b := b) (d := d) (sorted_same PT.out.p3 fun x h3 h4 => HP1.out.2.1 x (Or.inr h3)) (sorted_same PT.out.p4 fun x h3 h4 => HP1.out.2.1 x (Or.inr (by omega))) (by omega) (by omega) (by omega))
            go_wp2
            all_goals (first | go_end0 | go_ret | ((try simp only [Exit.inBlock, Exit.then]); refine bodyPost_ret (results_none rfl _ _ _) rfl ?_))
            all_goals exact ⟨rfl, FIN.out d d _ HP1.out HS1.out (permIn_refl _ _ _) HS3.out S1.out⟩
end Go.Proofs.Ytphinkcfmdnpfaa
namespace Go.Proofs.Ytphinkcfmdnpfaa
open Go.Shelf Go.RowKit Go.Lib Go.Sort
variable {P : Program} {α : Type} [Inhabited α] {k : Nat}


set_option maxHeartbeats 8000000 in
set_option maxRecDepth 1000000 in
theorem sym_left (L : SortP P k) (enc : α → List Value) (cf : α → α → Int) (hO : SWO (ltOf cf)) (g : Nat) (cb : Array Value) (blk off cap a m b : Nat) (d0 d : Array α) (w0 w : World) (eg : ∀ args w, (callFunc g args).run P w = .ok (.enter g args) w) (hcmp : CmpLays P g cb enc k cf blk off d0.size w0)
    (R : RowK enc k w0 blk off d0) (hs : d0.size = d.size) (S : SWK enc k w0 blk off d w) (ham : a + 2 ≤ m) (hmb : m + 2 ≤ b) (hb : b ≤ d.size) (hsz : d.size < 4611686018427387904) (h1 : SortedIn (ltOf cf) a m d) (h2 : SortedIn (ltOf cf) m b d) (hmid : m ≤ (a + b) / 2)
    (ih : ∀ (a' m' b' : Nat) (d' : Array α) (w' : World), b' - a' < b - a → d'.size = d0.size → SWK enc k w0 blk off d' w' → a' < m' → m' < b' → b' ≤ d'.size → SortedIn (ltOf cf) a' m' d' → SortedIn (ltOf cf) m' b' d' →
      Calls P 168 #[.slice (some ⟨blk, off, none⟩) d.size cap, .int .i64 a', .int .i64 m', .int .i64 b', .func (.func g) #[] cb] w' fun e w'' => e = .returned (.tuple #[]) ∧ ∃ d'', PermIn a' b' d' d'' ∧ SortedIn (ltOf cf) a' b' d'' ∧ SWK enc k w0 blk off d'' w'') :
    Calls P 168 #[.slice (some ⟨blk, off, none⟩) d.size cap, .int .i64 a, .int .i64 m, .int .i64 b, .func (.func g) #[] cb] w fun e w' => e = .returned (.tuple #[]) ∧ MainPost enc k w0 blk off cf a b d w' := by
  have mixed := L.mixed; have t0 := L.t0.trans Try.underlying0; have a0 := L.a0; have z0 := L.z0; have v0 := L.v0; have t3 := L.t3.trans Try.underlying3; have a3 := L.a3; have z3 := L.z3; have v3 := L.v3; have t4 := L.t4.trans Try.underlying4; have a4 := L.a4; have z4 := L.z4; have v4 := L.v4; have t22 := L.t22.trans Try.underlying23; have a22 := L.a22; have z22 := L.z22; have v22 := L.v22; have t25 := L.t25.trans Try.underlying129; have a25 := L.a25; have z25 := L.z25; have v25 := L.v25; have t9 := L.t9.trans Try.underlying191; have a9 := L.a9; have z9 := L.z9; have v9 := L.v9; have aE := L.aE; have zE := L.zE
  have u0 := run_underlying t0; have u3 := run_underlying t3; have u4 := run_underlying t4; have u22 := run_underlying t22; have u25 := run_underlying t25; have u9 := run_underlying t9
  have FG := L.symMerge.trans Try.func168
  have HC : Aside _ := hcmp
  have S0 : Aside (SWK enc k w0 blk off d w) := S
  clear S hcmp
  have eR : ∀ args w, (callFunc 181 args).run P w = .ok (.enter 181 args) w := enters_of (L.rotate.trans Try.func181) (by kernel_rfl) rfl
  have eM : ∀ args w, (callFunc 168 args).run P w = .ok (.enter 168 args) w := enters_of FG (by kernel_rfl) rfl
  have hm0 : ((m : Int) - (a : Int) == 1) = false := by simp; omega
  have hm1 : ((b : Int) - (m : Int) == 1) = false := by simp; omega
  have hmz : ¬ ((a : Int) + (b : Int)) / 2 < (m : Int) := by omega
  have H1 : Aside (SortedIn (ltOf cf) a m d) := h1
  have H2 : Aside (SortedIn (ltOf cf) m b d) := h2
  obtain ⟨l1, l2, l3, l4, l5⟩ := lohi ham hmb
  have hlo : loOf a m b = a := by rcases lohi_or a m b with ⟨x1, x2, x3⟩ | ⟨x1, x2, x3⟩ <;> omega
  have hhi : hiOf a m b = m := by rcases lohi_or a m b with ⟨x1, x2, x3⟩ | ⟨x1, x2, x3⟩ <;> omega
  rw [hlo] at l1 l2 l5
  rw [hhi] at l2 l3 l4
  have HLH := Lib.hid (And.intro hlo hhi)
  have MO : Aside (∀ c c', loOf a m b ≤ c → c ≤ c' → c' < hiOf a m b → (!ltOf cf d[(a + b) / 2 + m - 1 - c']! d[c']!) = true → (!ltOf cf d[(a + b) / 2 + m - 1 - c]! d[c]!) = true) := fun c c' h3 h4 h5 => mid_mono hO h1 h2 (by omega) (by omega) (by omega) (by omega) c c' h3 h4 h5
  clear h1 h2 hlo hhi
  go_enter FG, Try.ntmps168
  go_wp2
  go_loopg [20, 21] (b - a) (fun kx s20 s21 wr => ∃ (s r : Nat), s20 = .int .i64 s ∧ s21 = .int .i64 r ∧ r - s ≤ kx ∧ a ≤ s ∧ s ≤ r ∧ r ≤ m ∧ Aside (Halves (fun c => !ltOf cf d[(a + b) / 2 + m - 1 - c]! d[c]!) (loOf a m b) (hiOf a m b) s r) ∧ Aside (SWK enc k w0 blk off d wr))
  case atStart => exact ⟨a, m, by first | rfl | (congr 1; omega), by first | rfl | (congr 1; omega), by omega, Nat.le_refl _, l2, Nat.le_refl _, by have := HLH.out; rw [this.1, this.2]; exact Halves.start _ l2, S0⟩
  case round =>
    clear S0
    obtain ⟨s, r, rfl, rfl, hkx, hls, hsr, hrh, HH, S1⟩ := hrel
    by_cases hlt : s < r
    · have hltz : (s : Int) < (r : Int) := by omega
      obtain ⟨q, hq⟩ : ∃ q, (a + b) / 2 + m - 1 - (s + r) / 2 = q := ⟨_, rfl⟩
      have hqz : ((a : Int) + (b : Int)) / 2 + (m : Int) - 1 - ((s : Int) + (r : Int)) / 2 = (q : Int) := by omega
      have HQ := Lib.hid hq
      clear hq
      cases hlv : ltOf cf d[q]! d[(s + r) / 2]! with
      | false =>
        have HL : Aside ((!ltOf cf d[(a + b) / 2 + m - 1 - (s + r) / 2]! d[(s + r) / 2]!) = true) := by show _ = _; rw [HQ.out, hlv]; rfl
        have ea1 : ((q : Int)).toNat = q := by omega
        have pa1 : (0 : Int) ≤ (q : Int) := by omega
        have ba1 : (q : Int) < (d.size : Int) := by omega
        have ra1 : IntKind.i64.wrap ((q : Int)) = (q : Int) := by rw [IntKind.wrap_i64]; omega
        have ec1 : (((s : Int) + (r : Int)) / 2).toNat = (s + r) / 2 := by omega
        have pc1 : (0 : Int) ≤ ((s : Int) + (r : Int)) / 2 := by omega
        have bc1 : ((s : Int) + (r : Int)) / 2 < (d.size : Int) := by omega
        have rc1 : IntKind.i64.wrap (((s : Int) + (r : Int)) / 2) = ((s : Int) + (r : Int)) / 2 := by rw [IntKind.wrap_i64]; omega
        obtain ⟨x1, hx1⟩ : ∃ x, x = d[q]! := ⟨_, rfl⟩
        obtain ⟨y1, hy1⟩ : ∃ x, x = d[(s + r) / 2]! := ⟨_, rfl⟩
        have l1a := S1.out.ld R (by omega) P (q) (by omega)
        have l1b := S1.out.ld R (by omega) P ((s + r) / 2) (by omega)
        rw [← hx1] at l1a
        rw [← hy1] at l1b
        have hc1 := S1.out.cmp HC.out (by omega) x1 y1
        have hv1 : ¬ cf x1 y1 < 0 := by rw [hx1, hy1]; exact of_decide_eq_false hlv
        have hd1 : decide (cf x1 y1 < 0) = false := decide_eq_false hv1
        clear hx1 hy1
        go_wp2_with fail
        go_quiet_grown (first | (go_at_fn g; refine Calls.grown_of (hc1 _ _)))
        have S2 : Aside (SWK enc k w0 blk off d (grow (wr.drewN nq) osq)) := S1.out.grown nq osq
        clear l1a l1b hc1 S1
        generalize grow (wr.drewN nq) osq = w2 at S2 ⊢
        clear nq osq
        go_wp2
        go_roundg (r - ((s + r) / 2 + 1))
        case measure => omega
        case rel => exact ⟨(s + r) / 2 + 1, r, by first | rfl | (congr 1; omega), rfl, Nat.le_refl _, by omega, by omega, hrh, HH.out.up MO.out (by omega) (by omega) HL.out, S2⟩
      | true =>
        have HL : Aside ((!ltOf cf d[(a + b) / 2 + m - 1 - (s + r) / 2]! d[(s + r) / 2]!) = false) := by show _ = _; rw [HQ.out, hlv]; rfl
        have ea2 : ((q : Int)).toNat = q := by omega
        have pa2 : (0 : Int) ≤ (q : Int) := by omega
        have ba2 : (q : Int) < (d.size : Int) := by omega
        have ra2 : IntKind.i64.wrap ((q : Int)) = (q : Int) := by rw [IntKind.wrap_i64]; omega
        have ec2 : (((s : Int) + (r : Int)) / 2).toNat = (s + r) / 2 := by omega
        have pc2 : (0 : Int) ≤ ((s : Int) + (r : Int)) / 2 := by omega
        have bc2 : ((s : Int) + (r : Int)) / 2 < (d.size : Int) := by omega
        have rc2 : IntKind.i64.wrap (((s : Int) + (r : Int)) / 2) = ((s : Int) + (r : Int)) / 2 := by rw [IntKind.wrap_i64]; omega
        obtain ⟨x2, hx2⟩ : ∃ x, x = d[q]! := ⟨_, rfl⟩
        obtain ⟨y2, hy2⟩ : ∃ x, x = d[(s + r) / 2]! := ⟨_, rfl⟩
        have l2a := S1.out.ld R (by omega) P (q) (by omega)
        have l2b := S1.out.ld R (by omega) P ((s + r) / 2) (by omega)
        rw [← hx2] at l2a
        rw [← hy2] at l2b
        have hc2 := S1.out.cmp HC.out (by omega) x2 y2
        have hv2 : cf x2 y2 < 0 := by rw [hx2, hy2]; exact of_decide_eq_true hlv
        have hd2 : decide (cf x2 y2 < 0) = true := decide_eq_true hv2
        clear hx2 hy2
        go_wp2_with fail
        go_quiet_grown (first | (go_at_fn g; refine Calls.grown_of (hc2 _ _)))
        have S2 : Aside (SWK enc k w0 blk off d (grow (wr.drewN nq) osq)) := S1.out.grown nq osq
        clear l2a l2b hc2 S1
        generalize grow (wr.drewN nq) osq = w2 at S2 ⊢
        clear nq osq
        go_wp2
        go_roundg ((s + r) / 2 - s)
        case measure => omega
        case rel => exact ⟨s, (s + r) / 2, rfl, by first | rfl | (congr 1; omega), Nat.le_refl _, hls, by omega, by omega, HH.out.down MO.out (by omega) (by omega) HL.out, S2⟩
    · obtain rfl : s = r := by omega
      have hltz : ¬ (s : Int) < (s : Int) := by omega
      by_cases r1 : s < m
      · have r1z : (s : Int) < (m : Int) := by omega
        by_cases r2 : m < ((a + b) / 2 + m - s)
        · have r2z : (m : Int) < (((a : Int) + (b : Int)) / 2 + (m : Int) - (s : Int)) := by omega
          have hc := rotate_w L enc g cb blk off cap s m ((a + b) / 2 + m - s) d0 d w0 wr R hs S1.out r1 r2 (by omega) hsz
          rw [show ((((a + b) / 2 + m - s) : Nat) : Int) = (((a : Int) + (b : Int)) / 2 + (m : Int) - (s : Int)) by omega] at hc
          go_wp2_with fail
          go_at_fn 181
          refine hc.mono ?_
          rintro e w7 ⟨rfl, d1, hT, hw7⟩
          have S7 : Aside _ := hw7
          have PT := Lib.hid (parts_of hO H1.out H2.out ham hmb HH.out hT.2)
          have HZ1 := Lib.hid (show d1.size = d0.size from hT.1.1.trans hs.symm)
          have HP0 := Lib.hid (permIn_mono d d1 s ((a + b) / 2 + m - s) a b (by omega) (by omega) hb hT.1)
          clear hw7 hT hc S1
          have FIN : Aside (∀ (d2 d3 : Array α) (w' : World), PermIn a ((a + b) / 2) d1 d2 → SortedIn (ltOf cf) a ((a + b) / 2) d2 → PermIn ((a + b) / 2) b d2 d3 → SortedIn (ltOf cf) ((a + b) / 2) b d3 → SWK enc k w0 blk off d3 w' → MainPost enc k w0 blk off cf a b d w') := fun d2 d3 w' h3 h4 h5 h6 h7 => by
            obtain ⟨q1, q2⟩ := halves_sorted (lt := ltOf cf) (by omega) (by omega) (by have := HZ1.out; omega) PT.out.apart h3 h4 h5 h6
            exact ⟨d3, permIn_trans _ _ _ _ _ HP0.out q2, q1, h7⟩
          by_cases g1 : a < s
          · have g1z : (a : Int) < (s : Int) := by omega
            by_cases g2 : s < (a + b) / 2
            · have g2z : (s : Int) < ((a : Int) + (b : Int)) / 2 := by omega
              have hc := ih a s ((a + b) / 2) d1 w7 (by omega) HZ1.out S7.out g1 g2 (by have := HZ1.out; omega) PT.out.p1 PT.out.p2
              rw [show (((a + b) / 2 : Nat) : Int) = ((a : Int) + (b : Int)) / 2 by omega] at hc
              go_wp2_with fail
              go_at_fn 168
              refine hc.mono ?_
              rintro e w8 ⟨rfl, d2, hp1, hs1, hw8⟩
              have S8 : Aside _ := hw8
              have HP1 := Lib.hid hp1
              have HS1 := Lib.hid hs1
              have HZ2 := Lib.hid (hp1.1.trans HZ1.out)
              clear hw8 hp1 hs1 hc
              by_cases f1 : (a + b) / 2 < ((a + b) / 2 + m - s)
              · have f1z : ((a : Int) + (b : Int)) / 2 < (((a : Int) + (b : Int)) / 2 + (m : Int) - (s : Int)) := by omega
                by_cases f2 : ((a + b) / 2 + m - s) < b
                · have f2z : (((a : Int) + (b : Int)) / 2 + (m : Int) - (s : Int)) < (b : Int) := by omega
                  have hc := ih ((a + b) / 2) ((a + b) / 2 + m - s) b d2 w8 (by omega) HZ2.out S8.out f1 f2 (by have := HZ2.out; omega) (sorted_same PT.out.p3 fun x h3 h4 => HP1.out.2.1 x (Or.inr h3)) (sorted_same PT.out.p4 fun x h3 h4 => HP1.out.2.1 x (Or.inr (by omega)))
                  rw [show (((a + b) / 2 : Nat) : Int) = ((a : Int) + (b : Int)) / 2 by omega, show ((((a + b) / 2 + m - s) : Nat) : Int) = (((a : Int) + (b : Int)) / 2 + (m : Int) - (s : Int)) by omega] at hc
                  go_wp2_with (go_at_fn 168; refine hc.mono ?_; rintro e w9 ⟨rfl, d3, hp3, hs3, hw9⟩; have S9 : Aside _ := hw9; have HP3 := Lib.hid hp3; have HS3 := Lib.hid hs3; clear hw9 hp3 hs3)
                  all_goals (first | go_end0 | go_ret | ((try simp only [Exit.inBlock, Exit.then]); refine bodyPost_ret (results_none rfl _ _ _) rfl ?_))
                  all_goals exact ⟨rfl, FIN.out d2 d3 _ HP1.out HS1.out HP3.out HS3.out S9.out⟩
                · have f2z : ¬ (((a : Int) + (b : Int)) / 2 + (m : Int) - (s : Int)) < (b : Int) := by omega
                  have HS3 := Lib.hid (sorted_one (lt := ltOf cf) (a := (a + b) / 2) (m := ((a + b) / 2 + m - s)) (b := b) (d := d2) (sorted_same PT.out.p3 fun x h3 h4 => HP1.out.2.1 x (Or.inr h3)) (sorted_same PT.out.p4 fun x h3 h4 => HP1.out.2.1 x (Or.inr (by omega))) (by omega) (by omega) (by omega))
                  go_wp2
                  all_goals (first | go_end0 | go_ret | ((try simp only [Exit.inBlock, Exit.then]); refine bodyPost_ret (results_none rfl _ _ _) rfl ?_))
                  all_goals exact ⟨rfl, FIN.out d2 d2 _ HP1.out HS1.out (permIn_refl _ _ _) HS3.out S8.out⟩
              · have f1z : ¬ ((a : Int) + (b : Int)) / 2 < (((a : Int) + (b : Int)) / 2 + (m : Int) - (s : Int)) := by omega
                have HS3 := Lib.hid (sorted_one (lt := ltOf cf) (a := (a + b) / 2) (m := ((a + b) / 2 + m - s)) (b := b) (d := d2) (sorted_same PT.out.p3 fun x h3 h4 => HP1.out.2.1 x (Or.inr h3)) (sorted_same PT.out.p4 fun x h3 h4 => HP1.out.2.1 x (Or.inr (by omega))) (by omega) (by omega) (by omega))
                go_wp2
                all_goals (first | go_end0 | go_ret | ((try simp only [Exit.inBlock, Exit.then]); refine bodyPost_ret (results_none rfl _ _ _) rfl ?_))
                all_goals exact ⟨rfl, FIN.out d2 d2 _ HP1.out HS1.out (permIn_refl _ _ _) HS3.out S8.out⟩
            · have g2z : ¬ (s : Int) < ((a : Int) + (b : Int)) / 2 := by omega
              have HP1 := Lib.hid (permIn_refl d1 a ((a + b) / 2))
              have HS1 := Lib.hid (sorted_one (lt := ltOf cf) PT.out.p1 PT.out.p2 (by omega) (by omega) (by omega))
              have HZ2 := Lib.hid HZ1.out
              by_cases f1 : (a + b) / 2 < ((a + b) / 2 + m - s)
              · have f1z : ((a : Int) + (b : Int)) / 2 < (((a : Int) + (b : Int)) / 2 + (m : Int) - (s : Int)) := by omega
                by_cases f2 : ((a + b) / 2 + m - s) < b
                · have f2z : (((a : Int) + (b : Int)) / 2 + (m : Int) - (s : Int)) < (b : Int) := by omega
                  have hc := ih ((a + b) / 2) ((a + b) / 2 + m - s) b d1 w7 (by omega) HZ2.out S7.out f1 f2 (by have := HZ2.out; omega) (sorted_same PT.out.p3 fun x h3 h4 => HP1.out.2.1 x (Or.inr h3)) (sorted_same PT.out.p4 fun x h3 h4 => HP1.out.2.1 x (Or.inr (by omega)))
                  rw [show (((a + b) / 2 : Nat) : Int) = ((a : Int) + (b : Int)) / 2 by omega, show ((((a + b) / 2 + m - s) : Nat) : Int) = (((a : Int) + (b : Int)) / 2 + (m : Int) - (s : Int)) by omega] at hc
                  go_wp2_with (go_at_fn 168; refine hc.mono ?_; rintro e w9 ⟨rfl, d3, hp3, hs3, hw9⟩; have S9 : Aside _ := hw9; have HP3 := Lib.hid hp3; have HS3 := Lib.hid hs3; clear hw9 hp3 hs3)
                  all_goals (first | go_end0 | go_ret | ((try simp only [Exit.inBlock, Exit.then]); refine bodyPost_ret (results_none rfl _ _ _) rfl ?_))
                  all_goals exact ⟨rfl, FIN.out d1 d3 _ HP1.out HS1.out HP3.out HS3.out S9.out⟩
                · have f2z : ¬ (((a : Int) + (b : Int)) / 2 + (m : Int) - (s : Int)) < (b : Int) := by omega
                  have HS3 := Lib.hid (sorted_one (lt := ltOf cf) (a := (a + b) / 2) (m := ((a + b) / 2 + m - s)) (b := b) (d := d1) (sorted_same PT.out.p3 fun x h3 h4 => HP1.out.2.1 x (Or.inr h3)) (sorted_same PT.out.p4 fun x h3 h4 => HP1.out.2.1 x (Or.inr (by omega))) (by omega) (by omega) (by omega))
                  go_wp2
                  all_goals (first | go_end0 | go_ret | ((try simp only [Exit.inBlock, Exit.then]); refine bodyPost_ret (results_none rfl _ _ _) rfl ?_))
                  all_goals exact ⟨rfl, FIN.out d1 d1 _ HP1.out HS1.out (permIn_refl _ _ _) HS3.out S7.out⟩
              · have f1z : ¬ ((a : Int) + (b : Int)) / 2 < (((a : Int) + (b : Int)) / 2 + (m : Int) - (s : Int)) := by omega
                have HS3 := Lib.hid (sorted_one (lt := ltOf cf) (a := (a + b) / 2) (m := ((a + b) / 2 + m - s)) (b := b) (d := d1) (sorted_same PT.out.p3 fun x h3 h4 => HP1.out.2.1 x (Or.inr h3)) (sorted_same PT.out.p4 fun x h3 h4 => HP1.out.2.1 x (Or.inr (by omega))) (by omega) (by omega) (by omega))
                go_wp2
                all_goals (first | go_end0 | go_ret | ((try simp only [Exit.inBlock, Exit.then]); refine bodyPost_ret (results_none rfl _ _ _) rfl ?_))
                all_goals exact ⟨rfl, FIN.out d1 d1 _ HP1.out HS1.out (permIn_refl _ _ _) HS3.out S7.out⟩
          · have g1z : ¬ (a : Int) < (s : Int) := by omega
            have HP1 := Lib.hid (permIn_refl d1 a ((a + b) / 2))
            have HS1 := Lib.hid (sorted_one (lt := ltOf cf) PT.out.p1 PT.out.p2 (by omega) (by omega) (by omega))
            have HZ2 := Lib.hid HZ1.out
            by_cases f1 : (a + b) / 2 < ((a + b) / 2 + m - s)
            · have f1z : ((a : Int) + (b : Int)) / 2 < (((a : Int) + (b : Int)) / 2 + (m : Int) - (s : Int)) := by omega
              by_cases f2 : ((a + b) / 2 + m - s) < b
              · have f2z : (((a : Int) + (b : Int)) / 2 + (m : Int) - (s : Int)) < (b : Int) := by omega
                have hc := ih ((a + b) / 2) ((a + b) / 2 + m - s) b d1 w7 (by omega) HZ2.out S7.out f1 f2 (by have := HZ2.out; omega) (sorted_same PT.out.p3 fun x h3 h4 => HP1.out.2.1 x (Or.inr h3)) (sorted_same PT.out.p4 fun x h3 h4 => HP1.out.2.1 x (Or.inr (by omega)))
                rw [show (((a + b) / 2 : Nat) : Int) = ((a : Int) + (b : Int)) / 2 by omega, show ((((a + b) / 2 + m - s) : Nat) : Int) = (((a : Int) + (b : Int)) / 2 + (m : Int) - (s : Int)) by omega] at hc
                go_wp2_with (go_at_fn 168; refine hc.mono ?_; rintro e w9 ⟨rfl, d3, hp3, hs3, hw9⟩; have S9 : Aside _ := hw9; have HP3 := Lib.hid hp3; have HS3 := Lib.hid hs3; clear hw9 hp3 hs3)
                all_goals (first | go_end0 | go_ret | ((try simp only [Exit.inBlock, Exit.then]); refine bodyPost_ret (results_none rfl _ _ _) rfl ?_))
                all_goals exact ⟨rfl, FIN.out d1 d3 _ HP1.out HS1.out HP3.out HS3.out S9.out⟩
              · have f2z : ¬ (((a : Int) + (b : Int)) / 2 + (m : Int) - (s : Int)) < (b : Int) := by omega
                have HS3 := Lib.hid (sorted_one (lt := ltOf cf) (a := (a + b) / 2) (m := ((a + b) / 2 + m - s)) (b := b) (d := d1) (sorted_same PT.out.p3 fun x h3 h4 => HP1.out.2.1 x (Or.inr h3)) (sorted_same PT.out.p4 fun x h3 h4 => HP1.out.2.1 x (Or.inr (by omega))) (by omega) (by omega) (by omega))
                go_wp2
                all_goals (first | go_end0 | go_ret | ((try simp only [Exit.inBlock, Exit.then]); refine bodyPost_ret (results_none rfl _ _ _) rfl ?_))
                all_goals exact ⟨rfl, FIN.out d1 d1 _ HP1.out HS1.out (permIn_refl _ _ _) HS3.out S7.out⟩
            · have f1z : ¬ ((a : Int) + (b : Int)) / 2 < (((a : Int) + (b : Int)) / 2 + (m : Int) - (s : Int)) := by omega
              have HS3 := Lib.hid (sorted_one (lt := ltOf cf) (a := (a + b) / 2) (m := ((a + b) / 2 + m - s)) (b := b) (d := d1) (sorted_same PT.out.p3 fun x h3 h4 => HP1.out.2.1 x (Or.inr h3)) (sorted_same PT.out.p4 fun x h3 h4 => HP1.out.2.1 x (Or.inr (by omega))) (by omega) (by omega) (by omega))
              go_wp2
              all_goals (first | go_end0 | go_ret | ((try simp only [Exit.inBlock, Exit.then]); refine bodyPost_ret (results_none rfl _ _ _) rfl ?_))
              all_goals exact ⟨rfl, FIN.out d1 d1 _ HP1.out HS1.out (permIn_refl _ _ _) HS3.out S7.out⟩
        · have r2z : ¬ (m : Int) < (((a : Int) + (b : Int)) / 2 + (m : Int) - (s : Int)) := by omega
          have PT := Lib.hid (parts_of hO H1.out H2.out ham hmb HH.out (fun p => (rot_none d s m ((a + b) / 2 + m - s) p (by omega) (by omega) (by omega)).symm))
          have HZ1 := Lib.hid (show d.size = d0.size from hs.symm)
          have FIN : Aside (∀ (d2 d3 : Array α) (w' : World), PermIn a ((a + b) / 2) d d2 → SortedIn (ltOf cf) a ((a + b) / 2) d2 → PermIn ((a + b) / 2) b d2 d3 → SortedIn (ltOf cf) ((a + b) / 2) b d3 → SWK enc k w0 blk off d3 w' → MainPost enc k w0 blk off cf a b d w') := fun d2 d3 w' h3 h4 h5 h6 h7 => by
            obtain ⟨q1, q2⟩ := halves_sorted (lt := ltOf cf) (by omega) (by omega) (by have := HZ1.out; omega) PT.out.apart h3 h4 h5 h6
            exact ⟨d3, permIn_trans _ _ _ _ _ (permIn_refl d a b) q2, q1, h7⟩
          by_cases g1 : a < s
          · have g1z : (a : Int) < (s : Int) := by omega
            by_cases g2 : s < (a + b) / 2
            · have g2z : (s : Int) < ((a : Int) + (b : Int)) / 2 := by omega
              have hc := ih a s ((a + b) / 2) d wr (by omega) HZ1.out S1.out g1 g2 (by have := HZ1.out; omega) PT.out.p1 PT.out.p2
              rw [show (((a + b) / 2 : Nat) : Int) = ((a : Int) + (b : Int)) / 2 by omega] at hc
              go_wp2_with fail
              go_at_fn 168
              refine hc.mono ?_
              rintro e w8 ⟨rfl, d2, hp1, hs1, hw8⟩
              have S8 : Aside _ := hw8
              have HP1 := Lib.hid hp1
              have HS1 := Lib.hid hs1
              have HZ2 := Lib.hid (hp1.1.trans HZ1.out)
              clear hw8 hp1 hs1 hc
              by_cases f1 : (a + b) / 2 < ((a + b) / 2 + m - s)
              · have f1z : ((a : Int) + (b : Int)) / 2 < (((a : Int) + (b : Int)) / 2 + (m : Int) - (s : Int)) := by omega
                by_cases f2 : ((a + b) / 2 + m - s) < b
                · have f2z : (((a : Int) + (b : Int)) / 2 + (m : Int) - (s : Int)) < (b : Int) := by omega
                  have hc := ih ((a + b) / 2) ((a + b) / 2 + m - s) b d2 w8 (by omega) HZ2.out S8.out f1 f2 (by have := HZ2.out; omega) (sorted_same PT.out.p3 fun x h3 h4 => HP1.out.2.1 x (Or.inr h3)) (sorted_same PT.out.p4 fun x h3 h4 => HP1.out.2.1 x (Or.inr (by omega)))
                  rw [show (((a + b) / 2 : Nat) : Int) = ((a : Int) + (b : Int)) / 2 by omega, show ((((a + b) / 2 + m - s) : Nat) : Int) = (((a : Int) + (b : Int)) / 2 + (m : Int) - (s : Int)) by omega] at hc
                  go_wp2_with (go_at_fn 168; refine hc.mono ?_; rintro e w9 ⟨rfl, d3, hp3, hs3, hw9⟩; have S9 : Aside _ := hw9; have HP3 := Lib.hid hp3; have HS3 := Lib.hid hs3; clear hw9 hp3 hs3)
                  all_goals (first | go_end0 | go_ret | ((try simp only [Exit.inBlock, Exit.then]); refine bodyPost_ret (results_none rfl _ _ _) rfl ?_))
                  all_goals exact ⟨rfl, FIN.out d2 d3 _ HP1.out HS1.out HP3.out HS3.out S9.out⟩
                · have f2z : ¬ (((a : Int) + (b : Int)) / 2 + (m : Int) - (s : Int)) < (b : Int) := by omega
                  have HS3 := Lib.hid (sorted_one (lt := ltOf cf) (a := (a + b) / 2) (m := ((a + b) / 2 + m - s)) (b := b) (d := d2) (sorted_same PT.out.p3 fun x h3 h4 => HP1.out.2.1 x (Or.inr h3)) (sorted_same PT.out.p4 fun x h3 h4 => HP1.out.2.1 x (Or.inr (by omega))) (by omega) (by omega) (by omega))
                  go_wp2
                  all_goals (first | go_end0 | go_ret | ((try simp only [Exit.inBlock, Exit.then]); refine bodyPost_ret (results_none rfl _ _ _) rfl ?_))
                  all_goals exact ⟨rfl, FIN.out d2 d2 _ HP1.out HS1.out (permIn_refl _ _ _) HS3.out S8.out⟩
              · have f1z : ¬ ((a : Int) + (b : Int)) / 2 < (((a : Int) + (b : Int)) / 2 + (m : Int) - (s : Int)) := by omega
                have HS3 := Lib.hid (sorted_one (lt := ltOf cf) (a := (a + b) / 2) (m := ((a + b) / 2 + m - s)) (b := b) (d := d2) (sorted_same PT.out.p3 fun x h3 h4 => HP1.out.2.1 x (Or.inr h3)) (sorted_same PT.out.p4 fun x h3 h4 => HP1.out.2.1 x (Or.inr (by omega))) (by omega) (by omega) (by omega))
                go_wp2
                all_goals (first | go_end0 | go_ret | ((try simp only [Exit.inBlock, Exit.then]); refine bodyPost_ret (results_none rfl _ _ _) rfl ?_))
                all_goals exact ⟨rfl, FIN.out d2 d2 _ HP1.out HS1.out (permIn_refl _ _ _) HS3.out S8.out⟩
            · have g2z : ¬ (s : Int) < ((a : Int) + (b : Int)) / 2 := by omega
              have HP1 := Lib.hid (permIn_refl d a ((a + b) / 2))
              have HS1 := Lib.hid (sorted_one (lt := ltOf cf) PT.out.p1 PT.out.p2 (by omega) (by omega) (by omega))
              have HZ2 := Lib.hid HZ1.out
              by_cases f1 : (a + b) / 2 < ((a + b) / 2 + m - s)
              · have f1z : ((a : Int) + (b : Int)) / 2 < (((a : Int) + (b : Int)) / 2 + (m : Int) - (s : Int)) := by omega
                by_cases f2 : ((a + b) / 2 + m - s) < b
                · have f2z : (((a : Int) + (b : Int)) / 2 + (m : Int) - (s : Int)) < (b : Int) := by omega
                  have hc := ih ((a + b) / 2) ((a + b) / 2 + m - s) b d wr (by omega) HZ2.out S1.out f1 f2 (by have := HZ2.out; omega) (sorted_same PT.out.p3 fun x h3 h4 => HP1.out.2.1 x (Or.inr h3)) (sorted_same PT.out.p4 fun x h3 h4 => HP1.out.2.1 x (Or.inr (by omega)))
                  rw [show (((a + b) / 2 : Nat) : Int) = ((a : Int) + (b : Int)) / 2 by omega, show ((((a + b) / 2 + m - s) : Nat) : Int) = (((a : Int) + (b : Int)) / 2 + (m : Int) - (s : Int)) by omega] at hc
                  go_wp2_with (go_at_fn 168; refine hc.mono ?_; rintro e w9 ⟨rfl, d3, hp3, hs3, hw9⟩; have S9 : Aside _ := hw9; have HP3 := Lib.hid hp3; have HS3 := Lib.hid hs3; clear hw9 hp3 hs3)
                  all_goals (first | go_end0 | go_ret | ((try simp only [Exit.inBlock, Exit.then]); refine bodyPost_ret (results_none rfl _ _ _) rfl ?_))
                  all_goals exact ⟨rfl, FIN.out d d3 _ HP1.out HS1.out HP3.out HS3.out S9.out⟩
                · have f2z : ¬ (((a : Int) + (b : Int)) / 2 + (m : Int) - (s : Int)) < (b : Int) := by omega
                  have HS3 := Lib.hid (sorted_one (lt := ltOf cf) (a := (a + b) / 2) (m := ((a + b) / 2 + m - s)) (b := b) (d := d) (sorted_same PT.out.p3 fun x h3 h4 => HP1.out.2.1 x (Or.inr h3)) (sorted_same PT.out.p4 fun x h3 h4 => HP1.out.2.1 x (Or.inr (by omega))) (by omega) (by omega) (by omega))
                  go_wp2
                  all_goals (first | go_end0 | go_ret | ((try simp only [Exit.inBlock, Exit.then]); refine bodyPost_ret (results_none rfl _ _ _) rfl ?_))
                  all_goals exact ⟨rfl, FIN.out d d _ HP1.out HS1.out (permIn_refl _ _ _) HS3.out S1.out⟩
              · have f1z : ¬ ((a : Int) + (b : Int)) / 2 < (((a : Int) + (b : Int)) / 2 + (m : Int) - (s : Int)) := by omega
                have HS3 := Lib.hid (sorted_one (lt := ltOf cf) (a := (a + b) / 2) (m := ((a + b) / 2 + m - s)) (b := b) (d := d) (sorted_same PT.out.p3 fun x h3 h4 => HP1.out.2.1 x (Or.inr h3)) (sorted_same PT.out.p4 fun x h3 h4 => HP1.out.2.1 x (Or.inr (by omega))) (by omega) (by omega) (by omega))
                go_wp2
                all_goals (first | go_end0 | go_ret | ((try simp only [Exit.inBlock, Exit.then]); refine bodyPost_ret (results_none rfl _ _ _) rfl ?_))
                all_goals exact ⟨rfl, FIN.out d d _ HP1.out HS1.out (permIn_refl _ _ _) HS3.out S1.out⟩
          · have g1z : ¬ (a : Int) < (s : Int) := by omega
            have HP1 := Lib.hid (permIn_refl d a ((a + b) / 2))
            have HS1 := Lib.hid (sorted_one (lt := ltOf cf) PT.out.p1 PT.out.p2 (by omega) (by omega) (by omega))
            have HZ2 := Lib.hid HZ1.out
            by_cases f1 : (a + b) / 2 < ((a + b) / 2 + m - s)
            · have f1z : ((a : Int) + (b : Int)) / 2 < (((a : Int) + (b : Int)) / 2 + (m : Int) - (s : Int)) := by omega
              by_cases f2 : ((a + b) / 2 + m - s) < b
              · have f2z : (((a : Int) + (b : Int)) / 2 + (m : Int) - (s : Int)) < (b : Int) := by omega
                have hc := ih ((a + b) / 2) ((a + b) / 2 + m - s) b d wr (by omega) HZ2.out S1.out f1 f2 (by have := HZ2.out; omega) (sorted_same PT.out.p3 fun x h3 h4 => HP1.out.2.1 x (Or.inr h3)) (sorted_same PT.out.p4 fun x h3 h4 => HP1.out.2.1 x (Or.inr (by omega)))
                rw [show (((a + b) / 2 : Nat) : Int) = ((a : Int) + (b : Int)) / 2 by omega, show ((((a + b) / 2 + m - s) : Nat) : Int) = (((a : Int) + (b : Int)) / 2 + (m : Int) - (s : Int)) by omega] at hc
                go_wp2_with (go_at_fn 168; refine hc.mono ?_; rintro e w9 ⟨rfl, d3, hp3, hs3, hw9⟩; have S9 : Aside _ := hw9; have HP3 := Lib.hid hp3; have HS3 := Lib.hid hs3; clear hw9 hp3 hs3)
                all_goals (first | go_end0 | go_ret | ((try simp only [Exit.inBlock, Exit.then]); refine bodyPost_ret (results_none rfl _ _ _) rfl ?_))
                all_goals exact ⟨rfl, FIN.out d d3 _ HP1.out HS1.out HP3.out HS3.out S9.out⟩
              · have f2z : ¬ (((a : Int) + (b : Int)) / 2 + (m : Int) - (s : Int)) < (b : Int) := by omega
                have HS3 := Lib.hid (sorted_one (lt := ltOf cf) (a := (a + b) / 2) (m := ((a + b) / 2 + m - s)) (b := b) (d := d) (sorted_same PT.out.p3 fun x h3 h4 => HP1.out.2.1 x (Or.inr h3)) (sorted_same PT.out.p4 fun x h3 h4 => HP1.out.2.1 x (Or.inr (by omega))) (by omega) (by omega) (by omega))
                go_wp2
                all_goals (first | go_end0 | go_ret | ((try simp only [Exit.inBlock, Exit.then]); refine bodyPost_ret (results_none rfl _ _ _) rfl ?_))
                all_goals exact ⟨rfl, FIN.out d d _ HP1.out HS1.out (permIn_refl _ _ _) HS3.out S1.out⟩
            · have f1z : ¬ ((a : Int) + (b : Int)) / 2 < (((a : Int) + (b : Int)) / 2 + (m : Int) - (s : Int)) := by omega
              have HS3 := Lib.hid (sorted_one (lt := ltOf cf) (a := (a + b) / 2) (m := ((a + b) / 2 + m - s)) (b := b) (d := d) (sorted_same PT.out.p3 fun x h3 h4 => HP1.out.2.1 x (Or.inr h3)) (sorted_same PT.out.p4 fun x h3 h4 => HP1.out.2.1 x (Or.inr (by omega))) (by omega) (by omega) (by omega))
              go_wp2
              all_goals (first | go_end0 | go_ret | ((try simp only [Exit.inBlock, Exit.then]); refine bodyPost_ret (results_none rfl _ _ _) rfl ?_))
              all_goals exact ⟨rfl, FIN.out d d _ HP1.out HS1.out (permIn_refl _ _ _) HS3.out S1.out⟩
      · have r1z : ¬ (s : Int) < (m : Int) := by omega
        have PT := Lib.hid (parts_of hO H1.out H2.out ham hmb HH.out (fun p => (rot_none d s m ((a + b) / 2 + m - s) p (by omega) (by omega) (by omega)).symm))
        have HZ1 := Lib.hid (show d.size = d0.size from hs.symm)
        have FIN : Aside (∀ (d2 d3 : Array α) (w' : World), PermIn a ((a + b) / 2) d d2 → SortedIn (ltOf cf) a ((a + b) / 2) d2 → PermIn ((a + b) / 2) b d2 d3 → SortedIn (ltOf cf) ((a + b) / 2) b d3 → SWK enc k w0 blk off d3 w' → MainPost enc k w0 blk off cf a b d w') := fun d2 d3 w' h3 h4 h5 h6 h7 => by
          obtain ⟨q1, q2⟩ := halves_sorted (lt := ltOf cf) (by omega) (by omega) (by have := HZ1.out; omega) PT.out.apart h3 h4 h5 h6
          exact ⟨d3, permIn_trans _ _ _ _ _ (permIn_refl d a b) q2, q1, h7⟩
        by_cases g1 : a < s
        · have g1z : (a : Int) < (s : Int) := by omega
          by_cases g2 : s < (a + b) / 2
          · have g2z : (s : Int) < ((a : Int) + (b : Int)) / 2 := by omega
            have hc := ih a s ((a + b) / 2) d wr (by omega) HZ1.out S1.out g1 g2 (by have := HZ1.out; omega) PT.out.p1 PT.out.p2
            rw [show (((a + b) / 2 : Nat) : Int) = ((a : Int) + (b : Int)) / 2 by omega] at hc
            go_wp2_with fail
            go_at_fn 168
            refine hc.mono ?_
            rintro e w8 ⟨rfl, d2, hp1, hs1, hw8⟩
            have S8 : Aside _ := hw8
            have HP1 := Lib.hid hp1
            have HS1 := Lib.hid hs1
            have HZ2 := Lib.hid (hp1.1.trans HZ1.out)
            clear hw8 hp1 hs1 hc
            by_cases f1 : (a + b) / 2 < ((a + b) / 2 + m - s)
            · have f1z : ((a : Int) + (b : Int)) / 2 < (((a : Int) + (b : Int)) / 2 + (m : Int) - (s : Int)) := by omega
              by_cases f2 : ((a + b) / 2 + m - s) < b
              · have f2z : (((a : Int) + (b : Int)) / 2 + (m : Int) - (s : Int)) < (b : Int) := by omega
                have hc := ih ((a + b) / 2) ((a + b) / 2 + m - s) b d2 w8 (by omega) HZ2.out S8.out f1 f2 (by have := HZ2.out; omega) (sorted_same PT.out.p3 fun x h3 h4 => HP1.out.2.1 x (Or.inr h3)) (sorted_same PT.out.p4 fun x h3 h4 => HP1.out.2.1 x (Or.inr (by omega)))
                rw [show (((a + b) / 2 : Nat) : Int) = ((a : Int) + (b : Int)) / 2 by omega, show ((((a + b) / 2 + m - s) : Nat) : Int) = (((a : Int) + (b : Int)) / 2 + (m : Int) - (s : Int)) by omega] at hc
                go_wp2_with (go_at_fn 168; refine hc.mono ?_; rintro e w9 ⟨rfl, d3, hp3, hs3, hw9⟩; have S9 : Aside _ := hw9; have HP3 := Lib.hid hp3; have HS3 := Lib.hid hs3; clear hw9 hp3 hs3)
                all_goals (first | go_end0 | go_ret | ((try simp only [Exit.inBlock, Exit.then]); refine bodyPost_ret (results_none rfl _ _ _) rfl ?_))
                all_goals exact ⟨rfl, FIN.out d2 d3 _ HP1.out HS1.out HP3.out HS3.out S9.out⟩
              · have f2z : ¬ (((a : Int) + (b : Int)) / 2 + (m : Int) - (s : Int)) < (b : Int) := by omega
                have HS3 := Lib.hid (sorted_one (lt := ltOf cf) (a := (a + b) / 2) (m := ((a + b) / 2 + m - s)) (b := b) (d := d2) (sorted_same PT.out.p3 fun x h3 h4 => HP1.out.2.1 x (Or.inr h3)) (sorted_same PT.out.p4 fun x h3 h4 => HP1.out.2.1 x (Or.inr (by omega))) (by omega) (by omega) (by omega))
                go_wp2
                all_goals (first | go_end0 | go_ret | ((try simp only [Exit.inBlock, Exit.then]); refine bodyPost_ret (results_none rfl _ _ _) rfl ?_))
                all_goals exact ⟨rfl, FIN.out d2 d2 _ HP1.out HS1.out (permIn_refl _ _ _) HS3.out S8.out⟩
            · have f1z : ¬ ((a : Int) + (b : Int)) / 2 < (((a : Int) + (b : Int)) / 2 + (m : Int) - (s : Int)) := by omega
              have HS3 := Lib.hid (sorted_one (lt := ltOf cf) (a := (a + b) / 2) (m := ((a + b) / 2 + m - s)) (b := b) (d := d2) (sorted_same PT.out.p3 fun x h3 h4 => HP1.out.2.1 x (Or.inr h3)) (sorted_same PT.out.p4 fun x h3 h4 => HP1.out.2.1 x (Or.inr (by omega))) (by omega) (by omega) (by omega))
              go_wp2
              all_goals (first | go_end0 | go_ret | ((try simp only [Exit.inBlock, Exit.then]); refine bodyPost_ret (results_none rfl _ _ _) rfl ?_))
              all_goals exact ⟨rfl, FIN.out d2 d2 _ HP1.out HS1.out (permIn_refl _ _ _) HS3.out S8.out⟩
          · have g2z : ¬ (s : Int) < ((a : Int) + (b : Int)) / 2 := by omega
            have HP1 := Lib.hid (permIn_refl d a ((a + b) / 2))
            have HS1 := Lib.hid (sorted_one (lt := ltOf cf) PT.out.p1 PT.out.p2 (by omega) (by omega) (by omega))
            have HZ2 := Lib.hid HZ1.out
            by_cases f1 : (a + b) / 2 < ((a + b) / 2 + m - s)
            · have f1z : ((a : Int) + (b : Int)) / 2 < (((a : Int) + (b : Int)) / 2 + (m : Int) - (s : Int)) := by omega
              by_cases f2 : ((a + b) / 2 + m - s) < b
              · have f2z : (((a : Int) + (b : Int)) / 2 + (m : Int) - (s : Int)) < (b : Int) := by omega
                have hc := ih ((a + b) / 2) ((a + b) / 2 + m - s) b d wr (by omega) HZ2.out S1.out f1 f2 (by have := HZ2.out; omega) (sorted_same PT.out.p3 fun x h3 h4 => HP1.out.2.1 x (Or.inr h3)) (sorted_same PT.out.p4 fun x h3 h4 => HP1.out.2.1 x (Or.inr (by omega)))
                rw [show (((a + b) / 2 : Nat) : Int) = ((a : Int) + (b : Int)) / 2 by omega, show ((((a + b) / 2 + m - s) : Nat) : Int) = (((a : Int) + (b : Int)) / 2 + (m : Int) - (s : Int)) by omega] at hc
                go_wp2_with (go_at_fn 168; refine hc.mono ?_; rintro e w9 ⟨rfl, d3, hp3, hs3, hw9⟩; have S9 : Aside _ := hw9; have HP3 := Lib.hid hp3; have HS3 := Lib.hid hs3; clear hw9 hp3 hs3)
                all_goals (first | go_end0 | go_ret | ((try simp only [Exit.inBlock, Exit.then]); refine bodyPost_ret (results_none rfl _ _ _) rfl ?_))
                all_goals exact ⟨rfl, FIN.out d d3 _ HP1.out HS1.out HP3.out HS3.out S9.out⟩
              · have f2z : ¬ (((a : Int) + (b : Int)) / 2 + (m : Int) - (s : Int)) < (b : Int) := by omega
                have HS3 := Lib.hid (sorted_one (lt := ltOf cf) (a := (a + b) / 2) (m := ((a + b) / 2 + m - s)) (b := b) (d := d) (sorted_same PT.out.p3 fun x h3 h4 => HP1.out.2.1 x (Or.inr h3)) (sorted_same PT.out.p4 fun x h3 h4 => HP1.out.2.1 x (Or.inr (by omega))) (by omega) (by omega) (by omega))
                go_wp2
                all_goals (first | go_end0 | go_ret | ((try simp only [Exit.inBlock, Exit.then]); refine bodyPost_ret (results_none rfl _ _ _) rfl ?_))
                all_goals exact ⟨rfl, FIN.out d d _ HP1.out HS1.out (permIn_refl _ _ _) HS3.out S1.out⟩
            · have f1z : ¬ ((a : Int) + (b : Int)) / 2 < (((a : Int) + (b : Int)) / 2 + (m : Int) - (s : Int)) := by omega
              have HS3 := Lib.hid (sorted_one (lt := ltOf cf) (a := (a + b) / 2) (m := ((a + b) / 2 + m - s)) (b := b) (d := d) (sorted_same PT.out.p3 fun x h3 h4 => HP1.out.2.1 x (Or.inr h3)) (sorted_same PT.out.p4 fun x h3 h4 => HP1.out.2.1 x (Or.inr (by omega))) (by omega) (by omega) (by omega))
              go_wp2
              all_goals (first | go_end0 | go_ret | ((try simp only [Exit.inBlock, Exit.then]); refine bodyPost_ret (results_none rfl _ _ _) rfl ?_))
              all_goals exact ⟨rfl, FIN.out d d _ HP1.out HS1.out (permIn_refl _ _ _) HS3.out S1.out⟩
        · have g1z : ¬ (a : Int) < (s : Int) := by omega
          have HP1 := Lib.hid (permIn_refl d a ((a + b) / 2))
          have HS1 := Lib.hid (sorted_one (lt := ltOf cf) PT.out.p1 PT.out.p2 (by omega) (by omega) (by omega))
          have HZ2 := Lib.hid HZ1.out
          by_cases f1 : (a + b) / 2 < ((a + b) / 2 + m - s)
          · have f1z : ((a : Int) + (b : Int)) / 2 < (((a : Int) + (b : Int)) / 2 + (m : Int) - (s : Int)) := by omega
            by_cases f2 : ((a + b) / 2 + m - s) < b
            · have f2z : (((a : Int) + (b : Int)) / 2 + (m : Int) - (s : Int)) < (b : Int) := by omega
              have hc := ih ((a + b) / 2) ((a + b) / 2 + m - s) b d wr (by omega) HZ2.out S1.out f1 f2 (by have := HZ2.out; omega) (sorted_same PT.out.p3 fun x h3 h4 => HP1.out.2.1 x (Or.inr h3)) (sorted_same PT.out.p4 fun x h3 h4 => HP1.out.2.1 x (Or.inr (by omega)))
              rw [show (((a + b) / 2 : Nat) : Int) = ((a : Int) + (b : Int)) / 2 by omega, show ((((a + b) / 2 + m - s) : Nat) : Int) = (((a : Int) + (b : Int)) / 2 + (m : Int) - (s : Int)) by omega] at hc
              go_wp2_with (go_at_fn 168; refine hc.mono ?_; rintro e w9 ⟨rfl, d3, hp3, hs3, hw9⟩; have S9 : Aside _ := hw9; have HP3 := Lib.hid hp3; have HS3 := Lib.hid hs3; clear hw9 hp3 hs3)
              all_goals (first | go_end0 | go_ret | ((try simp only [Exit.inBlock, Exit.then]); refine bodyPost_ret (results_none rfl _ _ _) rfl ?_))
              all_goals exact ⟨rfl, FIN.out d d3 _ HP1.out HS1.out HP3.out HS3.out S9.out⟩
            · have f2z : ¬ (((a : Int) + (b : Int)) / 2 + (m : Int) - (s : Int)) < (b : Int) := by omega
              have HS3 := Lib.hid (sorted_one (lt := ltOf cf) (a := (a + b) / 2) (m := ((a + b) / 2 + m - s)) (b := b) (d := d) (sorted_same PT.out.p3 fun x h3 h4 => HP1.out.2.1 x (Or.inr h3)) (sorted_same PT.out.p4 fun x h3 h4 => HP1.out.2.1 x (Or.inr (by omega))) (by omega) (by omega) (by omega))
              go_wp2
              all_goals (first | go_end0 | go_ret | ((try simp only [Exit.inBlock, Exit.then]); refine bodyPost_ret (results_none rfl _ _ _) rfl ?_))
              all_goals exact ⟨rfl, FIN.out d d _ HP1.out HS1.out (permIn_refl _ _ _) HS3.out S1.out⟩
          · have f1z : ¬ ((a : Int) + (b : Int)) / 2 < (((a : Int) + (b : Int)) / 2 + (m : Int) - (s : Int)) := by omega
            have HS3 := Lib.hid (sorted_one (lt := ltOf cf) (a := (a + b) / 2) (m := ((a + b) / 2 + m - s)) (b := b) (d := d) (sorted_same PT.out.p3 fun x h3 h4 => HP1.out.2.1 x (Or.inr h3)) (sorted_same PT.out.p4 fun x h3 h4 => HP1.out.2.1 x (Or.inr (by omega))) (by omega) (by omega) (by omega))
            go_wp2
            all_goals (first | go_end0 | go_ret | ((try simp only [Exit.inBlock, Exit.then]); refine bodyPost_ret (results_none rfl _ _ _) rfl ?_))
            all_goals exact ⟨rfl, FIN.out d d _ HP1.out HS1.out (permIn_refl _ _ _) HS3.out S1.out⟩
end Go.Proofs.Ytphinkcfmdnpfaa
