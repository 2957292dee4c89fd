/-
  Walks: steps compared by where they begin; sorted by that.
-/
import Derived.Test.YtphinkcfmdnpfaaSymBs
import Derived.Test.YtphinkcfmdnpfaaShelfR
import Derived.Test.YtphinkcfmdnpfaaStepD
import Derived.Test.YtphinkcfmdnpfaaShelfQ
import Derived.Test.YtphinkcfmdnpfaaMeet
import Derived.StillTailTactics
namespace Go.Proofs.Ytphinkcfmdnpfaa
open Go.Shelf Go.RowKit Go.Lib Go.Sort
variable {P : Program} {α : Type} [Inhabited α] {k : Nat}

theorem sym_w_s (L : SortP_s P k) (enc : α → List Value) (cf : α → α → Int) (hO : SWO (ltOf cf)) (g : Nat) (cb : Array Value) (blk off cap : Nat) (d0 : Array α) (w0 : World) (eg : ∀ args w, (callFunc g args).run P w = .ok (.enter g args) w) (hcmp : CmpLays P g cb enc k cf blk off d0.size w0)
    (R : RowK enc k w0 blk off d0) (hsz : d0.size < 4611686018427387904) : ∀ (n a m b : Nat) (d : Array α) (w : World), b - a ≤ n → d.size = d0.size → SWK enc k w0 blk off d w → a < m → m < b → b ≤ d.size → SortedIn (ltOf cf) a m d → SortedIn (ltOf cf) m b d →
      Calls P 164 #[.slice (some ⟨blk, off, none⟩) d0.size cap, .int .i64 a, .int .i64 m, .int .i64 b, .func (.func g) #[] cb] w fun e w' => e = .returned (.tuple #[]) ∧ ∃ d', PermIn a b d d' ∧ SortedIn (ltOf cf) a b d' ∧ SWK enc k w0 blk off d' w'
  | 0, a, m, b, d, w, hn, _, _, h1, h2, _, _, _ => by omega
  | n + 1, a, m, b, d, w, hn, hd, S, h1, h2, h3, s1, s2 => by
    have hs : d0.size = d.size := hd.symm
    rw [hs]
    by_cases hf : m = a + 1
    · exact sym_first_s L enc cf hO g cb blk off cap a m b d0 d w0 w eg hcmp R hs S hf h2 h3 (by omega) s2
    · by_cases hl : b = m + 1
      · exact sym_last_s L enc cf hO g cb blk off cap a m b d0 d w0 w eg hcmp R hs S hl (by omega) h3 (by omega) s1
      · have ih : ∀ (a' m' b' : Nat) (d' : Array α) (w' : World), b' - a' < b - a → d'.size = d0.size → SWK enc k w0 blk off d' w' → a' < m' → m' < b' → b' ≤ d'.size → SortedIn (ltOf cf) a' m' d' → SortedIn (ltOf cf) m' b' d' →
            Calls P 164 #[.slice (some ⟨blk, off, none⟩) d.size cap, .int .i64 a', .int .i64 m', .int .i64 b', .func (.func g) #[] cb] w' fun e w'' => e = .returned (.tuple #[]) ∧ ∃ d'', PermIn a' b' d' d'' ∧ SortedIn (ltOf cf) a' b' d'' ∧ SWK enc k w0 blk off d'' w'' := fun a' m' b' d' w' g1 g2 g3 g4 g5 g6 g7 g8 => by
          rw [← hs]
          exact sym_w_s L enc cf hO g cb blk off cap d0 w0 eg hcmp R hsz n a' m' b' d' w' (by omega) g2 g3 g4 g5 g6 g7 g8
        by_cases hm : (a + b) / 2 < m
        · exact sym_right_s L enc cf hO g cb blk off cap a m b d0 d w0 w eg hcmp R hs S (by omega) (by omega) h3 (by omega) s1 s2 hm ih
        · exact sym_left_s L enc cf hO g cb blk off cap a m b d0 d w0 w eg hcmp R hs S (by omega) (by omega) h3 (by omega) s1 s2 (by omega) ih

/-- What the sort does to a range: it puts it in order, and nothing else. -/
def Sorts1_s (P : Program) (f : Nat) (enc : α → List Value) (k : Nat) (cf : α → α → Int) (g : Nat) (cb : Array Value) (blk off cap : Nat) (d0 : Array α) (w0 : World) : Prop :=
  ∀ (a b : Nat) (d : Array α) (w : World), d.size = d0.size → SWK enc k w0 blk off d w → a ≤ b → b ≤ d.size →
    Calls P f #[.slice (some ⟨blk, off, none⟩) d0.size cap, .int .i64 a, .int .i64 b, .func (.func g) #[] cb] w fun e w' => e = .returned (.tuple #[]) ∧ ∃ d', PermIn a b d d' ∧ SortedIn (ltOf cf) a b d' ∧ SWK enc k w0 blk off d' w'

set_option maxHeartbeats 8000000 in
set_option maxRecDepth 1000000 in
theorem stable_w_s (L : SortP_s P k) (enc : α → List Value) (cf : α → α → Int) (hO : SWO (ltOf cf)) (g : Nat) (cb : Array Value) (blk off cap : Nat) (d : Array α) (w : World) (eg : ∀ args w, (callFunc g args).run P w = .ok (.enter g args) w) (hcmp : CmpLays P g cb enc k cf blk off d.size w)
    (R : RowK enc k w blk off d) (hI : Sorts1_s P 163 enc k cf g cb blk off cap d w) (hsz : d.size < 1152921504606846976) :
    Calls P 145 #[.slice (some ⟨blk, off, none⟩) d.size cap, .int .i64 d.size, .func (.func g) #[] cb] w fun e w' => e = .returned (.tuple #[]) ∧ ∃ d', PermIn 0 d.size d d' ∧ SortedIn (ltOf cf) 0 d.size d' ∧ SWK enc k w blk off d' w' := by
  have mixed := L.mixed; have t0 := L.t0.trans Try.underlying0; have a0 := L.a0; have z0 := L.z0; have v0 := L.v0; have t3 := L.t3.trans Try.underlying3; have a3 := L.a3; have z3 := L.z3; have v3 := L.v3; have t4 := L.t4.trans Try.underlying4; have a4 := L.a4; have z4 := L.z4; have v4 := L.v4; have t22 := L.t22.trans Try.underlying25; have a22 := L.a22; have z22 := L.z22; have v22 := L.v22; have t25 := L.t25.trans Try.underlying84; have a25 := L.a25; have z25 := L.z25; have v25 := L.v25; have t9 := L.t9.trans Try.underlying191; have a9 := L.a9; have z9 := L.z9; have v9 := L.v9; have aE := L.aE; have zE := L.zE
  have u0 := run_underlying t0; have u3 := run_underlying t3; have u4 := run_underlying t4; have u22 := run_underlying t22; have u25 := run_underlying t25; have u9 := run_underlying t9
  have FG := L.stable.trans Try.func145
  have eI : ∀ args w, (callFunc 163 args).run P w = .ok (.enter 163 args) w := enters_of (L.insertionSort.trans Try.func163) (by kernel_rfl) rfl
  have eM : ∀ args w, (callFunc 164 args).run P w = .ok (.enter 164 args) w := enters_of (L.symMerge.trans Try.func164) (by kernel_rfl) rfl
  have M : Aside _ := sym_w_s L enc cf hO g cb blk off cap d w eg hcmp R (by omega) d.size
  have I : Aside _ := hI
  have S0 : Aside (SWK enc k w blk off d w) := SWK.start R.hH
  obtain ⟨n, hn⟩ : ∃ n, d.size = n := ⟨_, rfl⟩
  have HN := Lib.hid hn
  rw [hn] at hsz ⊢
  clear hI hcmp R hn
  go_enter FG, Try.ntmps145
  go_wp2
  go_loopg [7, 8] n (fun kx s7 s8 wr => ∃ (t : Nat) (dk : Array α), s7 = .int .i64 (t * 20 : Nat) ∧ s8 = .int .i64 (t * 20 + 20 : Nat) ∧ t * 20 ≤ n ∧ n - t * 20 ≤ kx ∧ Aside (Firsts (ltOf cf) 20 t d dk) ∧ Aside (SWK enc k w blk off dk wr))
  case atStart => exact ⟨0, d, rfl, rfl, Nat.zero_le _, Nat.le_refl _, Firsts.start _ _ _, S0⟩
  case round =>
    clear S0
    obtain ⟨t, dk, rfl, rfl, htn, hkx, F, S1⟩ := hrel
    have hd : dk.size = d.size := F.out.perm.1
    have HD := Lib.hid hd
    clear hd
    by_cases hlt : t * 20 + 20 ≤ n
    · have hltz : ((t * 20 + 20 : Nat) : Int) ≤ (n : Int) := by omega
      have hc := I.out (t * 20) (t * 20 + 20) dk wr HD.out S1.out (by omega) (by rw [HD.out, HN.out]; exact hlt)
      rw [HN.out] at hc
      obtain ⟨a1, ha1⟩ : ∃ a1, t * 20 = a1 := ⟨_, rfl⟩
      have HA := Lib.hid ha1
      rw [ha1] at hltz hc hlt hkx htn
      rw [ha1]
      clear ha1
      go_wp2_with (go_at_fn 163; refine hc.mono ?_; rintro e w1 ⟨rfl, d1, hp1, hs1, hw1⟩; have S2 : Aside _ := hw1; have HP1 := Lib.hid hp1; have HS1 := Lib.hid hs1; clear hw1 hp1 hs1)
      go_roundg (n - (a1 + 20))
      case measure => omega
      case rel =>
        have ha := HA.out
        subst ha
        exact ⟨t + 1, d1, by first | rfl | (congr 1; omega), by first | rfl | (congr 1; omega), by omega, by omega, F.out.step (by rw [HN.out]; omega) (by rw [show (t + 1) * 20 = t * 20 + 20 by omega]; exact HP1.out) (by rw [show (t + 1) * 20 = t * 20 + 20 by omega]; exact HS1.out), S2⟩
    · have hltz : ¬ ((t * 20 + 20 : Nat) : Int) ≤ (n : Int) := by omega
      have hc := I.out (t * 20) n dk wr HD.out S1.out htn (by rw [HD.out, HN.out]; exact Nat.le_refl _)
      rw [HN.out] at hc
      obtain ⟨a1, ha1⟩ : ∃ a1, t * 20 = a1 := ⟨_, rfl⟩
      have HA := Lib.hid ha1
      rw [ha1] at hltz hc hlt hkx htn
      rw [ha1]
      clear ha1
      go_wp2_with (go_at_fn 163; refine hc.mono ?_; rintro e w1 ⟨rfl, d1, hp1, hs1, hw1⟩; have S2 : Aside _ := hw1; have HP1 := Lib.hid hp1; have HS1 := Lib.hid hs1; clear hw1 hp1 hs1)
      have HB : Aside (Blocks (ltOf cf) 20 d d1) := F.out.stop (by rw [HN.out]; have := HA.out; omega) (by rw [HA.out, HN.out]; exact HP1.out) (by rw [HA.out, HN.out]; exact HS1.out)
      clear F S1 HP1 HS1 HD
      go_loopg [6, 7, 8] n (fun kx s6 _ _ wr2 => ∃ (s : Nat) (dk2 : Array α), s6 = .int .i64 s ∧ 20 ≤ s ∧ n - s ≤ kx ∧ (s = 20 ∨ s < 2 * n) ∧ Aside (Blocks (ltOf cf) s d dk2) ∧ Aside (SWK enc k w blk off dk2 wr2))
      case atStart => exact ⟨20, d1, rfl, Nat.le_refl _, by omega, .inl rfl, HB, S2⟩
      case round =>
        clear HB S2
        obtain ⟨s, dk2, rfl, hs20, hkx2, hs2, HB, S3⟩ := hrel
        by_cases hsn : s < n
        · have hsnz : (s : Int) < (n : Int) := by omega
          go_wp2
          go_loopg [7, 8] n (fun kx s7 s8 wr3 => ∃ (t a2 : Nat) (dk3 : Array α), s7 = .int .i64 a2 ∧ s8 = .int .i64 (a2 + 2 * s : Nat) ∧ a2 ≤ n ∧ n - a2 ≤ kx ∧ Aside (a2 = t * (2 * s)) ∧ Aside (Under (ltOf cf) s t d dk3) ∧ Aside (SWK enc k w blk off dk3 wr3))
          case atStart => exact ⟨0, 0, dk2, rfl, by first | rfl | (congr 1; omega), Nat.zero_le _, by omega, (show 0 = 0 * (2 * s) by simp), Under.start HB.out, S3⟩
          case round =>
            clear S3 HB
            obtain ⟨t2, a2, dk3, rfl, rfl, han, hkx3, HA2, U, S4⟩ := hrel
            have HD3 := Lib.hid (show dk3.size = d.size from U.out.perm.1)
            by_cases hbn : a2 + 2 * s ≤ n
            · have hbz : ((a2 + 2 * s : Nat) : Int) ≤ (n : Int) := by omega
              have hc := M.out a2 (a2 + s) (a2 + 2 * s) dk3 wr (by rw [HN.out]; omega) HD3.out S4.out (by omega) (by omega) (by rw [HD3.out, HN.out]; exact hbn) (by have := U.out.left (by rw [← HA2.out, HN.out]; omega); rwa [← HA2.out] at this) (by have := U.out.right; rwa [← HA2.out, Nat.min_eq_left (by rw [HN.out]; exact hbn)] at this)
              rw [HN.out, show ((a2 + s : Nat) : Int) = (a2 : Int) + (s : Int) by omega, show ((a2 + 2 * s : Nat) : Int) = (a2 : Int) + 2 * (s : Int) by omega] at hc
              go_wp2_with (go_at_fn 164; refine hc.mono ?_; rintro e w5 ⟨rfl, d5, hp5, hs5, hw5⟩; have S5 : Aside _ := hw5; have HP5 := Lib.hid hp5; have HS5 := Lib.hid hs5; clear hw5 hp5 hs5)
              go_roundg (n - (a2 + 2 * s))
              case measure => omega
              case rel =>
                refine ⟨t2 + 1, a2 + 2 * s, d5, by first | rfl | (congr 1; omega), by first | rfl | (congr 1; omega), by omega, by omega, ?_, U.out.step (by rw [← HA2.out, HN.out]; exact hbn) (by rw [← HA2.out]; exact HP5.out) (by rw [← HA2.out]; exact HS5.out), S5⟩
                show a2 + 2 * s = (t2 + 1) * (2 * s)
                rw [dbl2, ← HA2.out]
            · have hbz : ¬ ((a2 + 2 * s : Nat) : Int) ≤ (n : Int) := by omega
              by_cases hmn : a2 + s < n
              · have hmz : (a2 : Int) + (s : Int) < (n : Int) := by omega
                have hc := M.out a2 (a2 + s) n dk3 wr (by rw [HN.out]; omega) HD3.out S4.out (by omega) hmn (by rw [HD3.out, HN.out]; exact Nat.le_refl _) (by have := U.out.left (by rw [← HA2.out, HN.out]; omega); rwa [← HA2.out] at this) (by have := U.out.right; rwa [← HA2.out, Nat.min_eq_right (by rw [HN.out]; omega), HN.out] at this)
                rw [HN.out, show ((a2 + s : Nat) : Int) = (a2 : Int) + (s : Int) by omega] at hc
                go_wp2_with (go_at_fn 164; refine hc.mono ?_; rintro e w5 ⟨rfl, d5, hp5, hs5, hw5⟩; have S5 : Aside _ := hw5; have HP5 := Lib.hid hp5; have HS5 := Lib.hid hs5; clear hw5 hp5 hs5)
                go_roundg (n - 2 * s)
                case measure => omega
                case rel => exact ⟨2 * s, d5, by first | rfl | (congr 1; omega), by omega, Nat.le_refl _, by omega, U.out.stop (by rw [← HA2.out, HN.out]; omega) (by rw [← HA2.out, HN.out]; exact HP5.out) (by rw [← HA2.out, HN.out]; exact HS5.out), S5⟩
              · have hmz : ¬ (a2 : Int) + (s : Int) < (n : Int) := by omega
                go_wp2
                go_roundg (n - 2 * s)
                case measure => omega
                case rel => exact ⟨2 * s, dk3, by first | rfl | (congr 1; omega), by omega, Nat.le_refl _, by omega, U.out.stop (by rw [← HA2.out, HN.out]; omega) (permIn_refl _ _ _) (U.out.alone (by rw [← HA2.out, HN.out]; omega)), S4⟩
        · have hsnz : ¬ (s : Int) < (n : Int) := by omega
          go_wp2
          first | go_end0 | go_ret
          have h1 := HB.out.1
          have h2 := HB.out.all (by rw [HN.out]; omega)
          rw [HN.out] at h1 h2
          exact ⟨rfl, dk2, h1, h2, S3.out⟩
end Go.Proofs.Ytphinkcfmdnpfaa
namespace Go.Proofs.Ytphinkcfmdnpfaa
open Go.Shelf Go.RowKit Go.Lib Go.Sort

instance : Inhabited StepV := ⟨step0⟩
def cmpStep (x y : StepV) : Int := Lib.compareInt x.f y.f
def lessS (x y : StepV) : Bool := decide (x.f < y.f)
theorem ltStep : ltOf cmpStep = lessS := by
  funext x y
  unfold ltOf cmpStep lessS Lib.compareInt
  by_cases h3 : x.f < y.f
  · simp [h3]
  · by_cases h4 : y.f < x.f <;> simp [h3, h4]
theorem swoStep : Go.Sort.SWO lessS where
  irrefl x := by simp [lessS]
  trans x y z h1 h2 := by simp [lessS] at *; omega
  ntrans x y z h1 h2 := by simp [lessS] at *; omega
set_option maxHeartbeats 1000000 in
theorem byStep_any (x y : StepV) (W : World) : Calls Try.prog 57 #[.agg #[.int .i64 x.m, .int .i64 x.f, .int .i64 x.e], .agg #[.int .i64 y.m, .int .i64 y.f, .int .i64 y.e]] W fun e w' => e = .returned (.int .i64 (cmpStep x y)) ∧ ∃ q os', w' = grow (W.drewN q) os' := by
  have hcon := fun W' => AnyG.cmp_Compare_int Try.cmpInt x.f y.f W'
  change ∀ W', Calls Try.prog 58 _ _ _ at hcon
  have HR := Lib.hid (show cmpStep x y = Lib.compareInt x.f y.f from rfl)
  generalize cmpStep x y = r at HR ⊢
  generalize Lib.compareInt x.f y.f = r1 at hcon HR
  go_enter Try.func57, Try.ntmps57
  go_wp2_with (go_at_call 58; refine (hcon _).mono ?_; rintro e w' ⟨rfl, rfl⟩)
  go_ret
  exact ⟨by rw [HR.out]; rfl, 0, _, by rw [alloc_eq_grow, alloc_eq_grow, grow_grow]; rfl⟩
theorem byStep_lays (blk off size : Nat) (w : World) : CmpLays Try.prog 57 #[] stepC 3 cmpStep blk off size w := fun _ _ _ _ x y => byStep_any x y _

theorem sortP_s : SortP_s Try.prog 3 :=
  ⟨by kernel_rfl, Eq.refl _, Eq.refl _, Eq.refl _, Eq.refl _, Eq.refl _, Eq.refl _, Try.isAgg0, Try.sizeOf0, Eq.refl _, Try.isAgg3, Try.sizeOf3, Eq.refl _, Try.isAgg4, Try.sizeOf4, Eq.refl _, Try.isAgg25, Try.sizeOf25, Eq.refl _, Try.isAgg84, Try.sizeOf84, Eq.refl _, Try.isAgg191, Try.sizeOf191, Try.zeroValue0, Try.zeroValue3, Try.zeroValue4, Try.zeroValue25, Try.zeroValue84, Try.zeroValue191, Try.isAgg31, Try.sizeOf31⟩
theorem ins_row_s (g : Nat) (cb : Array Value) (eg : ∀ args w, (callFunc g args).run Try.prog w = .ok (.enter g args) w) (hcmp : ∀ blk off size w, CmpLays Try.prog g cb stepC 3 cmpStep blk off size w) (blk off cap : Nat) (d0 : Array StepV) (w0 : World) (R : RowK stepC 3 w0 blk off d0) (hsz : d0.size < 4611686018427387904) :
    Sorts1_s Try.prog 163 stepC 3 cmpStep g cb blk off cap d0 w0 := fun a b d w hd S hab hb => by
  have hcon := AnyQ.insertionSortCmpFunc Try.insStep 3 Try.isAgg31 Try.sizeOf31 stepC stepC_len stepC_one cmpStep g cb blk off cap a b d w eg (hcmp blk off _ w) (S.holds R.hblk R.hH hd) (S.lt R.hblk) hab hb (by omega)
  change Calls Try.prog 163 _ _ _ at hcon
  rw [hd] at hcon
  refine hcon.mono fun e w' ⟨he, n, os, hw⟩ => ⟨he, Sort.insertionSort (ltOf cmpStep) d a b, ?_⟩
  have h := insertionSort_holds (lt := ltOf cmpStep) (by rw [ltStep]; exact swoStep) d a b hab hb
  exact ⟨h.1, h.2, hw ▸ S.on R.hblk n _ os h.1.1⟩
set_option maxHeartbeats 1000000 in
theorem SortStable_row_s (g : Nat) (cb : Array Value) (eg : ∀ args w, (callFunc g args).run Try.prog w = .ok (.enter g args) w) (hcmp : ∀ blk off size w, CmpLays Try.prog g cb stepC 3 cmpStep blk off size w) (blk off cap : Nat) (d : Array StepV) (w : World) (R : RowK stepC 3 w blk off d) (hsz : d.size < 1152921504606846976) :
    Calls Try.prog 113 #[.slice (some ⟨blk, off, none⟩) d.size cap, .func (.func g) #[] cb] w fun e w' => e = .returned (.tuple #[]) ∧ ∃ d', PermIn 0 d.size d d' ∧ SortedIn lessS 0 d.size d' ∧ SWK stepC 3 w blk off d' w' := by
  have hc := stable_w_s sortP_s stepC cmpStep (by rw [ltStep]; exact swoStep) g cb blk off cap d w eg (hcmp blk off _ w) R (ins_row_s g cb eg hcmp blk off cap d w R (by omega)) hsz
  rw [ltStep] at hc
  go_enter Try.func113, Try.ntmps113
  go_wp2_with (go_at_call 145; refine hc.mono ?_; rintro e w1 ⟨rfl, d', hp, hs, hw⟩; have HP := Lib.hid hp; have HS := Lib.hid hs; have HW := Lib.hid hw; clear hp hs hw)
  first | go_end0 | go_ret
  exact ⟨rfl, d', HP.out, HS.out, HW.out⟩
set_option maxHeartbeats 1000000 in
theorem ins_nil_s (fv : Value) (w : World) : Calls Try.prog 163 #[.slice none 0 0, .int .i64 0, .int .i64 0, fv] w fun e w' => e = .returned (.tuple #[]) ∧ w' = w := by
  go_enter Try.func163, Try.ntmps163
  go_wp2
  refine wp_loop_rounds 1 ?_
  rw [rounds_succ]
  go_wp2
  first | go_end0 | go_ret
  exact ⟨rfl, rfl⟩
set_option maxHeartbeats 1000000 in
theorem stable_nil_s (fv : Value) (w : World) : Calls Try.prog 145 #[.slice none 0 0, .int .i64 0, fv] w fun e w' => e = .returned (.tuple #[]) ∧ w' = w := by
  go_enter Try.func145, Try.ntmps145
  go_wp2
  refine wp_loop_rounds 1 ?_
  rw [rounds_succ]
  go_wp2_with (go_at_call 163; refine (ins_nil_s _ _).mono ?_; rintro e w1 ⟨rfl, rfl⟩)
  refine wp_loop_rounds 1 ?_
  rw [rounds_succ]
  go_wp2
  first | go_end0 | go_ret
  exact ⟨rfl, rfl⟩
set_option maxHeartbeats 1000000 in
theorem SortStable_nil_s (fv : Value) (w : World) : Calls Try.prog 113 #[.slice none 0 0, fv] w fun e w' => e = .returned (.tuple #[]) ∧ w' = w := by
  go_enter Try.func113, Try.ntmps113
  go_wp2_with (go_at_call 145; refine (stable_nil_s _ _).mono ?_; rintro e w1 ⟨rfl, rfl⟩)
  first | go_end0 | go_ret
  exact ⟨rfl, rfl⟩
end Go.Proofs.Ytphinkcfmdnpfaa
