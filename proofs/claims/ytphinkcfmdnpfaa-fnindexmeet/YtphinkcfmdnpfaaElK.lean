/-
  Plain lemmas: a row of elements that a call owns, and what a sort does to it. No program is named here.
-/
import Derived.Test.YtphinkcfmdnpfaaSymB
import Derived.Test.YtphinkcfmdnpfaaShelfR
import Derived.Test.YtphinkcfmdnpfaaRelQ
import Derived.Test.YtphinkcfmdnpfaaMeet
import Derived.StillTailTactics
import Derived.Test.YtphinkcfmdnpfaaRowD
import Derived.Shelf.SlSortCmp.KitK
import Derived.Lib.OwnBridge
import Derived.Lib.AppendIntMem
namespace Go.Proofs.Ytphinkcfmdnpfaa
open Go.Shelf Go.RowKit Go.Lib Go.Sort
variable {P : Program} {α : Type} [Inhabited α] {k : Nat}

theorem sym_w (L : SortP P k) (enc : α → List Value) (cf : α → α → Int) (hO : SWO (ltOf cf)) (g : Nat) (cb : Array Value) (blk off cap : Nat) (d0 : Array α) (w0 : World) (eg : ∀ args w, (callFunc g args).run P w = .ok (.enter g args) w) (hcmp : CmpLays P g cb enc k cf blk off d0.size w0)
    (R : RowK enc k w0 blk off d0) (hsz : d0.size < 4611686018427387904) : ∀ (n a m b : Nat) (d : Array α) (w : World), b - a ≤ n → d.size = d0.size → SWK enc k w0 blk off d w → a < m → m < b → b ≤ d.size → SortedIn (ltOf cf) a m d → SortedIn (ltOf cf) m b d →
      Calls P 168 #[.slice (some ⟨blk, off, none⟩) d0.size cap, .int .i64 a, .int .i64 m, .int .i64 b, .func (.func g) #[] cb] w fun e w' => e = .returned (.tuple #[]) ∧ ∃ d', PermIn a b d d' ∧ SortedIn (ltOf cf) a b d' ∧ SWK enc k w0 blk off d' w'
  | 0, a, m, b, d, w, hn, _, _, h1, h2, _, _, _ => by omega
  | n + 1, a, m, b, d, w, hn, hd, S, h1, h2, h3, s1, s2 => by
    have hs : d0.size = d.size := hd.symm
    rw [hs]
    by_cases hf : m = a + 1
    · exact sym_first L enc cf hO g cb blk off cap a m b d0 d w0 w eg hcmp R hs S hf h2 h3 (by omega) s2
    · by_cases hl : b = m + 1
      · exact sym_last L enc cf hO g cb blk off cap a m b d0 d w0 w eg hcmp R hs S hl (by omega) h3 (by omega) s1
      · have ih : ∀ (a' m' b' : Nat) (d' : Array α) (w' : World), b' - a' < b - a → d'.size = d0.size → SWK enc k w0 blk off d' w' → a' < m' → m' < b' → b' ≤ d'.size → SortedIn (ltOf cf) a' m' d' → SortedIn (ltOf cf) m' b' d' →
            Calls P 168 #[.slice (some ⟨blk, off, none⟩) d.size cap, .int .i64 a', .int .i64 m', .int .i64 b', .func (.func g) #[] cb] w' fun e w'' => e = .returned (.tuple #[]) ∧ ∃ d'', PermIn a' b' d' d'' ∧ SortedIn (ltOf cf) a' b' d'' ∧ SWK enc k w0 blk off d'' w'' := fun a' m' b' d' w' g1 g2 g3 g4 g5 g6 g7 g8 => by
          rw [← hs]
          exact sym_w L enc cf hO g cb blk off cap d0 w0 eg hcmp R hsz n a' m' b' d' w' (by omega) g2 g3 g4 g5 g6 g7 g8
        by_cases hm : (a + b) / 2 < m
        · exact sym_right L enc cf hO g cb blk off cap a m b d0 d w0 w eg hcmp R hs S (by omega) (by omega) h3 (by omega) s1 s2 hm ih
        · exact sym_left L enc cf hO g cb blk off cap a m b d0 d w0 w eg hcmp R hs S (by omega) (by omega) h3 (by omega) s1 s2 (by omega) ih

/-- What the sort does to a range: it puts it in order, and nothing else. -/
def Sorts1 (P : Program) (f : Nat) (enc : α → List Value) (k : Nat) (cf : α → α → Int) (g : Nat) (cb : Array Value) (blk off cap : Nat) (d0 : Array α) (w0 : World) : Prop :=
  ∀ (a b : Nat) (d : Array α) (w : World), d.size = d0.size → SWK enc k w0 blk off d w → a ≤ b → b ≤ d.size →
    Calls P f #[.slice (some ⟨blk, off, none⟩) d0.size cap, .int .i64 a, .int .i64 b, .func (.func g) #[] cb] w fun e w' => e = .returned (.tuple #[]) ∧ ∃ d', PermIn a b d d' ∧ SortedIn (ltOf cf) a b d' ∧ SWK enc k w0 blk off d' w'

set_option maxHeartbeats 8000000 in
set_option maxRecDepth 1000000 in
theorem stable_w (L : SortP P k) (enc : α → List Value) (cf : α → α → Int) (hO : SWO (ltOf cf)) (g : Nat) (cb : Array Value) (blk off cap : Nat) (d : Array α) (w : World) (eg : ∀ args w, (callFunc g args).run P w = .ok (.enter g args) w) (hcmp : CmpLays P g cb enc k cf blk off d.size w)
    (R : RowK enc k w blk off d) (hI : Sorts1 P 167 enc k cf g cb blk off cap d w) (hsz : d.size < 1152921504606846976) :
    Calls P 159 #[.slice (some ⟨blk, off, none⟩) d.size cap, .int .i64 d.size, .func (.func g) #[] cb] w fun e w' => e = .returned (.tuple #[]) ∧ ∃ d', PermIn 0 d.size d d' ∧ SortedIn (ltOf cf) 0 d.size d' ∧ SWK enc k w blk off d' w' := by
  have mixed := L.mixed; have t0 := L.t0.trans Try.underlying0; have a0 := L.a0; have z0 := L.z0; have v0 := L.v0; have t3 := L.t3.trans Try.underlying3; have a3 := L.a3; have z3 := L.z3; have v3 := L.v3; have t4 := L.t4.trans Try.underlying4; have a4 := L.a4; have z4 := L.z4; have v4 := L.v4; have t22 := L.t22.trans Try.underlying23; have a22 := L.a22; have z22 := L.z22; have v22 := L.v22; have t25 := L.t25.trans Try.underlying129; have a25 := L.a25; have z25 := L.z25; have v25 := L.v25; have t9 := L.t9.trans Try.underlying191; have a9 := L.a9; have z9 := L.z9; have v9 := L.v9; have aE := L.aE; have zE := L.zE
  have u0 := run_underlying t0; have u3 := run_underlying t3; have u4 := run_underlying t4; have u22 := run_underlying t22; have u25 := run_underlying t25; have u9 := run_underlying t9
  have FG := L.stable.trans Try.func159
  have eI : ∀ args w, (callFunc 167 args).run P w = .ok (.enter 167 args) w := enters_of (L.insertionSort.trans Try.func167) (by kernel_rfl) rfl
  have eM : ∀ args w, (callFunc 168 args).run P w = .ok (.enter 168 args) w := enters_of (L.symMerge.trans Try.func168) (by kernel_rfl) rfl
  have M : Aside _ := sym_w L enc cf hO g cb blk off cap d w eg hcmp R (by omega) d.size
  have I : Aside _ := hI
  have S0 : Aside (SWK enc k w blk off d w) := SWK.start R.hH
  obtain ⟨n, hn⟩ : ∃ n, d.size = n := ⟨_, rfl⟩
  have HN := Lib.hid hn
  rw [hn] at hsz ⊢
  clear hI hcmp R hn
  go_enter FG, Try.ntmps159
  go_wp2
  go_loopg [7, 8] n (fun kx s7 s8 wr => ∃ (t : Nat) (dk : Array α), s7 = .int .i64 (t * 20 : Nat) ∧ s8 = .int .i64 (t * 20 + 20 : Nat) ∧ t * 20 ≤ n ∧ n - t * 20 ≤ kx ∧ Aside (Firsts (ltOf cf) 20 t d dk) ∧ Aside (SWK enc k w blk off dk wr))
  case atStart => exact ⟨0, d, rfl, rfl, Nat.zero_le _, Nat.le_refl _, Firsts.start _ _ _, S0⟩
  case round =>
    clear S0
    obtain ⟨t, dk, rfl, rfl, htn, hkx, F, S1⟩ := hrel
    have hd : dk.size = d.size := F.out.perm.1
    have HD := Lib.hid hd
    clear hd
    by_cases hlt : t * 20 + 20 ≤ n
    · have hltz : ((t * 20 + 20 : Nat) : Int) ≤ (n : Int) := by omega
      have hc := I.out (t * 20) (t * 20 + 20) dk wr HD.out S1.out (by omega) (by rw [HD.out, HN.out]; exact hlt)
      rw [HN.out] at hc
      obtain ⟨a1, ha1⟩ : ∃ a1, t * 20 = a1 := ⟨_, rfl⟩
      have HA := Lib.hid ha1
      rw [ha1] at hltz hc hlt hkx htn
      rw [ha1]
      clear ha1
      go_wp2_with (go_at_fn 167; refine hc.mono ?_; rintro e w1 ⟨rfl, d1, hp1, hs1, hw1⟩; have S2 : Aside _ := hw1; have HP1 := Lib.hid hp1; have HS1 := Lib.hid hs1; clear hw1 hp1 hs1)
      go_roundg (n - (a1 + 20))
      case measure => omega
      case rel =>
        have ha := HA.out
        subst ha
        exact ⟨t + 1, d1, by first | rfl | (congr 1; omega), by first | rfl | (congr 1; omega), by omega, by omega, F.out.step (by rw [HN.out]; omega) (by rw [show (t + 1) * 20 = t * 20 + 20 by omega]; exact HP1.out) (by rw [show (t + 1) * 20 = t * 20 + 20 by omega]; exact HS1.out), S2⟩
    · have hltz : ¬ ((t * 20 + 20 : Nat) : Int) ≤ (n : Int) := by omega
      have hc := I.out (t * 20) n dk wr HD.out S1.out htn (by rw [HD.out, HN.out]; exact Nat.le_refl _)
      rw [HN.out] at hc
      obtain ⟨a1, ha1⟩ : ∃ a1, t * 20 = a1 := ⟨_, rfl⟩
      have HA := Lib.hid ha1
      rw [ha1] at hltz hc hlt hkx htn
      rw [ha1]
      clear ha1
      go_wp2_with (go_at_fn 167; refine hc.mono ?_; rintro e w1 ⟨rfl, d1, hp1, hs1, hw1⟩; have S2 : Aside _ := hw1; have HP1 := Lib.hid hp1; have HS1 := Lib.hid hs1; clear hw1 hp1 hs1)
      have HB : Aside (Blocks (ltOf cf) 20 d d1) := F.out.stop (by rw [HN.out]; have := HA.out; omega) (by rw [HA.out, HN.out]; exact HP1.out) (by rw [HA.out, HN.out]; exact HS1.out)
      clear F S1 HP1 HS1 HD
      go_loopg [6, 7, 8] n (fun kx s6 _ _ wr2 => ∃ (s : Nat) (dk2 : Array α), s6 = .int .i64 s ∧ 20 ≤ s ∧ n - s ≤ kx ∧ (s = 20 ∨ s < 2 * n) ∧ Aside (Blocks (ltOf cf) s d dk2) ∧ Aside (SWK enc k w blk off dk2 wr2))
      case atStart => exact ⟨20, d1, rfl, Nat.le_refl _, by omega, .inl rfl, HB, S2⟩
      case round =>
        clear HB S2
        obtain ⟨s, dk2, rfl, hs20, hkx2, hs2, HB, S3⟩ := hrel
        by_cases hsn : s < n
        · have hsnz : (s : Int) < (n : Int) := by omega
          go_wp2
          go_loopg [7, 8] n (fun kx s7 s8 wr3 => ∃ (t a2 : Nat) (dk3 : Array α), s7 = .int .i64 a2 ∧ s8 = .int .i64 (a2 + 2 * s : Nat) ∧ a2 ≤ n ∧ n - a2 ≤ kx ∧ Aside (a2 = t * (2 * s)) ∧ Aside (Under (ltOf cf) s t d dk3) ∧ Aside (SWK enc k w blk off dk3 wr3))
          case atStart => exact ⟨0, 0, dk2, rfl, by first | rfl | (congr 1; omega), Nat.zero_le _, by omega, (show 0 = 0 * (2 * s) by simp), Under.start HB.out, S3⟩
          case round =>
            clear S3 HB
            obtain ⟨t2, a2, dk3, rfl, rfl, han, hkx3, HA2, U, S4⟩ := hrel
            have HD3 := Lib.hid (show dk3.size = d.size from U.out.perm.1)
            by_cases hbn : a2 + 2 * s ≤ n
            · have hbz : ((a2 + 2 * s : Nat) : Int) ≤ (n : Int) := by omega
              have hc := M.out a2 (a2 + s) (a2 + 2 * s) dk3 wr (by rw [HN.out]; omega) HD3.out S4.out (by omega) (by omega) (by rw [HD3.out, HN.out]; exact hbn) (by have := U.out.left (by rw [← HA2.out, HN.out]; omega); rwa [← HA2.out] at this) (by have := U.out.right; rwa [← HA2.out, Nat.min_eq_left (by rw [HN.out]; exact hbn)] at this)
              rw [HN.out, show ((a2 + s : Nat) : Int) = (a2 : Int) + (s : Int) by omega, show ((a2 + 2 * s : Nat) : Int) = (a2 : Int) + 2 * (s : Int) by omega] at hc
              go_wp2_with (go_at_fn 168; refine hc.mono ?_; rintro e w5 ⟨rfl, d5, hp5, hs5, hw5⟩; have S5 : Aside _ := hw5; have HP5 := Lib.hid hp5; have HS5 := Lib.hid hs5; clear hw5 hp5 hs5)
              go_roundg (n - (a2 + 2 * s))
              case measure => omega
              case rel =>
                refine ⟨t2 + 1, a2 + 2 * s, d5, by first | rfl | (congr 1; omega), by first | rfl | (congr 1; omega), by omega, by omega, ?_, U.out.step (by rw [← HA2.out, HN.out]; exact hbn) (by rw [← HA2.out]; exact HP5.out) (by rw [← HA2.out]; exact HS5.out), S5⟩
                show a2 + 2 * s = (t2 + 1) * (2 * s)
                rw [dbl2, ← HA2.out]
            · have hbz : ¬ ((a2 + 2 * s : Nat) : Int) ≤ (n : Int) := by omega
              by_cases hmn : a2 + s < n
              · have hmz : (a2 : Int) + (s : Int) < (n : Int) := by omega
                have hc := M.out a2 (a2 + s) n dk3 wr (by rw [HN.out]; omega) HD3.out S4.out (by omega) hmn (by rw [HD3.out, HN.out]; exact Nat.le_refl _) (by have := U.out.left (by rw [← HA2.out, HN.out]; omega); rwa [← HA2.out] at this) (by have := U.out.right; rwa [← HA2.out, Nat.min_eq_right (by rw [HN.out]; omega), HN.out] at this)
                rw [HN.out, show ((a2 + s : Nat) : Int) = (a2 : Int) + (s : Int) by omega] at hc
                go_wp2_with (go_at_fn 168; refine hc.mono ?_; rintro e w5 ⟨rfl, d5, hp5, hs5, hw5⟩; have S5 : Aside _ := hw5; have HP5 := Lib.hid hp5; have HS5 := Lib.hid hs5; clear hw5 hp5 hs5)
                go_roundg (n - 2 * s)
                case measure => omega
                case rel => exact ⟨2 * s, d5, by first | rfl | (congr 1; omega), by omega, Nat.le_refl _, by omega, U.out.stop (by rw [← HA2.out, HN.out]; omega) (by rw [← HA2.out, HN.out]; exact HP5.out) (by rw [← HA2.out, HN.out]; exact HS5.out), S5⟩
              · have hmz : ¬ (a2 : Int) + (s : Int) < (n : Int) := by omega
                go_wp2
                go_roundg (n - 2 * s)
                case measure => omega
                case rel => exact ⟨2 * s, dk3, by first | rfl | (congr 1; omega), by omega, Nat.le_refl _, by omega, U.out.stop (by rw [← HA2.out, HN.out]; omega) (permIn_refl _ _ _) (U.out.alone (by rw [← HA2.out, HN.out]; omega)), S4⟩
        · have hsnz : ¬ (s : Int) < (n : Int) := by omega
          go_wp2
          first | go_end0 | go_ret
          have h1 := HB.out.1
          have h2 := HB.out.all (by rw [HN.out]; omega)
          rw [HN.out] at h1 h2
          exact ⟨rfl, dk2, h1, h2, S3.out⟩
end Go.Proofs.Ytphinkcfmdnpfaa
namespace Go.Proofs.Ytphinkcfmdnpfaa
open Go.Shelf Go.RowKit Go.Lib Go.Sort

instance : Inhabited RowV := ⟨row0⟩
def cmpB (x y : ByteArray) : Int := if kl x y = true then -1 else if (x.toList == y.toList) = true then 0 else 1
def orB (x y : Int) : Int := if x = 0 then y else x
def cmpRow (x y : RowV) : Int := orB (cmpB x.k y.k) (Lib.compareInt x.f y.f)
theorem ltRow : ltOf cmpRow = lessB := by
  funext x y
  unfold ltOf cmpRow cmpB orB lessB
  show _ = (kl x.k y.k || _)
  cases h1 : kl x.k y.k with
  | true => simp
  | false =>
    cases h2 : (x.k.toList == y.k.toList) with
    | false => simp
    | true =>
      unfold Lib.compareInt
      by_cases h3 : x.f < y.f
      · simp [h3]
      · by_cases h4 : y.f < x.f <;> simp [h3, h4]

set_option maxHeartbeats 1000000 in
theorem isNaN_text (x : ByteArray) (w : World) : Calls Try.prog 158 #[.string x] w fun e w' => e = .returned (.bool false) ∧ w' = w := by
  go_enter Try.func158, Try.ntmps158
  go_wp2
  go_ret
  exact ⟨by simp, rfl⟩
set_option maxHeartbeats 1000000 in
theorem compare_text (x y : ByteArray) (w : World) : Calls Try.prog 138 #[.string x, .string y] w fun e w' => e = .returned (.int .i64 (cmpB x y)) ∧ w' = w := by
  have HC := Lib.hid (show cmpB x y = if Op.bytesLess x.toList y.toList = true then -1 else if (x.toList == y.toList) = true then 0 else 1 from rfl)
  cases h1 : Op.bytesLess x.toList y.toList
  · cases h2 : (x.toList == y.toList)
    · rw [h1, h2] at HC
      go_enter Try.func138, Try.ntmps138
      go_wp2_with (go_at_call 158; refine (isNaN_text _ _).mono ?_; rintro e w' ⟨rfl, hw⟩; rw [hw])
      go_ret
      exact ⟨by rw [HC.out]; rfl, rfl⟩
    · rw [h1, h2] at HC
      go_enter Try.func138, Try.ntmps138
      go_wp2_with (go_at_call 158; refine (isNaN_text _ _).mono ?_; rintro e w' ⟨rfl, hw⟩; rw [hw])
      go_ret
      exact ⟨by rw [HC.out]; rfl, rfl⟩
  · rw [h1] at HC
    go_enter Try.func138, Try.ntmps138
    go_wp2_with (go_at_call 158; refine (isNaN_text _ _).mono ?_; rintro e w' ⟨rfl, hw⟩; rw [hw])
    go_ret
    exact ⟨by rw [HC.out]; rfl, rfl⟩
set_option maxHeartbeats 2000000 in
theorem or_two (x y : Int) (g : Nat) (w : World) (h0 : w.cell? ⟨g, 0, none⟩ = some (.int .i64 x)) (h1 : w.cell? ⟨g, 1, none⟩ = some (.int .i64 y)) :
    Calls Try.prog 137 #[.slice (some ⟨g, 0, none⟩) 2 2] w fun e w' => e = .returned (.int .i64 (orB x y)) ∧ w' = w := by
  by_cases hx : x = 0
  · by_cases hy : y = 0
    · subst hx; subst hy
      go_enter Try.func137, Try.ntmps137
      go_wp2
      refine wp_loop_rounds 3 ?_
      rw [rounds_succ]
      go_wp2
      rw [rounds_succ]
      go_wp2
      rw [rounds_succ]
      go_wp2
      go_ret
      exact ⟨rfl, rfl⟩
    · subst hx
      have hyb : (y != 0) = true := by simpa using hy
      have hyc : (y == 0) = false := by simpa using hy
      go_enter Try.func137, Try.ntmps137
      go_wp2
      refine wp_loop_rounds 2 ?_
      rw [rounds_succ]
      go_wp2
      rw [rounds_succ]
      go_wp2
      go_ret
      exact ⟨rfl, rfl⟩
  · have hxb : (x != 0) = true := by simpa using hx
    have hxc : (x == 0) = false := by simpa using hx
    have HR := Lib.hid (show orB x y = x from if_neg hx)
    go_enter Try.func137, Try.ntmps137
    go_wp2
    refine wp_loop_rounds 1 ?_
    rw [rounds_succ]
    go_wp2
    go_ret
    exact ⟨by rw [HR.out]; rfl, rfl⟩

set_option maxRecDepth 100000 in
set_option maxHeartbeats 2000000 in
theorem byKey_any (x y : RowV) (W : World) : Calls Try.prog 102 #[.agg #[.string x.k, .string x.t, .int .i64 x.f, .int .i64 x.e], .agg #[.string y.k, .string y.t, .int .i64 y.f, .int .i64 y.e]] W fun e w' => e = .returned (.int .i64 (cmpRow x y)) ∧ ∃ q os', w' = grow (W.drewN q) os' := by
  have hcon := fun W' => AnyG.cmp_Compare_int Try.cmpInt x.f y.f W'
  change ∀ W', Calls Try.prog 58 _ _ _ at hcon
  have htxt := fun W' => compare_text x.k y.k W'
  have HR := Lib.hid (show cmpRow x y = orB (cmpB x.k y.k) (Lib.compareInt x.f y.f) from rfl)
  generalize cmpRow x y = r at HR ⊢
  generalize Lib.compareInt x.f y.f = r1 at hcon HR
  generalize cmpB x.k y.k = r2 at htxt HR
  go_enter Try.func102, Try.ntmps102
  go_wp2_with fail
  generalize hW : (W.alloc _).alloc _ = W1
  have a0 : W1.cell? ⟨W.heap.size, 0, none⟩ = some (.string x.k) := by rw [← hW]; simp [go_sem]
  have a2 : W1.cell? ⟨W.heap.size, 2, none⟩ = some (.int .i64 x.f) := by rw [← hW]; simp [go_sem]
  have b0 : W1.cell? ⟨W.heap.size + 1, 0, none⟩ = some (.string y.k) := by rw [← hW]; simp [go_sem]
  have b2 : W1.cell? ⟨W.heap.size + 1, 2, none⟩ = some (.int .i64 y.f) := by rw [← hW]; simp [go_sem]
  have HG := Lib.hid (show ∃ os, W1 = grow W os from ⟨_, by rw [← hW, alloc_eq_grow, alloc_eq_grow, grow_grow]⟩)
  clear hW
  refine wp_region_still_tail 12 (by kernel_rfl) (by kernel_rfl) ?_
  simp only [List.take_succ_cons, List.take_zero, List.drop_succ_cons, List.drop_zero]
  repeat (first | still_call (htxt _) | still_call (hcon _) | still_step)
  refine wpStill_nil ?_
  change wpList _ _ _ _ _ W1.drew
  go_wp2_with (go_at_call 137; refine (or_two r2 r1 _ _ (by simp) (by simp)).mono ?_; rintro e w' ⟨rfl, rfl⟩)
  go_ret
  refine ⟨by rw [HR.out]; rfl, ?_⟩
  obtain ⟨os, rfl⟩ := HG.out
  exact ⟨1, _, by rw [alloc_eq_grow]; show grow (grow (W.drewN 1) os) _ = _; rw [grow_grow]⟩
theorem byKey_lays (blk off size : Nat) (w : World) : CmpLays Try.prog 102 #[] rowC 4 cmpRow blk off size w := fun _ _ _ _ x y => byKey_any x y _

theorem sortP : SortP Try.prog 4 :=
  ⟨by kernel_rfl, Eq.refl _, Eq.refl _, Eq.refl _, Eq.refl _, Eq.refl _, Eq.refl _, Try.isAgg0, Try.sizeOf0, Eq.refl _, Try.isAgg3, Try.sizeOf3, Eq.refl _, Try.isAgg4, Try.sizeOf4, Eq.refl _, Try.isAgg23, Try.sizeOf23, Eq.refl _, Try.isAgg129, Try.sizeOf129, Eq.refl _, Try.isAgg191, Try.sizeOf191, Try.zeroValue0, Try.zeroValue3, Try.zeroValue4, Try.zeroValue23, Try.zeroValue129, Try.zeroValue191, Try.isAgg70, Try.sizeOf70⟩
theorem ins_row (g : Nat) (cb : Array Value) (eg : ∀ args w, (callFunc g args).run Try.prog w = .ok (.enter g args) w) (hcmp : ∀ blk off size w, CmpLays Try.prog g cb rowC 4 cmpRow blk off size w) (blk off cap : Nat) (d0 : Array RowV) (w0 : World) (R : RowK rowC 4 w0 blk off d0) (hsz : d0.size < 4611686018427387904) :
    Sorts1 Try.prog 167 rowC 4 cmpRow g cb blk off cap d0 w0 := fun a b d w hd S hab hb => by
  have hcon := AnyQ.insertionSortCmpFunc Try.insRow 4 Try.isAgg70 Try.sizeOf70 rowC rowC_len rowC_one cmpRow g cb blk off cap a b d w eg (hcmp blk off _ w) (S.holds R.hblk R.hH hd) (S.lt R.hblk) hab hb (by omega)
  change Calls Try.prog 167 _ _ _ at hcon
  rw [hd] at hcon
  refine hcon.mono fun e w' ⟨he, n, os, hw⟩ => ⟨he, Sort.insertionSort (ltOf cmpRow) d a b, ?_⟩
  have h := insertionSort_holds (lt := ltOf cmpRow) (by rw [ltRow]; exact swoRow) d a b hab hb
  exact ⟨h.1, h.2, hw ▸ S.on R.hblk n _ os h.1.1⟩
set_option maxHeartbeats 1000000 in
theorem SortStable_row (g : Nat) (cb : Array Value) (eg : ∀ args w, (callFunc g args).run Try.prog w = .ok (.enter g args) w) (hcmp : ∀ blk off size w, CmpLays Try.prog g cb rowC 4 cmpRow blk off size w) (blk off cap : Nat) (d : Array RowV) (w : World) (R : RowK rowC 4 w blk off d) (hsz : d.size < 1152921504606846976) :
    Calls Try.prog 139 #[.slice (some ⟨blk, off, none⟩) d.size cap, .func (.func g) #[] cb] w fun e w' => e = .returned (.tuple #[]) ∧ ∃ d', PermIn 0 d.size d d' ∧ SortedIn lessB 0 d.size d' ∧ SWK rowC 4 w blk off d' w' := by
  have hc := stable_w sortP rowC cmpRow (by rw [ltRow]; exact swoRow) g cb blk off cap d w eg (hcmp blk off _ w) R (ins_row g cb eg hcmp blk off cap d w R (by omega)) hsz
  rw [ltRow] at hc
  go_enter Try.func139, Try.ntmps139
  go_wp2_with (go_at_call 159; refine hc.mono ?_; rintro e w1 ⟨rfl, d', hp, hs, hw⟩; have HP := Lib.hid hp; have HS := Lib.hid hs; have HW := Lib.hid hw; clear hp hs hw)
  first | go_end0 | go_ret
  exact ⟨rfl, d', HP.out, HS.out, HW.out⟩
set_option maxHeartbeats 1000000 in
theorem ins_nil (fv : Value) (w : World) : Calls Try.prog 167 #[.slice none 0 0, .int .i64 0, .int .i64 0, fv] w fun e w' => e = .returned (.tuple #[]) ∧ w' = w := by
  go_enter Try.func167, Try.ntmps167
  go_wp2
  refine wp_loop_rounds 1 ?_
  rw [rounds_succ]
  go_wp2
  first | go_end0 | go_ret
  exact ⟨rfl, rfl⟩
set_option maxHeartbeats 1000000 in
theorem stable_nil (fv : Value) (w : World) : Calls Try.prog 159 #[.slice none 0 0, .int .i64 0, fv] w fun e w' => e = .returned (.tuple #[]) ∧ w' = w := by
  go_enter Try.func159, Try.ntmps159
  go_wp2
  refine wp_loop_rounds 1 ?_
  rw [rounds_succ]
  go_wp2_with (go_at_call 167; refine (ins_nil _ _).mono ?_; rintro e w1 ⟨rfl, rfl⟩)
  refine wp_loop_rounds 1 ?_
  rw [rounds_succ]
  go_wp2
  first | go_end0 | go_ret
  exact ⟨rfl, rfl⟩
set_option maxHeartbeats 1000000 in
theorem SortStable_nil (fv : Value) (w : World) : Calls Try.prog 139 #[.slice none 0 0, fv] w fun e w' => e = .returned (.tuple #[]) ∧ w' = w := by
  go_enter Try.func139, Try.ntmps139
  go_wp2_with (go_at_call 159; refine (stable_nil _ _).mono ?_; rintro e w1 ⟨rfl, rfl⟩)
  first | go_end0 | go_ret
  exact ⟨rfl, rfl⟩
end Go.Proofs.Ytphinkcfmdnpfaa
namespace Go.Proofs.Ytphinkcfmdnpfaa
open Go.RowKit Go.Shelf Go.Lib Go.Sort
variable {α : Type} [Inhabited α] {enc : α → List Value} {k : Nat}

theorem flatOf_atK (hk : ∀ x, (enc x).length = k) (h0 : 0 < k) (l : List α) (t : Nat) (h : t < l.length * k) : (flatOf enc l)[t]? = some ((enc (l.toArray[t / k]!))[t % k]!) := by
  have hi : t / k < l.length := by rw [Nat.div_lt_iff_lt_mul h0]; exact h
  have hm : t % k < k := Nat.mod_lt _ h0
  have hx : l[t / k]? = some l[t / k] := List.getElem?_eq_getElem hi
  have := flatOf_get hk l (t / k) l[t / k] (t % k) hx hm
  rw [show t / k * k + t % k = t from by rw [Nat.mul_comm]; exact Nat.div_add_mod t k] at this
  rw [this]
  have e : l.toArray[t / k]! = l[t / k] := by simp [hi]
  have hj : t % k < (enc l[t / k]).length := by rw [hk]; exact hm
  rw [e, List.getElem?_eq_getElem hj]
  simp [hj]
theorem flatK_flatOf (hk : ∀ x, (enc x).length = k) (h0 : 0 < k) (l : List α) : flatK enc k l.toArray = (flatOf enc l).toArray := by
  refine ext_get! (by simp [flatOf_length hk]) fun t ht => ?_
  have ht' : t < l.length * k := by simpa using ht
  rw [get_flatK _ _ _ t (by simpa using ht')]
  have := flatOf_atK hk h0 l t ht'
  have hl : t < (flatOf enc l).length := by rw [flatOf_length hk]; exact ht'
  rw [List.getElem?_eq_getElem hl] at this
  injection this with this
  rw [← this]
  simp [hl]
theorem holds_ofK (hk : ∀ x, (enc x).length = k) (h0 : 0 < k) {w : World} {base g n cap : Nat} {e : TypeId} {l : List α} (h : w.ownsRow base e k (.slice (some ⟨g, 0, none⟩) n cap) n (flatOf enc l)) (hn : n = l.length) : HoldsK enc k w g 0 l.toArray := by
  subst hn
  intro j hj
  have hj' : j < l.length * k := by simpa using hj
  refine ⟨?_, by simpa using h.frozenAt j⟩
  rw [Nat.zero_add, h.cellAt j hj', get_flatK _ _ _ j (by simpa using hj'), flatOf_atK hk h0 l j hj']
  rfl
theorem owns_putK (hk : ∀ x, (enc x).length = k) (h0 : 0 < k) {w : World} {base g n cap q : Nat} {e : TypeId} {l l' : List α} (h : w.ownsRow base e k (.slice (some ⟨g, 0, none⟩) n cap) n (flatOf enc l)) (hn : n = l.length) (hl : l'.length = l.length) :
    (putRowK enc k (Sort.ahead w q) g 0 l'.toArray).ownsRow base e k (.slice (some ⟨g, 0, none⟩) n cap) n (flatOf enc l') := by
  unfold putRowK
  rw [flatK_flatOf hk h0]
  rcases h.2 with ⟨e0, _⟩ | ⟨g', cap', cur, e0, hb, hg, hnc, hm, hs, ht⟩
  · cases e0
  · injection e0 with e1 _ e3
    injection e1 with e1
    injection e1 with e1
    subst e1; subst e3
    refine ⟨by rw [flatOf_length hk, hn, hl], .inr ⟨g, cap, putCells id 0 (flatOf enc l').toArray cur, rfl, hb, ?_, hnc, hm, by simpa [putCells] using hs, ?_⟩⟩
    · simp [putRow, mapBlock, Sort.ahead, Array.getElem?_modify, hg, onCells]
    · apply List.ext_getElem?
      intro j
      rw [List.getElem?_take, Array.getElem?_toList]
      by_cases hj : j < n * k
      · have hjc : j < cur.size := by have : n * k ≤ cap * k := Nat.mul_le_mul_right _ hnc; omega
        have hjl : j < (flatOf enc l').length := by rw [flatOf_length hk]; rw [hl, ← hn]; exact hj
        simp only [if_pos hj, putCells, Array.getElem?_mapIdx, Array.getElem?_eq_getElem hjc, Option.map_some]
        rw [if_pos (by simpa using hjl), List.getElem?_eq_getElem hjl]
        simp [hjl]
      · have : ¬ j < (flatOf enc l').length := by rw [flatOf_length hk, hl, ← hn]; exact hj
        rw [if_neg hj, List.getElem?_eq_none (by omega)]
theorem put_other (w : World) (q g b : Nat) (d : Array α) (hb : b ≠ g) : (putRowK enc k (Sort.ahead w q) g 0 d).heap[b]? = w.heap[b]? := by
  simp [putRowK, putRow, mapBlock, Sort.ahead, Array.getElem?_modify, Ne.symm hb]
/-- What a sort leaves: the row with the same elements, all else as it was. -/
theorem sorted_own (hk : ∀ x, (enc x).length = k) (h0 : 0 < k) {w w' : World} {base g n cap : Nat} {e : TypeId} {l l' : List α} (h : w.ownsRow base e k (.slice (some ⟨g, 0, none⟩) n cap) n (flatOf enc l)) (hn : n = l.length) (hl : l'.length = l.length) (hw : SWK enc k w g 0 l'.toArray w') :
    w'.ownsRow base e k (.slice (some ⟨g, 0, none⟩) n cap) n (flatOf enc l') ∧ Below base w w' ∧ ∀ b, b < w.heap.size → b ≠ g → w'.heap[b]? = w.heap[b]? := by
  obtain ⟨q, os, rfl⟩ := hw
  have hb : base ≤ g := by
    rcases h.2 with ⟨e0, _⟩ | ⟨g', cap', cur, e0, hb, _⟩
    · cases e0
    · injection e0 with e1 _ e3
      injection e1 with e1
      injection e1 with e1
      rw [e1]; exact hb
  have h1 := owns_putK (q := q) hk h0 h hn hl
  have h2 := below_putRow (enc := id) (q := q) (d := flatK enc k l'.toArray) (Below.refl base w) hb
  have hsz : (putRowK enc k (Sort.ahead w q) g 0 l'.toArray).heap.size = w.heap.size := by simp [putRowK, putRow, mapBlock, Sort.ahead]
  refine ⟨ownsRow_grow h1 0 os, h2.trans (below_grow base _ (by
    have := h2.size
    rcases h.2 with ⟨e0, _⟩ | ⟨g', cap', cur, e0, hb', hg, _⟩
    · cases e0
    · have : g' < w.heap.size := (Array.getElem?_eq_some_iff.1 hg).1
      show base ≤ (putRowK enc k (Sort.ahead w q) g 0 l'.toArray).heap.size
      rw [hsz]; omega) 0 os), fun b h3 h4 => ?_⟩
  show ((putRowK enc k (Sort.ahead w q) g 0 l'.toArray).heap ++ os)[b]? = _
  rw [Array.getElem?_append_left (by rw [hsz]; exact h3)]
  exact put_other w q g b _ h4
end Go.Proofs.Ytphinkcfmdnpfaa
