/-
  Walks: two rows in order that lie side by side, merged in place.
-/
import Derived.Test.YtphinkcfmdnpfaaStab
import Derived.Test.YtphinkcfmdnpfaaProg
import Derived.Shelf.SlSortCmp.KitK
import Derived.Shelf.SlSorted.Search
import Derived.Sort.WalkB2
import Derived.Sort.WalkB12
import Derived.Deep.LoopGhost
import Derived.Lib.Hide
namespace Go.Proofs.Ytphinkcfmdnpfaa
open Go.Shelf Go.RowKit Go.Lib Go.Sort
variable {P : Program} {α : Type} [Inhabited α] {k : Nat}

/-- What the walks ask of a program: some functions as in this one, some types, and elements of k cells. -/
structure SortP (P : Program) (k : Nat) : Prop where
  mixed : P.follows .mixedOrders = true
  swapRange : P.funcs[188]? = Try.prog.funcs[188]?
  rotate : P.funcs[181]? = Try.prog.funcs[181]?
  symMerge : P.funcs[168]? = Try.prog.funcs[168]?
  stable : P.funcs[159]? = Try.prog.funcs[159]?
  insertionSort : P.funcs[167]? = Try.prog.funcs[167]?
  t0 : P.underlying 0 = Try.prog.underlying 0
  a0 : ∀ w, (isAgg 0).run P w = .ok false w
  z0 : ∀ w, (Go.sizeOf 0).run P w = .ok 1 w
  t3 : P.underlying 3 = Try.prog.underlying 3
  a3 : ∀ w, (isAgg 3).run P w = .ok false w
  z3 : ∀ w, (Go.sizeOf 3).run P w = .ok 1 w
  t4 : P.underlying 4 = Try.prog.underlying 4
  a4 : ∀ w, (isAgg 4).run P w = .ok false w
  z4 : ∀ w, (Go.sizeOf 4).run P w = .ok 1 w
  t22 : P.underlying 23 = Try.prog.underlying 23
  a22 : ∀ w, (isAgg 23).run P w = .ok false w
  z22 : ∀ w, (Go.sizeOf 23).run P w = .ok 1 w
  t25 : P.underlying 129 = Try.prog.underlying 129
  a25 : ∀ w, (isAgg 129).run P w = .ok false w
  z25 : ∀ w, (Go.sizeOf 129).run P w = .ok 1 w
  t9 : P.underlying 191 = Try.prog.underlying 191
  a9 : ∀ w, (isAgg 191).run P w = .ok false w
  z9 : ∀ w, (Go.sizeOf 191).run P w = .ok 1 w
  v0 : ∀ w, (zeroValue 0).run P w = .ok (Value.tuple #[]) w
  v3 : ∀ w, (zeroValue 3).run P w = .ok (Value.int .i64 0) w
  v4 : ∀ w, (zeroValue 4).run P w = .ok (Value.bool false) w
  v22 : ∀ w, (zeroValue 23).run P w = .ok (Value.slice none 0 0) w
  v25 : ∀ w, (zeroValue 129).run P w = .ok Value.nilFunc w
  v9 : ∀ w, (zeroValue 191).run P w = .ok (Value.int .u64 0) w
  aE : ∀ w, (isAgg 70).run P w = .ok true w
  zE : ∀ w, (Go.sizeOf 70).run P w = .ok k w

set_option maxHeartbeats 4000000 in
set_option maxRecDepth 1000000 in
theorem swapRange_w (L : SortP P k) (enc : α → List Value) (g : Nat) (cb : Array Value) (blk off cap a b n : Nat) (d0 d : Array α) (w0 w : World)
    (R : RowK enc k w0 blk off d0) (hs : d0.size = d.size) (S : SWK enc k w0 blk off d w) (hab : a + n ≤ b) (hb : b + n ≤ d.size) (hsz : d.size < 4611686018427387904) :
    Calls P 188 #[.slice (some ⟨blk, off, none⟩) d.size cap, .int .i64 a, .int .i64 b, .int .i64 n, .func (.func g) #[] cb] w fun e w' => e = .returned (.tuple #[]) ∧ SWK enc k w0 blk off (swpR d a b n) w' := by
  have mixed := L.mixed; have t0 := L.t0.trans Try.underlying0; have a0 := L.a0; have z0 := L.z0; have v0 := L.v0; have t3 := L.t3.trans Try.underlying3; have a3 := L.a3; have z3 := L.z3; have v3 := L.v3; have t4 := L.t4.trans Try.underlying4; have a4 := L.a4; have z4 := L.z4; have v4 := L.v4; have t22 := L.t22.trans Try.underlying23; have a22 := L.a22; have z22 := L.z22; have v22 := L.v22; have t25 := L.t25.trans Try.underlying129; have a25 := L.a25; have z25 := L.z25; have v25 := L.v25; have t9 := L.t9.trans Try.underlying191; have a9 := L.a9; have z9 := L.z9; have v9 := L.v9; have aE := L.aE; have zE := L.zE
  have u0 := run_underlying t0; have u3 := run_underlying t3; have u4 := run_underlying t4; have u22 := run_underlying t22; have u25 := run_underlying t25; have u9 := run_underlying t9
  have FG := L.swapRange.trans Try.func188
  have S0 : Aside (SWK enc k w0 blk off d w) := S
  clear S
  go_enter FG, Try.ntmps188
  go_wp2
  go_loopg [10] n (fun kx s10 wr => ∃ (i : Nat), s10 = .int .i64 i ∧ i ≤ n ∧ n - i ≤ kx ∧ Aside (SWK enc k w0 blk off (swpR d a b i) wr))
  case atStart => exact ⟨0, rfl, Nat.zero_le _, Nat.le_refl _, S0⟩
  case round =>
    clear S0
    obtain ⟨i, rfl, hin, hkx, S1⟩ := hrel
    by_cases hlt : i < n
    · have hltz : (i : Int) < (n : Int) := by omega
      have hds : (swpR d a b i).size = d.size := swpR_size d a b i
      obtain ⟨dk, hdk⟩ : ∃ dk, swpR d a b i = dk := ⟨_, rfl⟩
      have hnx : swpR d a b (i + 1) = swp dk (a + i) (b + i) := by rw [← hdk]; rfl
      rw [hdk] at S1 hds
      have HN := Lib.hid hnx
      clear hdk hnx
      go_wp2_with fail
      have ea1 : ((a : Int) + (i : Int)).toNat = a + i := by omega
      have pa1 : (0 : Int) ≤ (a : Int) + (i : Int) := by omega
      have ba1 : (a : Int) + (i : Int) < (d.size : Int) := by omega
      have ra1 : IntKind.i64.wrap ((a : Int) + (i : Int)) = (a : Int) + (i : Int) := by rw [IntKind.wrap_i64]; omega
      have ec1 : ((b : Int) + (i : Int)).toNat = b + i := by omega
      have pc1 : (0 : Int) ≤ (b : Int) + (i : Int) := by omega
      have bc1 : (b : Int) + (i : Int) < (d.size : Int) := by omega
      have rc1 : IntKind.i64.wrap ((b : Int) + (i : Int)) = (b : Int) + (i : Int) := by rw [IntKind.wrap_i64]; omega
      have S2 : Aside (SWK enc k w0 blk off (swp dk (a + i) (b + i)) ((wr.drew.setCells blk (off + (a + i) * k) (enc dk[b + i]!)).setCells blk (off + (b + i) * k) (enc dk[a + i]!))) := S1.out.swapped R (a + i) (b + i) (by omega) (by omega)
      have l1a := S1.out.ld1 R (by omega) P (a + i) (by omega)
      have l1b := S1.out.ld1 R (by omega) P (b + i) (by omega)
      have s1a := S1.out.st1 R (by omega) P (a + i) (by omega) dk[b + i]!
      have s1b := S1.out.st2 R (by omega) P (a + i) (b + i) (by omega) (by omega) dk[b + i]! dk[a + i]!
      have n1a : (enc dk[a + i]!).length = k := R.hk _
      have n1b : (enc dk[b + i]!).length = k := R.hk _
      generalize enc dk[a + i]! = cI1 at S2 l1a s1b n1a
      generalize enc dk[b + i]! = cJ1 at S2 l1b s1a s1b n1b
      clear S1
      go_wp2_with fail
      go_big_region_o
      clear l1a l1b s1a s1b
      generalize (wr.drew.setCells blk (off + (a + i) * k) cJ1).setCells blk (off + (b + i) * k) cI1 = w2 at S2 ⊢
      go_wp2
      go_roundg (n - (i + 1))
      case measure => omega
      case rel => exact ⟨i + 1, by go_num, by omega, Nat.le_refl _, by rw [HN.out]; exact S2⟩
    · obtain rfl : i = n := by omega
      go_wp2
      go_end0
      exact ⟨rfl, S1.out⟩

set_option maxHeartbeats 4000000 in
set_option maxRecDepth 1000000 in
theorem rotate_w (L : SortP P k) (enc : α → List Value) (g : Nat) (cb : Array Value) (blk off cap a m b : Nat) (d0 d : Array α) (w0 w : World)
    (R : RowK enc k w0 blk off d0) (hs : d0.size = d.size) (S : SWK enc k w0 blk off d w) (ham : a < m) (hmb : m < b) (hb : b ≤ d.size) (hsz : d.size < 4611686018427387904) :
    Calls P 181 #[.slice (some ⟨blk, off, none⟩) d.size cap, .int .i64 a, .int .i64 m, .int .i64 b, .func (.func g) #[] cb] w fun e w' => e = .returned (.tuple #[]) ∧ ∃ d', Turned a m b d d' ∧ SWK enc k w0 blk off d' w' := by
  have mixed := L.mixed; have t0 := L.t0.trans Try.underlying0; have a0 := L.a0; have z0 := L.z0; have v0 := L.v0; have t3 := L.t3.trans Try.underlying3; have a3 := L.a3; have z3 := L.z3; have v3 := L.v3; have t4 := L.t4.trans Try.underlying4; have a4 := L.a4; have z4 := L.z4; have v4 := L.v4; have t22 := L.t22.trans Try.underlying23; have a22 := L.a22; have z22 := L.z22; have v22 := L.v22; have t25 := L.t25.trans Try.underlying129; have a25 := L.a25; have z25 := L.z25; have v25 := L.v25; have t9 := L.t9.trans Try.underlying191; have a9 := L.a9; have z9 := L.z9; have v9 := L.v9; have aE := L.aE; have zE := L.zE
  have u0 := run_underlying t0; have u3 := run_underlying t3; have u4 := run_underlying t4; have u22 := run_underlying t22; have u25 := run_underlying t25; have u9 := run_underlying t9
  have FG := L.rotate.trans Try.func181
  have eS : ∀ args w, (callFunc 188 args).run P w = .ok (.enter 188 args) w := enters_of (L.swapRange.trans Try.func188) (by kernel_rfl) rfl
  have S0 : Aside (SWK enc k w0 blk off d w) := S
  clear S
  go_enter FG, Try.ntmps181
  go_wp2
  go_loopg [10, 11] (b - a) (fun kx s10 s11 wr => ∃ (i j : Nat) (dk : Array α), s10 = .int .i64 i ∧ s11 = .int .i64 j ∧ i + j ≤ kx ∧ dk.size = d.size ∧ Aside (Turns a m b i j d dk) ∧ Aside (SWK enc k w0 blk off dk wr))
  case atStart => exact ⟨m - a, b - m, d, by congr 1; omega, by congr 1; omega, by omega, rfl, Turns.start a m b d ham hmb, S0⟩
  case round =>
    clear S0
    obtain ⟨i, j, dk, rfl, rfl, hkx, hds, T, S1⟩ := hrel
    have i0 := T.out.i0; have j0 := T.out.j0; have ia := T.out.ia; have jb := T.out.jb
    by_cases hij : i = j
    · subst hij
      have hc := swapRange_w L enc g cb blk off cap (m - i) m i d0 dk w0 wr R (by omega) S1.out (by omega) (by omega) (by omega)
      rw [show ((m - i : Nat) : Int) = (m : Int) - (i : Int) by omega, hds] at hc
      go_wp2_with (go_at_fn 188; refine hc.mono ?_; rintro e w1 ⟨rfl, hw1⟩; have S2 : Aside _ := hw1; clear hw1)
      go_end0
      exact ⟨rfl, _, T.out.last hb, S2.out⟩
    · have hne : ((i : Int) = (j : Int)) = False := by simp; omega
      have hne' : ¬ (i : Int) = (j : Int) := by omega
      by_cases hlt : j < i
      · have hltz : (j : Int) < (i : Int) := by omega
        have hc := swapRange_w L enc g cb blk off cap (m - i) m j d0 dk w0 wr R (by omega) S1.out (by omega) (by omega) (by omega)
        rw [show ((m - i : Nat) : Int) = (m : Int) - (i : Int) by omega, hds] at hc
        go_wp2_with (go_at_fn 188; refine hc.mono ?_; rintro e w1 ⟨rfl, hw1⟩; have S2 : Aside _ := hw1; clear hw1)
        go_roundg (i - j + j)
        case measure => omega
        case rel => exact ⟨i - j, j, _, by congr 1; omega, rfl, Nat.le_refl _, by rw [swpR_size]; exact hds, T.out.left hb hlt, S2⟩
      · have hltz : ¬ (j : Int) < (i : Int) := by omega
        have hc := swapRange_w L enc g cb blk off cap (m - i) (m + j - i) i d0 dk w0 wr R (by omega) S1.out (by omega) (by omega) (by omega)
        rw [show ((m - i : Nat) : Int) = (m : Int) - (i : Int) by omega, show ((m + j - i : Nat) : Int) = (m : Int) + (j : Int) - (i : Int) by omega, hds] at hc
        go_wp2_with (go_at_fn 188; refine hc.mono ?_; rintro e w1 ⟨rfl, hw1⟩; have S2 : Aside _ := hw1; clear hw1)
        go_roundg (i + (j - i))
        case measure => omega
        case rel => exact ⟨i, j - i, _, rfl, by congr 1; omega, Nat.le_refl _, by rw [swpR_size]; exact hds, T.out.right hb (by omega), S2⟩
end Go.Proofs.Ytphinkcfmdnpfaa
namespace Go.Proofs.Ytphinkcfmdnpfaa
open Go.Shelf Go.RowKit Go.Lib Go.Sort
variable {P : Program} {α : Type} [Inhabited α] {k : Nat}

set_option maxHeartbeats 8000000 in
set_option maxRecDepth 1000000 in
theorem sym_first (L : SortP P k) (enc : α → List Value) (cf : α → α → Int) (hO : SWO (ltOf cf)) (g : Nat) (cb : Array Value) (blk off cap a m b : Nat) (d0 d : Array α) (w0 w : World) (eg : ∀ args w, (callFunc g args).run P w = .ok (.enter g args) w) (hcmp : CmpLays P g cb enc k cf blk off d0.size w0)
    (R : RowK enc k w0 blk off d0) (hs : d0.size = d.size) (S : SWK enc k w0 blk off d w) (hm : m = a + 1) (hab : m < b) (hb : b ≤ d.size) (hsz : d.size < 4611686018427387904) (h2 : SortedIn (ltOf cf) m b d) :
    Calls P 168 #[.slice (some ⟨blk, off, none⟩) d.size cap, .int .i64 a, .int .i64 m, .int .i64 b, .func (.func g) #[] cb] w fun e w' => e = .returned (.tuple #[]) ∧ ∃ d', PermIn a b d d' ∧ SortedIn (ltOf cf) a b d' ∧ SWK enc k w0 blk off d' w' := by
  have mixed := L.mixed; have t0 := L.t0.trans Try.underlying0; have a0 := L.a0; have z0 := L.z0; have v0 := L.v0; have t3 := L.t3.trans Try.underlying3; have a3 := L.a3; have z3 := L.z3; have v3 := L.v3; have t4 := L.t4.trans Try.underlying4; have a4 := L.a4; have z4 := L.z4; have v4 := L.v4; have t22 := L.t22.trans Try.underlying23; have a22 := L.a22; have z22 := L.z22; have v22 := L.v22; have t25 := L.t25.trans Try.underlying129; have a25 := L.a25; have z25 := L.z25; have v25 := L.v25; have t9 := L.t9.trans Try.underlying191; have a9 := L.a9; have z9 := L.z9; have v9 := L.v9; have aE := L.aE; have zE := L.zE
  have u0 := run_underlying t0; have u3 := run_underlying t3; have u4 := run_underlying t4; have u22 := run_underlying t22; have u25 := run_underlying t25; have u9 := run_underlying t9
  have FG := L.symMerge.trans Try.func168
  have HC : Aside _ := hcmp
  have S0 : Aside (SWK enc k w0 blk off d w) := S
  clear S hcmp
  have HM := Lib.hid hm
  have hm1 : (m : Int) - (a : Int) = 1 := by omega
  clear hm
  have H2 : Aside (SortedIn (ltOf cf) m b d) := h2
  have MO : Aside (∀ c c', m ≤ c → c ≤ c' → c' < b → ltOf cf d[c']! d[a]! = true → ltOf cf d[c]! d[a]! = true) := fun c c' h3 h4 h5 => first_mono hO h2 c c' h3 h4 h5
  clear h2
  go_enter FG, Try.ntmps168
  go_wp2
  go_loopg [10, 11] (b - m) (fun kx s10 s11 wr => ∃ (i j : Nat), s10 = .int .i64 i ∧ s11 = .int .i64 j ∧ j - i ≤ kx ∧ m ≤ i ∧ i ≤ j ∧ j ≤ b ∧ Aside (Halves (fun c => ltOf cf d[c]! d[a]!) m b i j) ∧ Aside (SWK enc k w0 blk off d wr))
  case atStart => exact ⟨m, b, rfl, rfl, Nat.le_refl _, Nat.le_refl _, by omega, Nat.le_refl _, Halves.start _ (by omega), S0⟩
  case round =>
    clear S0
    obtain ⟨i, j, rfl, rfl, hkx, hmi, hij, hjb, HH, S1⟩ := hrel
    by_cases hlt : i < j
    · have hltz : (i : Int) < (j : Int) := by omega
      cases hlv : ltOf cf d[(i + j) / 2]! d[a]! with
      | true =>
        have HL : Aside (ltOf cf d[(i + j) / 2]! d[a]! = true) := hlv
        have ea1 : (((i : Int) + (j : Int)) / 2).toNat = (i + j) / 2 := by omega
        have pa1 : (0 : Int) ≤ ((i : Int) + (j : Int)) / 2 := by omega
        have ba1 : ((i : Int) + (j : Int)) / 2 < (d.size : Int) := by omega
        have ra1 : IntKind.i64.wrap (((i : Int) + (j : Int)) / 2) = ((i : Int) + (j : Int)) / 2 := by rw [IntKind.wrap_i64]; omega
        have ec1 : ((a : Int)).toNat = a := by omega
        have pc1 : (0 : Int) ≤ (a : Int) := by omega
        have bc1 : (a : Int) < (d.size : Int) := by omega
        have rc1 : IntKind.i64.wrap ((a : Int)) = (a : Int) := by rw [IntKind.wrap_i64]; omega
        obtain ⟨x1, hx1⟩ : ∃ x, x = d[(i + j) / 2]! := ⟨_, rfl⟩
        obtain ⟨y1, hy1⟩ : ∃ x, x = d[a]! := ⟨_, rfl⟩
        have l1a := S1.out.ld R (by omega) P ((i + j) / 2) (by omega)
        have l1b := S1.out.ld R (by omega) P (a) (by omega)
        rw [← hx1] at l1a
        rw [← hy1] at l1b
        have hc1 := S1.out.cmp HC.out (by omega) x1 y1
        have hv1 : cf x1 y1 < 0 := by rw [hx1, hy1]; exact of_decide_eq_true hlv
        have hd1 : decide (cf x1 y1 < 0) = true := decide_eq_true hv1
        clear hx1 hy1
        go_wp2_with fail
        go_quiet_grown (first | (go_at_fn g; refine Calls.grown_of (hc1 _ _)))
        have S2 : Aside (SWK enc k w0 blk off d (grow (wr.drewN nq) osq)) := S1.out.grown nq osq
        clear l1a l1b hc1 S1
        generalize grow (wr.drewN nq) osq = w2 at S2 ⊢
        clear nq osq
        go_wp2
        go_roundg (j - ((i + j) / 2 + 1))
        case measure => omega
        case rel => exact ⟨(i + j) / 2 + 1, j, by first | rfl | (congr 1; omega), rfl, Nat.le_refl _, by omega, by omega, hjb, HH.out.up MO.out (by omega) (by omega) HL.out, S2⟩
      | false =>
        have HL : Aside (ltOf cf d[(i + j) / 2]! d[a]! = false) := hlv
        have ea2 : (((i : Int) + (j : Int)) / 2).toNat = (i + j) / 2 := by omega
        have pa2 : (0 : Int) ≤ ((i : Int) + (j : Int)) / 2 := by omega
        have ba2 : ((i : Int) + (j : Int)) / 2 < (d.size : Int) := by omega
        have ra2 : IntKind.i64.wrap (((i : Int) + (j : Int)) / 2) = ((i : Int) + (j : Int)) / 2 := by rw [IntKind.wrap_i64]; omega
        have ec2 : ((a : Int)).toNat = a := by omega
        have pc2 : (0 : Int) ≤ (a : Int) := by omega
        have bc2 : (a : Int) < (d.size : Int) := by omega
        have rc2 : IntKind.i64.wrap ((a : Int)) = (a : Int) := by rw [IntKind.wrap_i64]; omega
        obtain ⟨x2, hx2⟩ : ∃ x, x = d[(i + j) / 2]! := ⟨_, rfl⟩
        obtain ⟨y2, hy2⟩ : ∃ x, x = d[a]! := ⟨_, rfl⟩
        have l2a := S1.out.ld R (by omega) P ((i + j) / 2) (by omega)
        have l2b := S1.out.ld R (by omega) P (a) (by omega)
        rw [← hx2] at l2a
        rw [← hy2] at l2b
        have hc2 := S1.out.cmp HC.out (by omega) x2 y2
        have hv2 : ¬ cf x2 y2 < 0 := by rw [hx2, hy2]; exact of_decide_eq_false hlv
        have hd2 : decide (cf x2 y2 < 0) = false := decide_eq_false hv2
        clear hx2 hy2
        go_wp2_with fail
        go_quiet_grown (first | (go_at_fn g; refine Calls.grown_of (hc2 _ _)))
        have S2 : Aside (SWK enc k w0 blk off d (grow (wr.drewN nq) osq)) := S1.out.grown nq osq
        clear l2a l2b hc2 S1
        generalize grow (wr.drewN nq) osq = w2 at S2 ⊢
        clear nq osq
        go_wp2
        go_roundg ((i + j) / 2 - i)
        case measure => omega
        case rel => exact ⟨i, (i + j) / 2, rfl, by first | rfl | (congr 1; omega), Nat.le_refl _, hmi, by omega, by omega, HH.out.down MO.out (by omega) (by omega) HL.out, S2⟩
    · obtain rfl : i = j := by omega
      go_wp2
      go_loopg [13] (i - 1 - a) (fun kx s13 wr2 => ∃ (t : Nat) (dk : Array α), s13 = .int .i64 t ∧ a ≤ t ∧ t ≤ i - 1 ∧ i - 1 - t ≤ kx ∧ dk.size = d.size ∧ Aside (GoesUp a t b d dk) ∧ Aside (SWK enc k w0 blk off dk wr2))
      case atStart => exact ⟨a, d, rfl, Nat.le_refl _, by omega, Nat.le_refl _, rfl, GoesUp.start a b d, S1⟩
      case round =>
        clear S1
        obtain ⟨t, dk, rfl, hat, hti, hkx2, hds, G, S1⟩ := hrel
        by_cases hlt2 : t < i - 1
        · have hltz : (t : Int) < (i : Int) - 1 := by omega
          have ea3 : ((t : Int)).toNat = t := by omega
          have pa3 : (0 : Int) ≤ (t : Int) := by omega
          have ba3 : (t : Int) < (d.size : Int) := by omega
          have ra3 : IntKind.i64.wrap ((t : Int)) = (t : Int) := by rw [IntKind.wrap_i64]; omega
          have ec3 : ((t : Int) + 1).toNat = t + 1 := by omega
          have pc3 : (0 : Int) ≤ (t : Int) + 1 := by omega
          have bc3 : (t : Int) + 1 < (d.size : Int) := by omega
          have rc3 : IntKind.i64.wrap ((t : Int) + 1) = (t : Int) + 1 := by rw [IntKind.wrap_i64]; omega
          have S2 : Aside (SWK enc k w0 blk off (swp dk (t) (t + 1)) ((wr.drew.setCells blk (off + (t) * k) (enc dk[t + 1]!)).setCells blk (off + (t + 1) * k) (enc dk[t]!))) := S1.out.swapped R (t) (t + 1) (by omega) (by omega)
          have l3a := S1.out.ld1 R (by omega) P (t) (by omega)
          have l3b := S1.out.ld1 R (by omega) P (t + 1) (by omega)
          have s3a := S1.out.st1 R (by omega) P (t) (by omega) dk[t + 1]!
          have s3b := S1.out.st2 R (by omega) P (t) (t + 1) (by omega) (by omega) dk[t + 1]! dk[t]!
          have n3a : (enc dk[t]!).length = k := R.hk _
          have n3b : (enc dk[t + 1]!).length = k := R.hk _
          generalize enc dk[t]! = cI3 at S2 l3a s3b n3a
          generalize enc dk[t + 1]! = cJ3 at S2 l3b s3a s3b n3b
          clear S1
          go_wp2_with fail
          go_big_region_o
          clear l3a l3b s3a s3b
          generalize (wr.drew.setCells blk (off + (t) * k) cJ3).setCells blk (off + (t + 1) * k) cI3 = w2 at S2 ⊢
          go_wp2
          go_roundg (i - 1 - (t + 1))
          case measure => omega
          case rel => exact ⟨t + 1, swp dk t (t + 1), by go_num, by omega, by omega, Nat.le_refl _, by rw [size_swp]; exact hds, G.out.step hat (by omega) hb, S2⟩
        · obtain rfl : t = i - 1 := by omega
          have hltz : ¬ (((i - 1 : Nat) : Int) < (i : Int) - 1) := by omega
          go_wp2
          first | go_end0 | go_ret | ((try simp only [Exit.inBlock, Exit.then]); refine bodyPost_ret (results_none rfl _ _ _) rfl ?_)
          have hm := HM.out
          subst hm
          exact ⟨rfl, dk, G.out.perm, first_sorted hO H2.out HH.out G.out, S1.out⟩

set_option maxHeartbeats 8000000 in
set_option maxRecDepth 1000000 in
theorem sym_last (L : SortP P k) (enc : α → List Value) (cf : α → α → Int) (hO : SWO (ltOf cf)) (g : Nat) (cb : Array Value) (blk off cap a m b : Nat) (d0 d : Array α) (w0 w : World) (eg : ∀ args w, (callFunc g args).run P w = .ok (.enter g args) w) (hcmp : CmpLays P g cb enc k cf blk off d0.size w0)
    (R : RowK enc k w0 blk off d0) (hs : d0.size = d.size) (S : SWK enc k w0 blk off d w) (hm : b = m + 1) (hab : a + 2 ≤ m) (hb : b ≤ d.size) (hsz : d.size < 4611686018427387904) (h2 : SortedIn (ltOf cf) a m d) :
    Calls P 168 #[.slice (some ⟨blk, off, none⟩) d.size cap, .int .i64 a, .int .i64 m, .int .i64 b, .func (.func g) #[] cb] w fun e w' => e = .returned (.tuple #[]) ∧ ∃ d', PermIn a b d d' ∧ SortedIn (ltOf cf) a b d' ∧ SWK enc k w0 blk off d' w' := by
  have mixed := L.mixed; have t0 := L.t0.trans Try.underlying0; have a0 := L.a0; have z0 := L.z0; have v0 := L.v0; have t3 := L.t3.trans Try.underlying3; have a3 := L.a3; have z3 := L.z3; have v3 := L.v3; have t4 := L.t4.trans Try.underlying4; have a4 := L.a4; have z4 := L.z4; have v4 := L.v4; have t22 := L.t22.trans Try.underlying23; have a22 := L.a22; have z22 := L.z22; have v22 := L.v22; have t25 := L.t25.trans Try.underlying129; have a25 := L.a25; have z25 := L.z25; have v25 := L.v25; have t9 := L.t9.trans Try.underlying191; have a9 := L.a9; have z9 := L.z9; have v9 := L.v9; have aE := L.aE; have zE := L.zE
  have u0 := run_underlying t0; have u3 := run_underlying t3; have u4 := run_underlying t4; have u22 := run_underlying t22; have u25 := run_underlying t25; have u9 := run_underlying t9
  have FG := L.symMerge.trans Try.func168
  have HC : Aside _ := hcmp
  have S0 : Aside (SWK enc k w0 blk off d w) := S
  clear S hcmp
  have HM := Lib.hid hm
  have hm1 : (b : Int) - (m : Int) = 1 := by omega
  clear hm
  have hm0 : ((m : Int) - (a : Int) == 1) = false := by simp; omega
  have H2 : Aside (SortedIn (ltOf cf) a m d) := h2
  have MO : Aside (∀ c c', a ≤ c → c ≤ c' → c' < m → (!ltOf cf d[m]! d[c']!) = true → (!ltOf cf d[m]! d[c]!) = true) := fun c c' h3 h4 h5 => last_mono hO h2 c c' h3 h4 h5
  clear h2
  go_enter FG, Try.ntmps168
  go_wp2
  go_loopg [14, 15] (m - a) (fun kx s14 s15 wr => ∃ (i j : Nat), s14 = .int .i64 i ∧ s15 = .int .i64 j ∧ j - i ≤ kx ∧ a ≤ i ∧ i ≤ j ∧ j ≤ m ∧ Aside (Halves (fun c => !ltOf cf d[m]! d[c]!) a m i j) ∧ Aside (SWK enc k w0 blk off d wr))
  case atStart => exact ⟨a, m, rfl, rfl, Nat.le_refl _, Nat.le_refl _, by omega, Nat.le_refl _, Halves.start _ (by omega), S0⟩
  case round =>
    clear S0
    obtain ⟨i, j, rfl, rfl, hkx, hmi, hij, hjb, HH, S1⟩ := hrel
    by_cases hlt : i < j
    · have hltz : (i : Int) < (j : Int) := by omega
      cases hlv : ltOf cf d[m]! d[(i + j) / 2]! with
      | false =>
        have HL : Aside ((!ltOf cf d[m]! d[(i + j) / 2]!) = true) := by show _ = _; rw [hlv]; rfl
        have ea1 : ((m : Int)).toNat = m := by omega
        have pa1 : (0 : Int) ≤ (m : Int) := by omega
        have ba1 : (m : Int) < (d.size : Int) := by omega
        have ra1 : IntKind.i64.wrap ((m : Int)) = (m : Int) := by rw [IntKind.wrap_i64]; omega
        have ec1 : (((i : Int) + (j : Int)) / 2).toNat = (i + j) / 2 := by omega
        have pc1 : (0 : Int) ≤ ((i : Int) + (j : Int)) / 2 := by omega
        have bc1 : ((i : Int) + (j : Int)) / 2 < (d.size : Int) := by omega
        have rc1 : IntKind.i64.wrap (((i : Int) + (j : Int)) / 2) = ((i : Int) + (j : Int)) / 2 := by rw [IntKind.wrap_i64]; omega
        obtain ⟨x1, hx1⟩ : ∃ x, x = d[m]! := ⟨_, rfl⟩
        obtain ⟨y1, hy1⟩ : ∃ x, x = d[(i + j) / 2]! := ⟨_, rfl⟩
        have l1a := S1.out.ld R (by omega) P (m) (by omega)
        have l1b := S1.out.ld R (by omega) P ((i + j) / 2) (by omega)
        rw [← hx1] at l1a
        rw [← hy1] at l1b
        have hc1 := S1.out.cmp HC.out (by omega) x1 y1
        have hv1 : ¬ cf x1 y1 < 0 := by rw [hx1, hy1]; exact of_decide_eq_false hlv
        have hd1 : decide (cf x1 y1 < 0) = false := decide_eq_false hv1
        clear hx1 hy1
        go_wp2_with fail
        go_quiet_grown (first | (go_at_fn g; refine Calls.grown_of (hc1 _ _)))
        have S2 : Aside (SWK enc k w0 blk off d (grow (wr.drewN nq) osq)) := S1.out.grown nq osq
        clear l1a l1b hc1 S1
        generalize grow (wr.drewN nq) osq = w2 at S2 ⊢
        clear nq osq
        go_wp2
        go_roundg (j - ((i + j) / 2 + 1))
        case measure => omega
        case rel => exact ⟨(i + j) / 2 + 1, j, by first | rfl | (congr 1; omega), rfl, Nat.le_refl _, by omega, by omega, hjb, HH.out.up MO.out (by omega) (by omega) HL.out, S2⟩
      | true =>
        have HL : Aside ((!ltOf cf d[m]! d[(i + j) / 2]!) = false) := by show _ = _; rw [hlv]; rfl
        have ea2 : ((m : Int)).toNat = m := by omega
        have pa2 : (0 : Int) ≤ (m : Int) := by omega
        have ba2 : (m : Int) < (d.size : Int) := by omega
        have ra2 : IntKind.i64.wrap ((m : Int)) = (m : Int) := by rw [IntKind.wrap_i64]; omega
        have ec2 : (((i : Int) + (j : Int)) / 2).toNat = (i + j) / 2 := by omega
        have pc2 : (0 : Int) ≤ ((i : Int) + (j : Int)) / 2 := by omega
        have bc2 : ((i : Int) + (j : Int)) / 2 < (d.size : Int) := by omega
        have rc2 : IntKind.i64.wrap (((i : Int) + (j : Int)) / 2) = ((i : Int) + (j : Int)) / 2 := by rw [IntKind.wrap_i64]; omega
        obtain ⟨x2, hx2⟩ : ∃ x, x = d[m]! := ⟨_, rfl⟩
        obtain ⟨y2, hy2⟩ : ∃ x, x = d[(i + j) / 2]! := ⟨_, rfl⟩
        have l2a := S1.out.ld R (by omega) P (m) (by omega)
        have l2b := S1.out.ld R (by omega) P ((i + j) / 2) (by omega)
        rw [← hx2] at l2a
        rw [← hy2] at l2b
        have hc2 := S1.out.cmp HC.out (by omega) x2 y2
        have hv2 : cf x2 y2 < 0 := by rw [hx2, hy2]; exact of_decide_eq_true hlv
        have hd2 : decide (cf x2 y2 < 0) = true := decide_eq_true hv2
        clear hx2 hy2
        go_wp2_with fail
        go_quiet_grown (first | (go_at_fn g; refine Calls.grown_of (hc2 _ _)))
        have S2 : Aside (SWK enc k w0 blk off d (grow (wr.drewN nq) osq)) := S1.out.grown nq osq
        clear l2a l2b hc2 S1
        generalize grow (wr.drewN nq) osq = w2 at S2 ⊢
        clear nq osq
        go_wp2
        go_roundg ((i + j) / 2 - i)
        case measure => omega
        case rel => exact ⟨i, (i + j) / 2, rfl, by first | rfl | (congr 1; omega), Nat.le_refl _, hmi, by omega, by omega, HH.out.down MO.out (by omega) (by omega) HL.out, S2⟩
    · obtain rfl : i = j := by omega
      go_wp2
      go_loopg [17] (m - i) (fun kx s17 wr2 => ∃ (t : Nat) (dk : Array α), s17 = .int .i64 t ∧ i ≤ t ∧ t ≤ m ∧ t - i ≤ kx ∧ dk.size = d.size ∧ Aside (GoesDown a m t d dk) ∧ Aside (SWK enc k w0 blk off dk wr2))
      case atStart => exact ⟨m, d, rfl, by omega, Nat.le_refl _, Nat.le_refl _, rfl, GoesDown.start a m d, S1⟩
      case round =>
        clear S1
        obtain ⟨t, dk, rfl, hat, hti, hkx2, hds, G, S1⟩ := hrel
        by_cases hlt2 : i < t
        · obtain ⟨u, rfl⟩ : ∃ u, t = u + 1 := ⟨t - 1, by omega⟩
          have hltz : (i : Int) < (u : Int) + 1 := by omega
          have ea3 : ((u : Int) + 1).toNat = u + 1 := by omega
          have pa3 : (0 : Int) ≤ (u : Int) + 1 := by omega
          have ba3 : (u : Int) + 1 < (d.size : Int) := by omega
          have ra3 : IntKind.i64.wrap ((u : Int) + 1) = (u : Int) + 1 := by rw [IntKind.wrap_i64]; omega
          have ec3 : ((u : Int)).toNat = u := by omega
          have pc3 : (0 : Int) ≤ (u : Int) := by omega
          have bc3 : (u : Int) < (d.size : Int) := by omega
          have rc3 : IntKind.i64.wrap ((u : Int)) = (u : Int) := by rw [IntKind.wrap_i64]; omega
          have S2 : Aside (SWK enc k w0 blk off (swp dk (u + 1) (u)) ((wr.drew.setCells blk (off + (u + 1) * k) (enc dk[u]!)).setCells blk (off + (u) * k) (enc dk[u + 1]!))) := S1.out.swapped R (u + 1) (u) (by omega) (by omega)
          have l3a := S1.out.ld1 R (by omega) P (u + 1) (by omega)
          have l3b := S1.out.ld1 R (by omega) P (u) (by omega)
          have s3a := S1.out.st1 R (by omega) P (u + 1) (by omega) dk[u]!
          have s3b := S1.out.st2 R (by omega) P (u + 1) (u) (by omega) (by omega) dk[u]! dk[u + 1]!
          have n3a : (enc dk[u + 1]!).length = k := R.hk _
          have n3b : (enc dk[u]!).length = k := R.hk _
          generalize enc dk[u + 1]! = cI3 at S2 l3a s3b n3a
          generalize enc dk[u]! = cJ3 at S2 l3b s3a s3b n3b
          clear S1
          go_wp2_with fail
          go_big_region_o
          clear l3a l3b s3a s3b
          generalize (wr.drew.setCells blk (off + (u + 1) * k) cJ3).setCells blk (off + (u) * k) cI3 = w2 at S2 ⊢
          go_wp2
          go_roundg (u - i)
          case measure => omega
          case rel => exact ⟨u, swp dk (u + 1) u, by first | rfl | go_num | (congr 1; omega), by omega, by omega, Nat.le_refl _, by rw [size_swp]; exact hds, G.out.step (by omega) hti (by omega), S2⟩
        · obtain rfl : t = i := by omega
          have hltz : ¬ ((t : Int) < (t : Int)) := by omega
          go_wp2
          first | go_end0 | go_ret | ((try simp only [Exit.inBlock, Exit.then]); refine bodyPost_ret (results_none rfl _ _ _) rfl ?_)
          have hm := HM.out
          subst hm
          exact ⟨rfl, dk, G.out.perm, last_sorted hO H2.out HH.out G.out, S1.out⟩
end Go.Proofs.Ytphinkcfmdnpfaa
