/-
  Walks: a stable sort's ranges exchanged, turned round a middle: whatever the elements, of k cells each.
-/
import Derived.Test.YtacddgipcafdlaaStab
import Derived.Test.YtacddgipcafdlaaProg
import Derived.Shelf.SlSortCmp.KitK
import Derived.Shelf.SlSorted.Search
import Derived.Sort.WalkB2
import Derived.Sort.WalkB12
import Derived.Deep.LoopGhost
import Derived.Lib.Hide
namespace Go.Proofs.Ytacddgipcafdlaa
open Go.Shelf Go.RowKit Go.Lib Go.Sort
variable {P : Program} {α : Type} [Inhabited α] {k : Nat}

/-- What the walks ask of a program: some functions as in this one, some types, and elements of k cells. -/
structure SortP (P : Program) (k : Nat) : Prop where
  mixed : P.follows .mixedOrders = true
  swapRange : P.funcs[159]? = Try.prog.funcs[159]?
  rotate : P.funcs[158]? = Try.prog.funcs[158]?
  symMerge : P.funcs[156]? = Try.prog.funcs[156]?
  stable : P.funcs[151]? = Try.prog.funcs[151]?
  insertionSort : P.funcs[155]? = Try.prog.funcs[155]?
  t0 : P.underlying 0 = Try.prog.underlying 0
  a0 : ∀ w, (isAgg 0).run P w = .ok false w
  z0 : ∀ w, (Go.sizeOf 0).run P w = .ok 1 w
  t3 : P.underlying 3 = Try.prog.underlying 3
  a3 : ∀ w, (isAgg 3).run P w = .ok false w
  z3 : ∀ w, (Go.sizeOf 3).run P w = .ok 1 w
  t4 : P.underlying 4 = Try.prog.underlying 4
  a4 : ∀ w, (isAgg 4).run P w = .ok false w
  z4 : ∀ w, (Go.sizeOf 4).run P w = .ok 1 w
  t22 : P.underlying 58 = Try.prog.underlying 58
  a22 : ∀ w, (isAgg 58).run P w = .ok false w
  z22 : ∀ w, (Go.sizeOf 58).run P w = .ok 1 w
  t25 : P.underlying 131 = Try.prog.underlying 131
  a25 : ∀ w, (isAgg 131).run P w = .ok false w
  z25 : ∀ w, (Go.sizeOf 131).run P w = .ok 1 w
  t9 : P.underlying 176 = Try.prog.underlying 176
  a9 : ∀ w, (isAgg 176).run P w = .ok false w
  z9 : ∀ w, (Go.sizeOf 176).run P w = .ok 1 w
  v0 : ∀ w, (zeroValue 0).run P w = .ok (Value.tuple #[]) w
  v3 : ∀ w, (zeroValue 3).run P w = .ok (Value.int .i64 0) w
  v4 : ∀ w, (zeroValue 4).run P w = .ok (Value.bool false) w
  v22 : ∀ w, (zeroValue 58).run P w = .ok (Value.slice none 0 0) w
  v25 : ∀ w, (zeroValue 131).run P w = .ok Value.nilFunc w
  v9 : ∀ w, (zeroValue 176).run P w = .ok (Value.int .u64 0) w
  aE : ∀ w, (isAgg 72).run P w = .ok true w
  zE : ∀ w, (Go.sizeOf 72).run P w = .ok k w

set_option maxHeartbeats 4000000 in
set_option maxRecDepth 1000000 in
theorem swapRange_w (L : SortP P k) (enc : α → List Value) (g : Nat) (cb : Array Value) (blk off cap a b n : Nat) (d0 d : Array α) (w0 w : World)
    (R : RowK enc k w0 blk off d0) (hs : d0.size = d.size) (S : SWK enc k w0 blk off d w) (hab : a + n ≤ b) (hb : b + n ≤ d.size) (hsz : d.size < 4611686018427387904) :
    Calls P 159 #[.slice (some ⟨blk, off, none⟩) d.size cap, .int .i64 a, .int .i64 b, .int .i64 n, .func (.func g) #[] cb] w fun e w' => e = .returned (.tuple #[]) ∧ SWK enc k w0 blk off (swpR d a b n) w' := by
  have mixed := L.mixed; have t0 := L.t0.trans Try.underlying0; have a0 := L.a0; have z0 := L.z0; have v0 := L.v0; have t3 := L.t3.trans Try.underlying3; have a3 := L.a3; have z3 := L.z3; have v3 := L.v3; have t4 := L.t4.trans Try.underlying4; have a4 := L.a4; have z4 := L.z4; have v4 := L.v4; have t22 := L.t22.trans Try.underlying58; have a22 := L.a22; have z22 := L.z22; have v22 := L.v22; have t25 := L.t25.trans Try.underlying131; have a25 := L.a25; have z25 := L.z25; have v25 := L.v25; have t9 := L.t9.trans Try.underlying176; have a9 := L.a9; have z9 := L.z9; have v9 := L.v9; have aE := L.aE; have zE := L.zE
  have u0 := run_underlying t0; have u3 := run_underlying t3; have u4 := run_underlying t4; have u22 := run_underlying t22; have u25 := run_underlying t25; have u9 := run_underlying t9
  have FG := L.swapRange.trans Try.func159
  have S0 : Aside (SWK enc k w0 blk off d w) := S
  clear S
  go_enter FG, Try.ntmps159
  go_wp2
  go_loopg [10] n (fun kx s10 wr => ∃ (i : Nat), s10 = .int .i64 i ∧ i ≤ n ∧ n - i ≤ kx ∧ Aside (SWK enc k w0 blk off (swpR d a b i) wr))
  case atStart => exact ⟨0, rfl, Nat.zero_le _, Nat.le_refl _, S0⟩
  case round =>
    clear S0
    obtain ⟨i, rfl, hin, hkx, S1⟩ := hrel
    by_cases hlt : i < n
    · have hltz : (i : Int) < (n : Int) := by omega
      have hds : (swpR d a b i).size = d.size := swpR_size d a b i
      obtain ⟨dk, hdk⟩ : ∃ dk, swpR d a b i = dk := ⟨_, rfl⟩
      have hnx : swpR d a b (i + 1) = swp dk (a + i) (b + i) := by rw [← hdk]; rfl
      rw [hdk] at S1 hds
      have HN := Lib.hid hnx
      clear hdk hnx
      go_wp2_with fail
      have ea1 : ((a : Int) + (i : Int)).toNat = a + i := by omega
      have pa1 : (0 : Int) ≤ (a : Int) + (i : Int) := by omega
      have ba1 : (a : Int) + (i : Int) < (d.size : Int) := by omega
      have ra1 : IntKind.i64.wrap ((a : Int) + (i : Int)) = (a : Int) + (i : Int) := by rw [IntKind.wrap_i64]; omega
      have ec1 : ((b : Int) + (i : Int)).toNat = b + i := by omega
      have pc1 : (0 : Int) ≤ (b : Int) + (i : Int) := by omega
      have bc1 : (b : Int) + (i : Int) < (d.size : Int) := by omega
      have rc1 : IntKind.i64.wrap ((b : Int) + (i : Int)) = (b : Int) + (i : Int) := by rw [IntKind.wrap_i64]; omega
      have S2 : Aside (SWK enc k w0 blk off (swp dk (a + i) (b + i)) ((wr.drew.setCells blk (off + (a + i) * k) (enc dk[b + i]!)).setCells blk (off + (b + i) * k) (enc dk[a + i]!))) := S1.out.swapped R (a + i) (b + i) (by omega) (by omega)
      have l1a := S1.out.ld1 R (by omega) P (a + i) (by omega)
      have l1b := S1.out.ld1 R (by omega) P (b + i) (by omega)
      have s1a := S1.out.st1 R (by omega) P (a + i) (by omega) dk[b + i]!
      have s1b := S1.out.st2 R (by omega) P (a + i) (b + i) (by omega) (by omega) dk[b + i]! dk[a + i]!
      have n1a : (enc dk[a + i]!).length = k := R.hk _
      have n1b : (enc dk[b + i]!).length = k := R.hk _
      generalize enc dk[a + i]! = cI1 at S2 l1a s1b n1a
      generalize enc dk[b + i]! = cJ1 at S2 l1b s1a s1b n1b
      clear S1
      go_wp2_with fail
      go_big_region_o
      clear l1a l1b s1a s1b
      generalize (wr.drew.setCells blk (off + (a + i) * k) cJ1).setCells blk (off + (b + i) * k) cI1 = w2 at S2 ⊢
      go_wp2
      go_roundg (n - (i + 1))
      case measure => omega
      case rel => exact ⟨i + 1, by go_num, by omega, Nat.le_refl _, by rw [HN.out]; exact S2⟩
    · obtain rfl : i = n := by omega
      go_wp2
      go_end0
      exact ⟨rfl, S1.out⟩

set_option maxHeartbeats 4000000 in
set_option maxRecDepth 1000000 in
theorem rotate_w (L : SortP P k) (enc : α → List Value) (g : Nat) (cb : Array Value) (blk off cap a m b : Nat) (d0 d : Array α) (w0 w : World)
    (R : RowK enc k w0 blk off d0) (hs : d0.size = d.size) (S : SWK enc k w0 blk off d w) (ham : a < m) (hmb : m < b) (hb : b ≤ d.size) (hsz : d.size < 4611686018427387904) :
    Calls P 158 #[.slice (some ⟨blk, off, none⟩) d.size cap, .int .i64 a, .int .i64 m, .int .i64 b, .func (.func g) #[] cb] w fun e w' => e = .returned (.tuple #[]) ∧ ∃ d', Turned a m b d d' ∧ SWK enc k w0 blk off d' w' := by
  have mixed := L.mixed; have t0 := L.t0.trans Try.underlying0; have a0 := L.a0; have z0 := L.z0; have v0 := L.v0; have t3 := L.t3.trans Try.underlying3; have a3 := L.a3; have z3 := L.z3; have v3 := L.v3; have t4 := L.t4.trans Try.underlying4; have a4 := L.a4; have z4 := L.z4; have v4 := L.v4; have t22 := L.t22.trans Try.underlying58; have a22 := L.a22; have z22 := L.z22; have v22 := L.v22; have t25 := L.t25.trans Try.underlying131; have a25 := L.a25; have z25 := L.z25; have v25 := L.v25; have t9 := L.t9.trans Try.underlying176; have a9 := L.a9; have z9 := L.z9; have v9 := L.v9; have aE := L.aE; have zE := L.zE
  have u0 := run_underlying t0; have u3 := run_underlying t3; have u4 := run_underlying t4; have u22 := run_underlying t22; have u25 := run_underlying t25; have u9 := run_underlying t9
  have FG := L.rotate.trans Try.func158
  have eS : ∀ args w, (callFunc 159 args).run P w = .ok (.enter 159 args) w := enters_of (L.swapRange.trans Try.func159) (by kernel_rfl) rfl
  have S0 : Aside (SWK enc k w0 blk off d w) := S
  clear S
  go_enter FG, Try.ntmps158
  go_wp2
  go_loopg [10, 11] (b - a) (fun kx s10 s11 wr => ∃ (i j : Nat) (dk : Array α), s10 = .int .i64 i ∧ s11 = .int .i64 j ∧ i + j ≤ kx ∧ dk.size = d.size ∧ Aside (Turns a m b i j d dk) ∧ Aside (SWK enc k w0 blk off dk wr))
  case atStart => exact ⟨m - a, b - m, d, by congr 1; omega, by congr 1; omega, by omega, rfl, Turns.start a m b d ham hmb, S0⟩
  case round =>
    clear S0
    obtain ⟨i, j, dk, rfl, rfl, hkx, hds, T, S1⟩ := hrel
    have i0 := T.out.i0; have j0 := T.out.j0; have ia := T.out.ia; have jb := T.out.jb
    by_cases hij : i = j
    · subst hij
      have hc := swapRange_w L enc g cb blk off cap (m - i) m i d0 dk w0 wr R (by omega) S1.out (by omega) (by omega) (by omega)
      rw [show ((m - i : Nat) : Int) = (m : Int) - (i : Int) by omega, hds] at hc
      go_wp2_with (go_at_fn 159; refine hc.mono ?_; rintro e w1 ⟨rfl, hw1⟩; have S2 : Aside _ := hw1; clear hw1)
      go_end0
      exact ⟨rfl, _, T.out.last hb, S2.out⟩
    · have hne : ((i : Int) = (j : Int)) = False := by simp; omega
      have hne' : ¬ (i : Int) = (j : Int) := by omega
      by_cases hlt : j < i
      · have hltz : (j : Int) < (i : Int) := by omega
        have hc := swapRange_w L enc g cb blk off cap (m - i) m j d0 dk w0 wr R (by omega) S1.out (by omega) (by omega) (by omega)
        rw [show ((m - i : Nat) : Int) = (m : Int) - (i : Int) by omega, hds] at hc
        go_wp2_with (go_at_fn 159; refine hc.mono ?_; rintro e w1 ⟨rfl, hw1⟩; have S2 : Aside _ := hw1; clear hw1)
        go_roundg (i - j + j)
        case measure => omega
        case rel => exact ⟨i - j, j, _, by congr 1; omega, rfl, Nat.le_refl _, by rw [swpR_size]; exact hds, T.out.left hb hlt, S2⟩
      · have hltz : ¬ (j : Int) < (i : Int) := by omega
        have hc := swapRange_w L enc g cb blk off cap (m - i) (m + j - i) i d0 dk w0 wr R (by omega) S1.out (by omega) (by omega) (by omega)
        rw [show ((m - i : Nat) : Int) = (m : Int) - (i : Int) by omega, show ((m + j - i : Nat) : Int) = (m : Int) + (j : Int) - (i : Int) by omega, hds] at hc
        go_wp2_with (go_at_fn 159; refine hc.mono ?_; rintro e w1 ⟨rfl, hw1⟩; have S2 : Aside _ := hw1; clear hw1)
        go_roundg (i + (j - i))
        case measure => omega
        case rel => exact ⟨i, j - i, _, rfl, by congr 1; omega, Nat.le_refl _, by rw [swpR_size]; exact hds, T.out.right hb (by omega), S2⟩
end Go.Proofs.Ytacddgipcafdlaa
