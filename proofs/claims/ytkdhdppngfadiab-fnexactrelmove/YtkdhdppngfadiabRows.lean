/-
  No cell of these rows narrows 'for every input' (looked for: loops, veiled, ifaces, maps, wideKeys, modest, calm, conditions, laid).
  DERIVED. THE GIVEN ROWS OF THIS SEAT. 12 by the template 'for every input the law returns true; each argument reads behind the call as it read before'; 0 by the template 'total and deterministic' (their statements: YtkdhdppngfadiabTotals.lean).
  GIVEN WITH THE SEED: the statements are not yours to turn. If you find one false, say at which input.
  Laid BY PROGRAM, IN A SANDBOX (cutbox-rows.mjs): the forced cells as the released guide's own fill.sh prints them over the translation 6d0dc7ccff808166… (all of the seat's roots in one cut). By AI agents, Wed Nov 11 2026. No macro, syntax, notation, axiom, sorry.
-/
import Derived.Test.YtkdhdppngfadiabChecked
import GoSem.Claim
import GoSem.ClaimJoined
import GoSem.ClaimMapViews
import Derived.JoinedTies
import Derived.KernelRfl
namespace Go.Proofs.Ytkdhdppngfadiab
/- THE CELL 'sum', in the pinned program and in every row, IS THE sha256 OF THE DUMP (.gsa) THAT YtkdhdppngfadiabProg.lean LOADS. Nothing in Lean hashes anything: it is a label: what it is worth is what the hold of that sum in a sandbox is worth. -/
noncomputable def Try.pinned : Pinned := { name := "ytkdhdppngfadiab", sum := "6d0dc7ccff80816656e24f3ea73e54e327b7b949e31e7993e90194cf3b86b1e9", checked := Try.checked }
namespace Rows
def none {H : Type} : Left H := { results := [], args := [] }

/-- 'laws.FnExactRelInsert': WHATEVER THE INPUT: true; the input reads as it did. -/
def fnExactRelInsertSpec : ChangeSpec := { name := "fnExactRelInsert", fn := fun _ => fun
  | [d1, d2] => { results := [.lit (.bool true)], args := [d1, d2] }
  | _ => none }
def fnExactRelInsertRow : OpenClaim := { program := "ytkdhdppngfadiab", sum := "6d0dc7ccff80816656e24f3ea73e54e327b7b949e31e7993e90194cf3b86b1e9", func := "loop.example/varve/laws.FnExactRelInsert", spec := "fnExactRelInsert", unfollowed := true, recurses := true, apart := false }
def FnExactRelInsertSaid : Prop := fnExactRelInsertRow.holds Try.pinned (OpenSpec.ofChange fnExactRelInsertSpec)

/-- ITS FALSE NEIGHBOUR: 'it returns false'. Refute it at one input. -/
def fnExactRelInsertWrong : ChangeSpec := { name := "fnExactRelInsert", fn := fun _ => fun
  | [d1, d2] => { results := [.lit (.bool false)], args := [d1, d2] }
  | _ => none }
def FnExactRelInsertWrongFalsely : Prop := fnExactRelInsertRow.holds Try.pinned (OpenSpec.ofChange fnExactRelInsertWrong)

/-- 'laws.FnExactRelDelete': WHATEVER THE INPUT: true; the input reads as it did. -/
def fnExactRelDeleteSpec : ChangeSpec := { name := "fnExactRelDelete", fn := fun _ => fun
  | [d1, d2, d3] => { results := [.lit (.bool true)], args := [d1, d2, d3] }
  | _ => none }
def fnExactRelDeleteRow : OpenClaim := { program := "ytkdhdppngfadiab", sum := "6d0dc7ccff80816656e24f3ea73e54e327b7b949e31e7993e90194cf3b86b1e9", func := "loop.example/varve/laws.FnExactRelDelete", spec := "fnExactRelDelete", unfollowed := true, recurses := true, apart := false }
def FnExactRelDeleteSaid : Prop := fnExactRelDeleteRow.holds Try.pinned (OpenSpec.ofChange fnExactRelDeleteSpec)

/-- ITS FALSE NEIGHBOUR: 'it returns false'. Refute it at one input. -/
def fnExactRelDeleteWrong : ChangeSpec := { name := "fnExactRelDelete", fn := fun _ => fun
  | [d1, d2, d3] => { results := [.lit (.bool false)], args := [d1, d2, d3] }
  | _ => none }
def FnExactRelDeleteWrongFalsely : Prop := fnExactRelDeleteRow.holds Try.pinned (OpenSpec.ofChange fnExactRelDeleteWrong)

/-- 'laws.FnExactRelUpdate': WHATEVER THE INPUT: true; the input reads as it did. -/
def fnExactRelUpdateSpec : ChangeSpec := { name := "fnExactRelUpdate", fn := fun _ => fun
  | [d1, d2] => { results := [.lit (.bool true)], args := [d1, d2] }
  | _ => none }
def fnExactRelUpdateRow : OpenClaim := { program := "ytkdhdppngfadiab", sum := "6d0dc7ccff80816656e24f3ea73e54e327b7b949e31e7993e90194cf3b86b1e9", func := "loop.example/varve/laws.FnExactRelUpdate", spec := "fnExactRelUpdate", unfollowed := true, recurses := true, apart := false }
def FnExactRelUpdateSaid : Prop := fnExactRelUpdateRow.holds Try.pinned (OpenSpec.ofChange fnExactRelUpdateSpec)

/-- ITS FALSE NEIGHBOUR: 'it returns false'. Refute it at one input. -/
def fnExactRelUpdateWrong : ChangeSpec := { name := "fnExactRelUpdate", fn := fun _ => fun
  | [d1, d2] => { results := [.lit (.bool false)], args := [d1, d2] }
  | _ => none }
def FnExactRelUpdateWrongFalsely : Prop := fnExactRelUpdateRow.holds Try.pinned (OpenSpec.ofChange fnExactRelUpdateWrong)

/-- 'laws.FnExactRelMerge': WHATEVER THE INPUT: true; the input reads as it did. -/
def fnExactRelMergeSpec : ChangeSpec := { name := "fnExactRelMerge", fn := fun _ => fun
  | [d1, d2] => { results := [.lit (.bool true)], args := [d1, d2] }
  | _ => none }
def fnExactRelMergeRow : OpenClaim := { program := "ytkdhdppngfadiab", sum := "6d0dc7ccff80816656e24f3ea73e54e327b7b949e31e7993e90194cf3b86b1e9", func := "loop.example/varve/laws.FnExactRelMerge", spec := "fnExactRelMerge", unfollowed := true, recurses := true, apart := false }
def FnExactRelMergeSaid : Prop := fnExactRelMergeRow.holds Try.pinned (OpenSpec.ofChange fnExactRelMergeSpec)

/-- ITS FALSE NEIGHBOUR: 'it returns false'. Refute it at one input. -/
def fnExactRelMergeWrong : ChangeSpec := { name := "fnExactRelMerge", fn := fun _ => fun
  | [d1, d2] => { results := [.lit (.bool false)], args := [d1, d2] }
  | _ => none }
def FnExactRelMergeWrongFalsely : Prop := fnExactRelMergeRow.holds Try.pinned (OpenSpec.ofChange fnExactRelMergeWrong)

/-- 'laws.FnExactRelMove': WHATEVER THE INPUT: true; the input reads as it did. -/
def fnExactRelMoveSpec : ChangeSpec := { name := "fnExactRelMove", fn := fun _ => fun
  | [d1, d2] => { results := [.lit (.bool true)], args := [d1, d2] }
  | _ => none }
def fnExactRelMoveRow : OpenClaim := { program := "ytkdhdppngfadiab", sum := "6d0dc7ccff80816656e24f3ea73e54e327b7b949e31e7993e90194cf3b86b1e9", func := "loop.example/varve/laws.FnExactRelMove", spec := "fnExactRelMove", unfollowed := true, recurses := true, apart := false }
def FnExactRelMoveSaid : Prop := fnExactRelMoveRow.holds Try.pinned (OpenSpec.ofChange fnExactRelMoveSpec)

/-- ITS FALSE NEIGHBOUR: 'it returns false'. Refute it at one input. -/
def fnExactRelMoveWrong : ChangeSpec := { name := "fnExactRelMove", fn := fun _ => fun
  | [d1, d2] => { results := [.lit (.bool false)], args := [d1, d2] }
  | _ => none }
def FnExactRelMoveWrongFalsely : Prop := fnExactRelMoveRow.holds Try.pinned (OpenSpec.ofChange fnExactRelMoveWrong)

/-- 'laws.FnExactRelJoin': WHATEVER THE INPUT: true; the input reads as it did. -/
def fnExactRelJoinSpec : ChangeSpec := { name := "fnExactRelJoin", fn := fun _ => fun
  | [d1, d2] => { results := [.lit (.bool true)], args := [d1, d2] }
  | _ => none }
def fnExactRelJoinRow : OpenClaim := { program := "ytkdhdppngfadiab", sum := "6d0dc7ccff80816656e24f3ea73e54e327b7b949e31e7993e90194cf3b86b1e9", func := "loop.example/varve/laws.FnExactRelJoin", spec := "fnExactRelJoin", unfollowed := true, recurses := true, apart := false }
def FnExactRelJoinSaid : Prop := fnExactRelJoinRow.holds Try.pinned (OpenSpec.ofChange fnExactRelJoinSpec)

/-- ITS FALSE NEIGHBOUR: 'it returns false'. Refute it at one input. -/
def fnExactRelJoinWrong : ChangeSpec := { name := "fnExactRelJoin", fn := fun _ => fun
  | [d1, d2] => { results := [.lit (.bool false)], args := [d1, d2] }
  | _ => none }
def FnExactRelJoinWrongFalsely : Prop := fnExactRelJoinRow.holds Try.pinned (OpenSpec.ofChange fnExactRelJoinWrong)

/-- 'laws.FnExactRelLess': WHATEVER THE INPUT: true; the input reads as it did. -/
def fnExactRelLessSpec : ChangeSpec := { name := "fnExactRelLess", fn := fun _ => fun
  | [d1, d2] => { results := [.lit (.bool true)], args := [d1, d2] }
  | _ => none }
def fnExactRelLessRow : OpenClaim := { program := "ytkdhdppngfadiab", sum := "6d0dc7ccff80816656e24f3ea73e54e327b7b949e31e7993e90194cf3b86b1e9", func := "loop.example/varve/laws.FnExactRelLess", spec := "fnExactRelLess", unfollowed := true, recurses := true, apart := false }
def FnExactRelLessSaid : Prop := fnExactRelLessRow.holds Try.pinned (OpenSpec.ofChange fnExactRelLessSpec)

/-- ITS FALSE NEIGHBOUR: 'it returns false'. Refute it at one input. -/
def fnExactRelLessWrong : ChangeSpec := { name := "fnExactRelLess", fn := fun _ => fun
  | [d1, d2] => { results := [.lit (.bool false)], args := [d1, d2] }
  | _ => none }
def FnExactRelLessWrongFalsely : Prop := fnExactRelLessRow.holds Try.pinned (OpenSpec.ofChange fnExactRelLessWrong)

/-- 'laws.FnExactRelBoth': WHATEVER THE INPUT: true; the input reads as it did. -/
def fnExactRelBothSpec : ChangeSpec := { name := "fnExactRelBoth", fn := fun _ => fun
  | [d1, d2] => { results := [.lit (.bool true)], args := [d1, d2] }
  | _ => none }
def fnExactRelBothRow : OpenClaim := { program := "ytkdhdppngfadiab", sum := "6d0dc7ccff80816656e24f3ea73e54e327b7b949e31e7993e90194cf3b86b1e9", func := "loop.example/varve/laws.FnExactRelBoth", spec := "fnExactRelBoth", unfollowed := true, recurses := true, apart := false }
def FnExactRelBothSaid : Prop := fnExactRelBothRow.holds Try.pinned (OpenSpec.ofChange fnExactRelBothSpec)

/-- ITS FALSE NEIGHBOUR: 'it returns false'. Refute it at one input. -/
def fnExactRelBothWrong : ChangeSpec := { name := "fnExactRelBoth", fn := fun _ => fun
  | [d1, d2] => { results := [.lit (.bool false)], args := [d1, d2] }
  | _ => none }
def FnExactRelBothWrongFalsely : Prop := fnExactRelBothRow.holds Try.pinned (OpenSpec.ofChange fnExactRelBothWrong)

/-- 'laws.FnExactRelEither': WHATEVER THE INPUT: true; the input reads as it did. -/
def fnExactRelEitherSpec : ChangeSpec := { name := "fnExactRelEither", fn := fun _ => fun
  | [d1, d2] => { results := [.lit (.bool true)], args := [d1, d2] }
  | _ => none }
def fnExactRelEitherRow : OpenClaim := { program := "ytkdhdppngfadiab", sum := "6d0dc7ccff80816656e24f3ea73e54e327b7b949e31e7993e90194cf3b86b1e9", func := "loop.example/varve/laws.FnExactRelEither", spec := "fnExactRelEither", unfollowed := true, recurses := true, apart := false }
def FnExactRelEitherSaid : Prop := fnExactRelEitherRow.holds Try.pinned (OpenSpec.ofChange fnExactRelEitherSpec)

/-- ITS FALSE NEIGHBOUR: 'it returns false'. Refute it at one input. -/
def fnExactRelEitherWrong : ChangeSpec := { name := "fnExactRelEither", fn := fun _ => fun
  | [d1, d2] => { results := [.lit (.bool false)], args := [d1, d2] }
  | _ => none }
def FnExactRelEitherWrongFalsely : Prop := fnExactRelEitherRow.holds Try.pinned (OpenSpec.ofChange fnExactRelEitherWrong)

/-- 'laws.FnExactRelCount': WHATEVER THE INPUT: true; the input reads as it did. -/
def fnExactRelCountSpec : ChangeSpec := { name := "fnExactRelCount", fn := fun _ => fun
  | [d] => { results := [.lit (.bool true)], args := [d] }
  | _ => none }
def fnExactRelCountRow : OpenClaim := { program := "ytkdhdppngfadiab", sum := "6d0dc7ccff80816656e24f3ea73e54e327b7b949e31e7993e90194cf3b86b1e9", func := "loop.example/varve/laws.FnExactRelCount", spec := "fnExactRelCount", unfollowed := true, recurses := true, apart := false }
def FnExactRelCountSaid : Prop := fnExactRelCountRow.holds Try.pinned (OpenSpec.ofChange fnExactRelCountSpec)

/-- ITS FALSE NEIGHBOUR: 'it returns false'. Refute it at one input. -/
def fnExactRelCountWrong : ChangeSpec := { name := "fnExactRelCount", fn := fun _ => fun
  | [d] => { results := [.lit (.bool false)], args := [d] }
  | _ => none }
def FnExactRelCountWrongFalsely : Prop := fnExactRelCountRow.holds Try.pinned (OpenSpec.ofChange fnExactRelCountWrong)

/-- 'laws.FnExactRelBad': WHATEVER THE INPUT: true; the input reads as it did. -/
def fnExactRelBadSpec : ChangeSpec := { name := "fnExactRelBad", fn := fun _ => fun
  | [d1, d2] => { results := [.lit (.bool true)], args := [d1, d2] }
  | _ => none }
def fnExactRelBadRow : OpenClaim := { program := "ytkdhdppngfadiab", sum := "6d0dc7ccff80816656e24f3ea73e54e327b7b949e31e7993e90194cf3b86b1e9", func := "loop.example/varve/laws.FnExactRelBad", spec := "fnExactRelBad", unfollowed := true, recurses := true, apart := false }
def FnExactRelBadSaid : Prop := fnExactRelBadRow.holds Try.pinned (OpenSpec.ofChange fnExactRelBadSpec)

/-- ITS FALSE NEIGHBOUR: 'it returns false'. Refute it at one input. -/
def fnExactRelBadWrong : ChangeSpec := { name := "fnExactRelBad", fn := fun _ => fun
  | [d1, d2] => { results := [.lit (.bool false)], args := [d1, d2] }
  | _ => none }
def FnExactRelBadWrongFalsely : Prop := fnExactRelBadRow.holds Try.pinned (OpenSpec.ofChange fnExactRelBadWrong)

/-- 'laws.FnPick': WHATEVER THE INPUT: true; the input reads as it did. -/
def fnPickSpec : ChangeSpec := { name := "fnPick", fn := fun _ => fun
  | [d] => { results := [.lit (.bool true)], args := [d] }
  | _ => none }
def fnPickRow : OpenClaim := { program := "ytkdhdppngfadiab", sum := "6d0dc7ccff80816656e24f3ea73e54e327b7b949e31e7993e90194cf3b86b1e9", func := "loop.example/varve/laws.FnPick", spec := "fnPick", unfollowed := true, recurses := true, apart := false }
def FnPickSaid : Prop := fnPickRow.holds Try.pinned (OpenSpec.ofChange fnPickSpec)

/-- ITS FALSE NEIGHBOUR: 'it returns false'. Refute it at one input. -/
def fnPickWrong : ChangeSpec := { name := "fnPick", fn := fun _ => fun
  | [d] => { results := [.lit (.bool false)], args := [d] }
  | _ => none }
def FnPickWrongFalsely : Prop := fnPickRow.holds Try.pinned (OpenSpec.ofChange fnPickWrong)

/- THE SECOND FORM. 'bulk': how many values and letters a reading holds, each counted each time it is reached (what is shared counts as often as it is met; a slice's spare places count too). A statement '..UptoSaid' is the law's where the arguments, and the package variables that the reading takes, are together of bulk at most 1048576: NARROWER than '..Said'. Prove '..Said' where nothing that the law and all that it calls make is longer than what came in: it says more and counts as full. Else prove '..UptoSaid'. A law counts once. -/
mutual
def uptoBulk {H : Type} : DataW H → Nat
  | .lit (.string bytes) => bytes.length + 1
  | .lit _ => 1
  | .nil => 1
  | .ptr d => uptoBulk d + 1
  | .slice elems spare => uptoBulkAll elems + uptoBulkAll spare + 1
  | .agg parts => uptoBulkAll parts + 1
  | .iface _ d => uptoBulk d + 1
  | .map entries => uptoBulkEntries entries + 1
  | .held _ => 1
def uptoBulkAll {H : Type} : List (DataW H) → Nat
  | [] => 0
  | d :: r => uptoBulk d + uptoBulkAll r
def uptoBulkEntries {H : Type} : List (Lit × DataW H) → Nat
  | [] => 0
  | x :: r => uptoBulkEntry x + uptoBulkEntries r
def uptoBulkEntry {H : Type} : Lit × DataW H → Nat
  | (.string bytes, d) => bytes.length + uptoBulk d + 1
  | (_, d) => uptoBulk d + 1
 end
def uptoSmall : (H : Type) → List (DataW H) → Bool := fun _ ds => decide (uptoBulkAll ds ≤ 1048576)
def OpenSpec.upto (s : _root_.Go.ChangeSpec) : _root_.Go.OpenSpec := { _root_.Go.OpenSpec.ofChange s with cond := some uptoSmall }

/-- 'laws.FnExactRelInsert', WHERE WHAT IT READS IS OF BULK AT MOST 1048576: true; the input reads as it did. -/
def fnExactRelInsertUptoRow : OpenClaim := { program := "ytkdhdppngfadiab", sum := "6d0dc7ccff80816656e24f3ea73e54e327b7b949e31e7993e90194cf3b86b1e9", func := "loop.example/varve/laws.FnExactRelInsert", spec := "fnExactRelInsert", unfollowed := true, recurses := true, apart := false, narrowed := true }
def FnExactRelInsertUptoSaid : Prop := fnExactRelInsertUptoRow.holds Try.pinned (OpenSpec.upto fnExactRelInsertSpec)

/-- 'laws.FnExactRelDelete', WHERE WHAT IT READS IS OF BULK AT MOST 1048576: true; the input reads as it did. -/
def fnExactRelDeleteUptoRow : OpenClaim := { program := "ytkdhdppngfadiab", sum := "6d0dc7ccff80816656e24f3ea73e54e327b7b949e31e7993e90194cf3b86b1e9", func := "loop.example/varve/laws.FnExactRelDelete", spec := "fnExactRelDelete", unfollowed := true, recurses := true, apart := false, narrowed := true }
def FnExactRelDeleteUptoSaid : Prop := fnExactRelDeleteUptoRow.holds Try.pinned (OpenSpec.upto fnExactRelDeleteSpec)

/-- 'laws.FnExactRelUpdate', WHERE WHAT IT READS IS OF BULK AT MOST 1048576: true; the input reads as it did. -/
def fnExactRelUpdateUptoRow : OpenClaim := { program := "ytkdhdppngfadiab", sum := "6d0dc7ccff80816656e24f3ea73e54e327b7b949e31e7993e90194cf3b86b1e9", func := "loop.example/varve/laws.FnExactRelUpdate", spec := "fnExactRelUpdate", unfollowed := true, recurses := true, apart := false, narrowed := true }
def FnExactRelUpdateUptoSaid : Prop := fnExactRelUpdateUptoRow.holds Try.pinned (OpenSpec.upto fnExactRelUpdateSpec)

/-- 'laws.FnExactRelMerge', WHERE WHAT IT READS IS OF BULK AT MOST 1048576: true; the input reads as it did. -/
def fnExactRelMergeUptoRow : OpenClaim := { program := "ytkdhdppngfadiab", sum := "6d0dc7ccff80816656e24f3ea73e54e327b7b949e31e7993e90194cf3b86b1e9", func := "loop.example/varve/laws.FnExactRelMerge", spec := "fnExactRelMerge", unfollowed := true, recurses := true, apart := false, narrowed := true }
def FnExactRelMergeUptoSaid : Prop := fnExactRelMergeUptoRow.holds Try.pinned (OpenSpec.upto fnExactRelMergeSpec)

/-- 'laws.FnExactRelMove', WHERE WHAT IT READS IS OF BULK AT MOST 1048576: true; the input reads as it did. -/
def fnExactRelMoveUptoRow : OpenClaim := { program := "ytkdhdppngfadiab", sum := "6d0dc7ccff80816656e24f3ea73e54e327b7b949e31e7993e90194cf3b86b1e9", func := "loop.example/varve/laws.FnExactRelMove", spec := "fnExactRelMove", unfollowed := true, recurses := true, apart := false, narrowed := true }
def FnExactRelMoveUptoSaid : Prop := fnExactRelMoveUptoRow.holds Try.pinned (OpenSpec.upto fnExactRelMoveSpec)

/-- 'laws.FnExactRelJoin', WHERE WHAT IT READS IS OF BULK AT MOST 1048576: true; the input reads as it did. -/
def fnExactRelJoinUptoRow : OpenClaim := { program := "ytkdhdppngfadiab", sum := "6d0dc7ccff80816656e24f3ea73e54e327b7b949e31e7993e90194cf3b86b1e9", func := "loop.example/varve/laws.FnExactRelJoin", spec := "fnExactRelJoin", unfollowed := true, recurses := true, apart := false, narrowed := true }
def FnExactRelJoinUptoSaid : Prop := fnExactRelJoinUptoRow.holds Try.pinned (OpenSpec.upto fnExactRelJoinSpec)

/-- 'laws.FnExactRelLess', WHERE WHAT IT READS IS OF BULK AT MOST 1048576: true; the input reads as it did. -/
def fnExactRelLessUptoRow : OpenClaim := { program := "ytkdhdppngfadiab", sum := "6d0dc7ccff80816656e24f3ea73e54e327b7b949e31e7993e90194cf3b86b1e9", func := "loop.example/varve/laws.FnExactRelLess", spec := "fnExactRelLess", unfollowed := true, recurses := true, apart := false, narrowed := true }
def FnExactRelLessUptoSaid : Prop := fnExactRelLessUptoRow.holds Try.pinned (OpenSpec.upto fnExactRelLessSpec)

/-- 'laws.FnExactRelBoth', WHERE WHAT IT READS IS OF BULK AT MOST 1048576: true; the input reads as it did. -/
def fnExactRelBothUptoRow : OpenClaim := { program := "ytkdhdppngfadiab", sum := "6d0dc7ccff80816656e24f3ea73e54e327b7b949e31e7993e90194cf3b86b1e9", func := "loop.example/varve/laws.FnExactRelBoth", spec := "fnExactRelBoth", unfollowed := true, recurses := true, apart := false, narrowed := true }
def FnExactRelBothUptoSaid : Prop := fnExactRelBothUptoRow.holds Try.pinned (OpenSpec.upto fnExactRelBothSpec)

/-- 'laws.FnExactRelEither', WHERE WHAT IT READS IS OF BULK AT MOST 1048576: true; the input reads as it did. -/
def fnExactRelEitherUptoRow : OpenClaim := { program := "ytkdhdppngfadiab", sum := "6d0dc7ccff80816656e24f3ea73e54e327b7b949e31e7993e90194cf3b86b1e9", func := "loop.example/varve/laws.FnExactRelEither", spec := "fnExactRelEither", unfollowed := true, recurses := true, apart := false, narrowed := true }
def FnExactRelEitherUptoSaid : Prop := fnExactRelEitherUptoRow.holds Try.pinned (OpenSpec.upto fnExactRelEitherSpec)

/-- 'laws.FnExactRelCount', WHERE WHAT IT READS IS OF BULK AT MOST 1048576: true; the input reads as it did. -/
def fnExactRelCountUptoRow : OpenClaim := { program := "ytkdhdppngfadiab", sum := "6d0dc7ccff80816656e24f3ea73e54e327b7b949e31e7993e90194cf3b86b1e9", func := "loop.example/varve/laws.FnExactRelCount", spec := "fnExactRelCount", unfollowed := true, recurses := true, apart := false, narrowed := true }
def FnExactRelCountUptoSaid : Prop := fnExactRelCountUptoRow.holds Try.pinned (OpenSpec.upto fnExactRelCountSpec)

/-- 'laws.FnExactRelBad', WHERE WHAT IT READS IS OF BULK AT MOST 1048576: true; the input reads as it did. -/
def fnExactRelBadUptoRow : OpenClaim := { program := "ytkdhdppngfadiab", sum := "6d0dc7ccff80816656e24f3ea73e54e327b7b949e31e7993e90194cf3b86b1e9", func := "loop.example/varve/laws.FnExactRelBad", spec := "fnExactRelBad", unfollowed := true, recurses := true, apart := false, narrowed := true }
def FnExactRelBadUptoSaid : Prop := fnExactRelBadUptoRow.holds Try.pinned (OpenSpec.upto fnExactRelBadSpec)

/-- 'laws.FnPick', WHERE WHAT IT READS IS OF BULK AT MOST 1048576: true; the input reads as it did. -/
def fnPickUptoRow : OpenClaim := { program := "ytkdhdppngfadiab", sum := "6d0dc7ccff80816656e24f3ea73e54e327b7b949e31e7993e90194cf3b86b1e9", func := "loop.example/varve/laws.FnPick", spec := "fnPick", unfollowed := true, recurses := true, apart := false, narrowed := true }
def FnPickUptoSaid : Prop := fnPickUptoRow.holds Try.pinned (OpenSpec.upto fnPickSpec)

end Rows
end Go.Proofs.Ytkdhdppngfadiab
