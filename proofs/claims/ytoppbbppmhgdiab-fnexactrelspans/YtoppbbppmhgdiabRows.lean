/-
  No cell of these rows narrows 'for every input' (looked for: loops, veiled, ifaces, maps, wideKeys, modest, calm, conditions, laid).
  DERIVED. THE GIVEN ROWS OF THIS SEAT. 12 by the template 'for every input the law returns true; each argument reads behind the call as it read before'; 0 by the template 'total and deterministic' (their statements: YtoppbbppmhgdiabTotals.lean).
  GIVEN WITH THE SEED: the statements are not yours to turn. If you find one false, say at which input.
  Laid BY PROGRAM, IN A SANDBOX (cutbox-rows.mjs): the forced cells as the released guide's own fill.sh prints them over the translation 6877660f45e49970… (all of the seat's roots in one cut). By AI agents, Wed Nov 11 2026. No macro, syntax, notation, axiom, sorry.
-/
import Derived.Test.YtoppbbppmhgdiabChecked
import GoSem.Claim
import GoSem.ClaimJoined
import GoSem.ClaimMapViews
import Derived.JoinedTies
import Derived.KernelRfl
namespace Go.Proofs.Ytoppbbppmhgdiab
/- THE CELL 'sum', in the pinned program and in every row, IS THE sha256 OF THE DUMP (.gsa) THAT YtoppbbppmhgdiabProg.lean LOADS. Nothing in Lean hashes anything: it is a label: what it is worth is what the hold of that sum in a sandbox is worth. -/
noncomputable def Try.pinned : Pinned := { name := "ytoppbbppmhgdiab", sum := "6877660f45e49970432cc9705100c2097904d4e72eff345acc8813c06fdad703", checked := Try.checked }
namespace Rows
def none {H : Type} : Left H := { results := [], args := [] }

/-- 'laws.FnExactRelSpans': WHATEVER THE INPUT: true; the input reads as it did. -/
def fnExactRelSpansSpec : ChangeSpec := { name := "fnExactRelSpans", fn := fun _ => fun
  | [d1, d2] => { results := [.lit (.bool true)], args := [d1, d2] }
  | _ => none }
def fnExactRelSpansRow : OpenClaim := { program := "ytoppbbppmhgdiab", sum := "6877660f45e49970432cc9705100c2097904d4e72eff345acc8813c06fdad703", func := "loop.example/varve/laws.FnExactRelSpans", spec := "fnExactRelSpans", unfollowed := true, recurses := true, apart := false }
def FnExactRelSpansSaid : Prop := fnExactRelSpansRow.holds Try.pinned (OpenSpec.ofChange fnExactRelSpansSpec)

/-- ITS FALSE NEIGHBOUR: 'it returns false'. Refute it at one input. -/
def fnExactRelSpansWrong : ChangeSpec := { name := "fnExactRelSpans", fn := fun _ => fun
  | [d1, d2] => { results := [.lit (.bool false)], args := [d1, d2] }
  | _ => none }
def FnExactRelSpansWrongFalsely : Prop := fnExactRelSpansRow.holds Try.pinned (OpenSpec.ofChange fnExactRelSpansWrong)

/-- 'laws.FnExactRelOf': WHATEVER THE INPUT: true; the input reads as it did. -/
def fnExactRelOfSpec : ChangeSpec := { name := "fnExactRelOf", fn := fun _ => fun
  | [d] => { results := [.lit (.bool true)], args := [d] }
  | _ => none }
def fnExactRelOfRow : OpenClaim := { program := "ytoppbbppmhgdiab", sum := "6877660f45e49970432cc9705100c2097904d4e72eff345acc8813c06fdad703", func := "loop.example/varve/laws.FnExactRelOf", spec := "fnExactRelOf", unfollowed := true, recurses := true, apart := false }
def FnExactRelOfSaid : Prop := fnExactRelOfRow.holds Try.pinned (OpenSpec.ofChange fnExactRelOfSpec)

/-- ITS FALSE NEIGHBOUR: 'it returns false'. Refute it at one input. -/
def fnExactRelOfWrong : ChangeSpec := { name := "fnExactRelOf", fn := fun _ => fun
  | [d] => { results := [.lit (.bool false)], args := [d] }
  | _ => none }
def FnExactRelOfWrongFalsely : Prop := fnExactRelOfRow.holds Try.pinned (OpenSpec.ofChange fnExactRelOfWrong)

/-- 'laws.FnExactRelInsert': WHATEVER THE INPUT: true; the input reads as it did. -/
def fnExactRelInsertSpec : ChangeSpec := { name := "fnExactRelInsert", fn := fun _ => fun
  | [d1, d2] => { results := [.lit (.bool true)], args := [d1, d2] }
  | _ => none }
def fnExactRelInsertRow : OpenClaim := { program := "ytoppbbppmhgdiab", sum := "6877660f45e49970432cc9705100c2097904d4e72eff345acc8813c06fdad703", func := "loop.example/varve/laws.FnExactRelInsert", spec := "fnExactRelInsert", unfollowed := true, recurses := true, apart := false }
def FnExactRelInsertSaid : Prop := fnExactRelInsertRow.holds Try.pinned (OpenSpec.ofChange fnExactRelInsertSpec)

/-- ITS FALSE NEIGHBOUR: 'it returns false'. Refute it at one input. -/
def fnExactRelInsertWrong : ChangeSpec := { name := "fnExactRelInsert", fn := fun _ => fun
  | [d1, d2] => { results := [.lit (.bool false)], args := [d1, d2] }
  | _ => none }
def FnExactRelInsertWrongFalsely : Prop := fnExactRelInsertRow.holds Try.pinned (OpenSpec.ofChange fnExactRelInsertWrong)

/-- 'laws.FnExactRelDelete': WHATEVER THE INPUT: true; the input reads as it did. -/
def fnExactRelDeleteSpec : ChangeSpec := { name := "fnExactRelDelete", fn := fun _ => fun
  | [d1, d2, d3] => { results := [.lit (.bool true)], args := [d1, d2, d3] }
  | _ => none }
def fnExactRelDeleteRow : OpenClaim := { program := "ytoppbbppmhgdiab", sum := "6877660f45e49970432cc9705100c2097904d4e72eff345acc8813c06fdad703", func := "loop.example/varve/laws.FnExactRelDelete", spec := "fnExactRelDelete", unfollowed := true, recurses := true, apart := false }
def FnExactRelDeleteSaid : Prop := fnExactRelDeleteRow.holds Try.pinned (OpenSpec.ofChange fnExactRelDeleteSpec)

/-- ITS FALSE NEIGHBOUR: 'it returns false'. Refute it at one input. -/
def fnExactRelDeleteWrong : ChangeSpec := { name := "fnExactRelDelete", fn := fun _ => fun
  | [d1, d2, d3] => { results := [.lit (.bool false)], args := [d1, d2, d3] }
  | _ => none }
def FnExactRelDeleteWrongFalsely : Prop := fnExactRelDeleteRow.holds Try.pinned (OpenSpec.ofChange fnExactRelDeleteWrong)

/-- 'laws.FnExactRelUpdate': WHATEVER THE INPUT: true; the input reads as it did. -/
def fnExactRelUpdateSpec : ChangeSpec := { name := "fnExactRelUpdate", fn := fun _ => fun
  | [d1, d2] => { results := [.lit (.bool true)], args := [d1, d2] }
  | _ => none }
def fnExactRelUpdateRow : OpenClaim := { program := "ytoppbbppmhgdiab", sum := "6877660f45e49970432cc9705100c2097904d4e72eff345acc8813c06fdad703", func := "loop.example/varve/laws.FnExactRelUpdate", spec := "fnExactRelUpdate", unfollowed := true, recurses := true, apart := false }
def FnExactRelUpdateSaid : Prop := fnExactRelUpdateRow.holds Try.pinned (OpenSpec.ofChange fnExactRelUpdateSpec)

/-- ITS FALSE NEIGHBOUR: 'it returns false'. Refute it at one input. -/
def fnExactRelUpdateWrong : ChangeSpec := { name := "fnExactRelUpdate", fn := fun _ => fun
  | [d1, d2] => { results := [.lit (.bool false)], args := [d1, d2] }
  | _ => none }
def FnExactRelUpdateWrongFalsely : Prop := fnExactRelUpdateRow.holds Try.pinned (OpenSpec.ofChange fnExactRelUpdateWrong)

/-- 'laws.FnExactRelMerge': WHATEVER THE INPUT: true; the input reads as it did. -/
def fnExactRelMergeSpec : ChangeSpec := { name := "fnExactRelMerge", fn := fun _ => fun
  | [d1, d2] => { results := [.lit (.bool true)], args := [d1, d2] }
  | _ => none }
def fnExactRelMergeRow : OpenClaim := { program := "ytoppbbppmhgdiab", sum := "6877660f45e49970432cc9705100c2097904d4e72eff345acc8813c06fdad703", func := "loop.example/varve/laws.FnExactRelMerge", spec := "fnExactRelMerge", unfollowed := true, recurses := true, apart := false }
def FnExactRelMergeSaid : Prop := fnExactRelMergeRow.holds Try.pinned (OpenSpec.ofChange fnExactRelMergeSpec)

/-- ITS FALSE NEIGHBOUR: 'it returns false'. Refute it at one input. -/
def fnExactRelMergeWrong : ChangeSpec := { name := "fnExactRelMerge", fn := fun _ => fun
  | [d1, d2] => { results := [.lit (.bool false)], args := [d1, d2] }
  | _ => none }
def FnExactRelMergeWrongFalsely : Prop := fnExactRelMergeRow.holds Try.pinned (OpenSpec.ofChange fnExactRelMergeWrong)

/-- 'laws.FnExactRelMove': WHATEVER THE INPUT: true; the input reads as it did. -/
def fnExactRelMoveSpec : ChangeSpec := { name := "fnExactRelMove", fn := fun _ => fun
  | [d1, d2] => { results := [.lit (.bool true)], args := [d1, d2] }
  | _ => none }
def fnExactRelMoveRow : OpenClaim := { program := "ytoppbbppmhgdiab", sum := "6877660f45e49970432cc9705100c2097904d4e72eff345acc8813c06fdad703", func := "loop.example/varve/laws.FnExactRelMove", spec := "fnExactRelMove", unfollowed := true, recurses := true, apart := false }
def FnExactRelMoveSaid : Prop := fnExactRelMoveRow.holds Try.pinned (OpenSpec.ofChange fnExactRelMoveSpec)

/-- ITS FALSE NEIGHBOUR: 'it returns false'. Refute it at one input. -/
def fnExactRelMoveWrong : ChangeSpec := { name := "fnExactRelMove", fn := fun _ => fun
  | [d1, d2] => { results := [.lit (.bool false)], args := [d1, d2] }
  | _ => none }
def FnExactRelMoveWrongFalsely : Prop := fnExactRelMoveRow.holds Try.pinned (OpenSpec.ofChange fnExactRelMoveWrong)

/-- 'laws.FnRelKeys': WHATEVER THE INPUT: true; the input reads as it did. -/
def fnRelKeysSpec : ChangeSpec := { name := "fnRelKeys", fn := fun _ => fun
  | [d] => { results := [.lit (.bool true)], args := [d] }
  | _ => none }
def fnRelKeysRow : OpenClaim := { program := "ytoppbbppmhgdiab", sum := "6877660f45e49970432cc9705100c2097904d4e72eff345acc8813c06fdad703", func := "loop.example/varve/laws.FnRelKeys", spec := "fnRelKeys", apart := false }
def FnRelKeysSaid : Prop := fnRelKeysRow.holds Try.pinned (OpenSpec.ofChange fnRelKeysSpec)

/-- ITS FALSE NEIGHBOUR: 'it returns false'. Refute it at one input. -/
def fnRelKeysWrong : ChangeSpec := { name := "fnRelKeys", fn := fun _ => fun
  | [d] => { results := [.lit (.bool false)], args := [d] }
  | _ => none }
def FnRelKeysWrongFalsely : Prop := fnRelKeysRow.holds Try.pinned (OpenSpec.ofChange fnRelKeysWrong)

/-- 'laws.FnRelAt': WHATEVER THE INPUT: true; the input reads as it did. -/
def fnRelAtSpec : ChangeSpec := { name := "fnRelAt", fn := fun _ => fun
  | [d] => { results := [.lit (.bool true)], args := [d] }
  | _ => none }
def fnRelAtRow : OpenClaim := { program := "ytoppbbppmhgdiab", sum := "6877660f45e49970432cc9705100c2097904d4e72eff345acc8813c06fdad703", func := "loop.example/varve/laws.FnRelAt", spec := "fnRelAt", apart := false }
def FnRelAtSaid : Prop := fnRelAtRow.holds Try.pinned (OpenSpec.ofChange fnRelAtSpec)

/-- ITS FALSE NEIGHBOUR: 'it returns false'. Refute it at one input. -/
def fnRelAtWrong : ChangeSpec := { name := "fnRelAt", fn := fun _ => fun
  | [d] => { results := [.lit (.bool false)], args := [d] }
  | _ => none }
def FnRelAtWrongFalsely : Prop := fnRelAtRow.holds Try.pinned (OpenSpec.ofChange fnRelAtWrong)

/-- 'laws.FnRelSame': WHATEVER THE INPUT: true; the input reads as it did. -/
def fnRelSameSpec : ChangeSpec := { name := "fnRelSame", fn := fun _ => fun
  | [d] => { results := [.lit (.bool true)], args := [d] }
  | _ => none }
def fnRelSameRow : OpenClaim := { program := "ytoppbbppmhgdiab", sum := "6877660f45e49970432cc9705100c2097904d4e72eff345acc8813c06fdad703", func := "loop.example/varve/laws.FnRelSame", spec := "fnRelSame", apart := false }
def FnRelSameSaid : Prop := fnRelSameRow.holds Try.pinned (OpenSpec.ofChange fnRelSameSpec)

/-- ITS FALSE NEIGHBOUR: 'it returns false'. Refute it at one input. -/
def fnRelSameWrong : ChangeSpec := { name := "fnRelSame", fn := fun _ => fun
  | [d] => { results := [.lit (.bool false)], args := [d] }
  | _ => none }
def FnRelSameWrongFalsely : Prop := fnRelSameRow.holds Try.pinned (OpenSpec.ofChange fnRelSameWrong)

/-- 'laws.FnRelSpans': WHATEVER THE INPUT: true; the input reads as it did. -/
def fnRelSpansSpec : ChangeSpec := { name := "fnRelSpans", fn := fun _ => fun
  | [d] => { results := [.lit (.bool true)], args := [d] }
  | _ => none }
def fnRelSpansRow : OpenClaim := { program := "ytoppbbppmhgdiab", sum := "6877660f45e49970432cc9705100c2097904d4e72eff345acc8813c06fdad703", func := "loop.example/varve/laws.FnRelSpans", spec := "fnRelSpans", unfollowed := true, recurses := true, apart := false }
def FnRelSpansSaid : Prop := fnRelSpansRow.holds Try.pinned (OpenSpec.ofChange fnRelSpansSpec)

/-- ITS FALSE NEIGHBOUR: 'it returns false'. Refute it at one input. -/
def fnRelSpansWrong : ChangeSpec := { name := "fnRelSpans", fn := fun _ => fun
  | [d] => { results := [.lit (.bool false)], args := [d] }
  | _ => none }
def FnRelSpansWrongFalsely : Prop := fnRelSpansRow.holds Try.pinned (OpenSpec.ofChange fnRelSpansWrong)

/-- 'laws.FnRelGet': WHATEVER THE INPUT: true; the input reads as it did. -/
def fnRelGetSpec : ChangeSpec := { name := "fnRelGet", fn := fun _ => fun
  | [d] => { results := [.lit (.bool true)], args := [d] }
  | _ => none }
def fnRelGetRow : OpenClaim := { program := "ytoppbbppmhgdiab", sum := "6877660f45e49970432cc9705100c2097904d4e72eff345acc8813c06fdad703", func := "loop.example/varve/laws.FnRelGet", spec := "fnRelGet", unfollowed := true, recurses := true, apart := false }
def FnRelGetSaid : Prop := fnRelGetRow.holds Try.pinned (OpenSpec.ofChange fnRelGetSpec)

/-- ITS FALSE NEIGHBOUR: 'it returns false'. Refute it at one input. -/
def fnRelGetWrong : ChangeSpec := { name := "fnRelGet", fn := fun _ => fun
  | [d] => { results := [.lit (.bool false)], args := [d] }
  | _ => none }
def FnRelGetWrongFalsely : Prop := fnRelGetRow.holds Try.pinned (OpenSpec.ofChange fnRelGetWrong)

/- THE SECOND FORM. 'bulk': how many values and letters a reading holds, each counted each time it is reached (what is shared counts as often as it is met; a slice's spare places count too). A statement '..UptoSaid' is the law's where the arguments, and the package variables that the reading takes, are together of bulk at most 1048576: NARROWER than '..Said'. Prove '..Said' where nothing that the law and all that it calls make is longer than what came in: it says more and counts as full. Else prove '..UptoSaid'. A law counts once. -/
mutual
def uptoBulk {H : Type} : DataW H → Nat
  | .lit (.string bytes) => bytes.length + 1
  | .lit _ => 1
  | .nil => 1
  | .ptr d => uptoBulk d + 1
  | .slice elems spare => uptoBulkAll elems + uptoBulkAll spare + 1
  | .agg parts => uptoBulkAll parts + 1
  | .iface _ d => uptoBulk d + 1
  | .map entries => uptoBulkEntries entries + 1
  | .held _ => 1
def uptoBulkAll {H : Type} : List (DataW H) → Nat
  | [] => 0
  | d :: r => uptoBulk d + uptoBulkAll r
def uptoBulkEntries {H : Type} : List (Lit × DataW H) → Nat
  | [] => 0
  | x :: r => uptoBulkEntry x + uptoBulkEntries r
def uptoBulkEntry {H : Type} : Lit × DataW H → Nat
  | (.string bytes, d) => bytes.length + uptoBulk d + 1
  | (_, d) => uptoBulk d + 1
 end
def uptoSmall : (H : Type) → List (DataW H) → Bool := fun _ ds => decide (uptoBulkAll ds ≤ 1048576)
def OpenSpec.upto (s : _root_.Go.ChangeSpec) : _root_.Go.OpenSpec := { _root_.Go.OpenSpec.ofChange s with cond := some uptoSmall }

/-- 'laws.FnExactRelSpans', WHERE WHAT IT READS IS OF BULK AT MOST 1048576: true; the input reads as it did. -/
def fnExactRelSpansUptoRow : OpenClaim := { program := "ytoppbbppmhgdiab", sum := "6877660f45e49970432cc9705100c2097904d4e72eff345acc8813c06fdad703", func := "loop.example/varve/laws.FnExactRelSpans", spec := "fnExactRelSpans", unfollowed := true, recurses := true, apart := false, narrowed := true }
def FnExactRelSpansUptoSaid : Prop := fnExactRelSpansUptoRow.holds Try.pinned (OpenSpec.upto fnExactRelSpansSpec)

/-- 'laws.FnExactRelOf', WHERE WHAT IT READS IS OF BULK AT MOST 1048576: true; the input reads as it did. -/
def fnExactRelOfUptoRow : OpenClaim := { program := "ytoppbbppmhgdiab", sum := "6877660f45e49970432cc9705100c2097904d4e72eff345acc8813c06fdad703", func := "loop.example/varve/laws.FnExactRelOf", spec := "fnExactRelOf", unfollowed := true, recurses := true, apart := false, narrowed := true }
def FnExactRelOfUptoSaid : Prop := fnExactRelOfUptoRow.holds Try.pinned (OpenSpec.upto fnExactRelOfSpec)

/-- 'laws.FnExactRelInsert', WHERE WHAT IT READS IS OF BULK AT MOST 1048576: true; the input reads as it did. -/
def fnExactRelInsertUptoRow : OpenClaim := { program := "ytoppbbppmhgdiab", sum := "6877660f45e49970432cc9705100c2097904d4e72eff345acc8813c06fdad703", func := "loop.example/varve/laws.FnExactRelInsert", spec := "fnExactRelInsert", unfollowed := true, recurses := true, apart := false, narrowed := true }
def FnExactRelInsertUptoSaid : Prop := fnExactRelInsertUptoRow.holds Try.pinned (OpenSpec.upto fnExactRelInsertSpec)

/-- 'laws.FnExactRelDelete', WHERE WHAT IT READS IS OF BULK AT MOST 1048576: true; the input reads as it did. -/
def fnExactRelDeleteUptoRow : OpenClaim := { program := "ytoppbbppmhgdiab", sum := "6877660f45e49970432cc9705100c2097904d4e72eff345acc8813c06fdad703", func := "loop.example/varve/laws.FnExactRelDelete", spec := "fnExactRelDelete", unfollowed := true, recurses := true, apart := false, narrowed := true }
def FnExactRelDeleteUptoSaid : Prop := fnExactRelDeleteUptoRow.holds Try.pinned (OpenSpec.upto fnExactRelDeleteSpec)

/-- 'laws.FnExactRelUpdate', WHERE WHAT IT READS IS OF BULK AT MOST 1048576: true; the input reads as it did. -/
def fnExactRelUpdateUptoRow : OpenClaim := { program := "ytoppbbppmhgdiab", sum := "6877660f45e49970432cc9705100c2097904d4e72eff345acc8813c06fdad703", func := "loop.example/varve/laws.FnExactRelUpdate", spec := "fnExactRelUpdate", unfollowed := true, recurses := true, apart := false, narrowed := true }
def FnExactRelUpdateUptoSaid : Prop := fnExactRelUpdateUptoRow.holds Try.pinned (OpenSpec.upto fnExactRelUpdateSpec)

/-- 'laws.FnExactRelMerge', WHERE WHAT IT READS IS OF BULK AT MOST 1048576: true; the input reads as it did. -/
def fnExactRelMergeUptoRow : OpenClaim := { program := "ytoppbbppmhgdiab", sum := "6877660f45e49970432cc9705100c2097904d4e72eff345acc8813c06fdad703", func := "loop.example/varve/laws.FnExactRelMerge", spec := "fnExactRelMerge", unfollowed := true, recurses := true, apart := false, narrowed := true }
def FnExactRelMergeUptoSaid : Prop := fnExactRelMergeUptoRow.holds Try.pinned (OpenSpec.upto fnExactRelMergeSpec)

/-- 'laws.FnExactRelMove', WHERE WHAT IT READS IS OF BULK AT MOST 1048576: true; the input reads as it did. -/
def fnExactRelMoveUptoRow : OpenClaim := { program := "ytoppbbppmhgdiab", sum := "6877660f45e49970432cc9705100c2097904d4e72eff345acc8813c06fdad703", func := "loop.example/varve/laws.FnExactRelMove", spec := "fnExactRelMove", unfollowed := true, recurses := true, apart := false, narrowed := true }
def FnExactRelMoveUptoSaid : Prop := fnExactRelMoveUptoRow.holds Try.pinned (OpenSpec.upto fnExactRelMoveSpec)

/-- 'laws.FnRelKeys', WHERE WHAT IT READS IS OF BULK AT MOST 1048576: true; the input reads as it did. -/
def fnRelKeysUptoRow : OpenClaim := { program := "ytoppbbppmhgdiab", sum := "6877660f45e49970432cc9705100c2097904d4e72eff345acc8813c06fdad703", func := "loop.example/varve/laws.FnRelKeys", spec := "fnRelKeys", apart := false, narrowed := true }
def FnRelKeysUptoSaid : Prop := fnRelKeysUptoRow.holds Try.pinned (OpenSpec.upto fnRelKeysSpec)

/-- 'laws.FnRelAt', WHERE WHAT IT READS IS OF BULK AT MOST 1048576: true; the input reads as it did. -/
def fnRelAtUptoRow : OpenClaim := { program := "ytoppbbppmhgdiab", sum := "6877660f45e49970432cc9705100c2097904d4e72eff345acc8813c06fdad703", func := "loop.example/varve/laws.FnRelAt", spec := "fnRelAt", apart := false, narrowed := true }
def FnRelAtUptoSaid : Prop := fnRelAtUptoRow.holds Try.pinned (OpenSpec.upto fnRelAtSpec)

/-- 'laws.FnRelSame', WHERE WHAT IT READS IS OF BULK AT MOST 1048576: true; the input reads as it did. -/
def fnRelSameUptoRow : OpenClaim := { program := "ytoppbbppmhgdiab", sum := "6877660f45e49970432cc9705100c2097904d4e72eff345acc8813c06fdad703", func := "loop.example/varve/laws.FnRelSame", spec := "fnRelSame", apart := false, narrowed := true }
def FnRelSameUptoSaid : Prop := fnRelSameUptoRow.holds Try.pinned (OpenSpec.upto fnRelSameSpec)

/-- 'laws.FnRelSpans', WHERE WHAT IT READS IS OF BULK AT MOST 1048576: true; the input reads as it did. -/
def fnRelSpansUptoRow : OpenClaim := { program := "ytoppbbppmhgdiab", sum := "6877660f45e49970432cc9705100c2097904d4e72eff345acc8813c06fdad703", func := "loop.example/varve/laws.FnRelSpans", spec := "fnRelSpans", unfollowed := true, recurses := true, apart := false, narrowed := true }
def FnRelSpansUptoSaid : Prop := fnRelSpansUptoRow.holds Try.pinned (OpenSpec.upto fnRelSpansSpec)

/-- 'laws.FnRelGet', WHERE WHAT IT READS IS OF BULK AT MOST 1048576: true; the input reads as it did. -/
def fnRelGetUptoRow : OpenClaim := { program := "ytoppbbppmhgdiab", sum := "6877660f45e49970432cc9705100c2097904d4e72eff345acc8813c06fdad703", func := "loop.example/varve/laws.FnRelGet", spec := "fnRelGet", unfollowed := true, recurses := true, apart := false, narrowed := true }
def FnRelGetUptoSaid : Prop := fnRelGetUptoRow.holds Try.pinned (OpenSpec.upto fnRelGetSpec)

end Rows
end Go.Proofs.Ytoppbbppmhgdiab
