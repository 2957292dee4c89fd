/-
  No cell of these rows narrows 'for every input' (looked for: loops, veiled, ifaces, maps, wideKeys, modest, calm, conditions, laid).
  DERIVED. THE GIVEN ROWS OF THIS SEAT. 11 by the template 'for every input the law returns true; each argument reads behind the call as it read before'; 0 by the template 'total and deterministic' (their statements: YtgclmldhdjmabaaTotals.lean).
  GIVEN WITH THE SEED: the statements are not yours to turn. If you find one false, say at which input.
  Laid BY PROGRAM, IN A SANDBOX (cutbox-rows.mjs): the forced cells as the released guide's own fill.sh prints them over the translation a87268d07589dc0a… (all of the seat's roots in one cut). By AI agents, Wed Nov 11 2026. No macro, syntax, notation, axiom, sorry.
-/
import Derived.Test.YtgclmldhdjmabaaChecked
import GoSem.Claim
import GoSem.ClaimJoined
import GoSem.ClaimMapViews
import Derived.JoinedTies
import Derived.KernelRfl
namespace Go.Proofs.Ytgclmldhdjmabaa
/- THE CELL 'sum', in the pinned program and in every row, IS THE sha256 OF THE DUMP (.gsa) THAT YtgclmldhdjmabaaProg.lean LOADS. Nothing in Lean hashes anything: it is a label: what it is worth is what the hold of that sum in a sandbox is worth. -/
noncomputable def Try.pinned : Pinned := { name := "ytgclmldhdjmabaa", sum := "a87268d07589dc0a3071347449ad27c385737aad3c46cd07af70f13760840953", checked := Try.checked }
namespace Rows
def none {H : Type} : Left H := { results := [], args := [] }

/-- 'laws.FnRelAt': WHATEVER THE INPUT: true; the input reads as it did. -/
def fnRelAtSpec : ChangeSpec := { name := "fnRelAt", fn := fun _ => fun
  | [d] => { results := [.lit (.bool true)], args := [d] }
  | _ => none }
def fnRelAtRow : OpenClaim := { program := "ytgclmldhdjmabaa", sum := "a87268d07589dc0a3071347449ad27c385737aad3c46cd07af70f13760840953", func := "loop.example/varve/laws.FnRelAt", spec := "fnRelAt", apart := false }
def FnRelAtSaid : Prop := fnRelAtRow.holds Try.pinned (OpenSpec.ofChange fnRelAtSpec)

/-- ITS FALSE NEIGHBOUR: 'it returns false'. Refute it at one input. -/
def fnRelAtWrong : ChangeSpec := { name := "fnRelAt", fn := fun _ => fun
  | [d] => { results := [.lit (.bool false)], args := [d] }
  | _ => none }
def FnRelAtWrongFalsely : Prop := fnRelAtRow.holds Try.pinned (OpenSpec.ofChange fnRelAtWrong)

/-- 'laws.FnRelOf': WHATEVER THE INPUT: true; the input reads as it did. -/
def fnRelOfSpec : ChangeSpec := { name := "fnRelOf", fn := fun _ => fun
  | [d] => { results := [.lit (.bool true)], args := [d] }
  | _ => none }
def fnRelOfRow : OpenClaim := { program := "ytgclmldhdjmabaa", sum := "a87268d07589dc0a3071347449ad27c385737aad3c46cd07af70f13760840953", func := "loop.example/varve/laws.FnRelOf", spec := "fnRelOf", unfollowed := true, recurses := true, apart := false }
def FnRelOfSaid : Prop := fnRelOfRow.holds Try.pinned (OpenSpec.ofChange fnRelOfSpec)

/-- ITS FALSE NEIGHBOUR: 'it returns false'. Refute it at one input. -/
def fnRelOfWrong : ChangeSpec := { name := "fnRelOf", fn := fun _ => fun
  | [d] => { results := [.lit (.bool false)], args := [d] }
  | _ => none }
def FnRelOfWrongFalsely : Prop := fnRelOfRow.holds Try.pinned (OpenSpec.ofChange fnRelOfWrong)

/-- 'laws.FnMove': WHATEVER THE INPUT: true; the input reads as it did. -/
def fnMoveSpec : ChangeSpec := { name := "fnMove", fn := fun _ => fun
  | [d] => { results := [.lit (.bool true)], args := [d] }
  | _ => none }
def fnMoveRow : OpenClaim := { program := "ytgclmldhdjmabaa", sum := "a87268d07589dc0a3071347449ad27c385737aad3c46cd07af70f13760840953", func := "loop.example/varve/laws.FnMove", spec := "fnMove", unfollowed := true, recurses := true, apart := false }
def FnMoveSaid : Prop := fnMoveRow.holds Try.pinned (OpenSpec.ofChange fnMoveSpec)

/-- ITS FALSE NEIGHBOUR: 'it returns false'. Refute it at one input. -/
def fnMoveWrong : ChangeSpec := { name := "fnMove", fn := fun _ => fun
  | [d] => { results := [.lit (.bool false)], args := [d] }
  | _ => none }
def FnMoveWrongFalsely : Prop := fnMoveRow.holds Try.pinned (OpenSpec.ofChange fnMoveWrong)

/-- 'laws.FnDelete': WHATEVER THE INPUT: true; the input reads as it did. -/
def fnDeleteSpec : ChangeSpec := { name := "fnDelete", fn := fun _ => fun
  | [d] => { results := [.lit (.bool true)], args := [d] }
  | _ => none }
def fnDeleteRow : OpenClaim := { program := "ytgclmldhdjmabaa", sum := "a87268d07589dc0a3071347449ad27c385737aad3c46cd07af70f13760840953", func := "loop.example/varve/laws.FnDelete", spec := "fnDelete", unfollowed := true, recurses := true, apart := false }
def FnDeleteSaid : Prop := fnDeleteRow.holds Try.pinned (OpenSpec.ofChange fnDeleteSpec)

/-- ITS FALSE NEIGHBOUR: 'it returns false'. Refute it at one input. -/
def fnDeleteWrong : ChangeSpec := { name := "fnDelete", fn := fun _ => fun
  | [d] => { results := [.lit (.bool false)], args := [d] }
  | _ => none }
def FnDeleteWrongFalsely : Prop := fnDeleteRow.holds Try.pinned (OpenSpec.ofChange fnDeleteWrong)

/-- 'laws.FnMerge': WHATEVER THE INPUT: true; the input reads as it did. -/
def fnMergeSpec : ChangeSpec := { name := "fnMerge", fn := fun _ => fun
  | [d] => { results := [.lit (.bool true)], args := [d] }
  | _ => none }
def fnMergeRow : OpenClaim := { program := "ytgclmldhdjmabaa", sum := "a87268d07589dc0a3071347449ad27c385737aad3c46cd07af70f13760840953", func := "loop.example/varve/laws.FnMerge", spec := "fnMerge", unfollowed := true, recurses := true, apart := false }
def FnMergeSaid : Prop := fnMergeRow.holds Try.pinned (OpenSpec.ofChange fnMergeSpec)

/-- ITS FALSE NEIGHBOUR: 'it returns false'. Refute it at one input. -/
def fnMergeWrong : ChangeSpec := { name := "fnMerge", fn := fun _ => fun
  | [d] => { results := [.lit (.bool false)], args := [d] }
  | _ => none }
def FnMergeWrongFalsely : Prop := fnMergeRow.holds Try.pinned (OpenSpec.ofChange fnMergeWrong)

/-- 'laws.FnInsert': WHATEVER THE INPUT: true; the input reads as it did. -/
def fnInsertSpec : ChangeSpec := { name := "fnInsert", fn := fun _ => fun
  | [d] => { results := [.lit (.bool true)], args := [d] }
  | _ => none }
def fnInsertRow : OpenClaim := { program := "ytgclmldhdjmabaa", sum := "a87268d07589dc0a3071347449ad27c385737aad3c46cd07af70f13760840953", func := "loop.example/varve/laws.FnInsert", spec := "fnInsert", unfollowed := true, recurses := true, apart := false }
def FnInsertSaid : Prop := fnInsertRow.holds Try.pinned (OpenSpec.ofChange fnInsertSpec)

/-- ITS FALSE NEIGHBOUR: 'it returns false'. Refute it at one input. -/
def fnInsertWrong : ChangeSpec := { name := "fnInsert", fn := fun _ => fun
  | [d] => { results := [.lit (.bool false)], args := [d] }
  | _ => none }
def FnInsertWrongFalsely : Prop := fnInsertRow.holds Try.pinned (OpenSpec.ofChange fnInsertWrong)

/-- 'laws.FnExactRelKeys': WHATEVER THE INPUT: true; the input reads as it did. -/
def fnExactRelKeysSpec : ChangeSpec := { name := "fnExactRelKeys", fn := fun _ => fun
  | [d] => { results := [.lit (.bool true)], args := [d] }
  | _ => none }
def fnExactRelKeysRow : OpenClaim := { program := "ytgclmldhdjmabaa", sum := "a87268d07589dc0a3071347449ad27c385737aad3c46cd07af70f13760840953", func := "loop.example/varve/laws.FnExactRelKeys", spec := "fnExactRelKeys", apart := false }
def FnExactRelKeysSaid : Prop := fnExactRelKeysRow.holds Try.pinned (OpenSpec.ofChange fnExactRelKeysSpec)

/-- ITS FALSE NEIGHBOUR: 'it returns false'. Refute it at one input. -/
def fnExactRelKeysWrong : ChangeSpec := { name := "fnExactRelKeys", fn := fun _ => fun
  | [d] => { results := [.lit (.bool false)], args := [d] }
  | _ => none }
def FnExactRelKeysWrongFalsely : Prop := fnExactRelKeysRow.holds Try.pinned (OpenSpec.ofChange fnExactRelKeysWrong)

/-- 'laws.FnExactSetOf': WHATEVER THE INPUT: true; the input reads as it did. -/
def fnExactSetOfSpec : ChangeSpec := { name := "fnExactSetOf", fn := fun _ => fun
  | [d] => { results := [.lit (.bool true)], args := [d] }
  | _ => none }
def fnExactSetOfRow : OpenClaim := { program := "ytgclmldhdjmabaa", sum := "a87268d07589dc0a3071347449ad27c385737aad3c46cd07af70f13760840953", func := "loop.example/varve/laws.FnExactSetOf", spec := "fnExactSetOf", unfollowed := true, recurses := true, apart := false }
def FnExactSetOfSaid : Prop := fnExactSetOfRow.holds Try.pinned (OpenSpec.ofChange fnExactSetOfSpec)

/-- ITS FALSE NEIGHBOUR: 'it returns false'. Refute it at one input. -/
def fnExactSetOfWrong : ChangeSpec := { name := "fnExactSetOf", fn := fun _ => fun
  | [d] => { results := [.lit (.bool false)], args := [d] }
  | _ => none }
def FnExactSetOfWrongFalsely : Prop := fnExactSetOfRow.holds Try.pinned (OpenSpec.ofChange fnExactSetOfWrong)

/-- 'laws.FnExactRelSpans': WHATEVER THE INPUT: true; the input reads as it did. -/
def fnExactRelSpansSpec : ChangeSpec := { name := "fnExactRelSpans", fn := fun _ => fun
  | [d1, d2] => { results := [.lit (.bool true)], args := [d1, d2] }
  | _ => none }
def fnExactRelSpansRow : OpenClaim := { program := "ytgclmldhdjmabaa", sum := "a87268d07589dc0a3071347449ad27c385737aad3c46cd07af70f13760840953", func := "loop.example/varve/laws.FnExactRelSpans", spec := "fnExactRelSpans", unfollowed := true, recurses := true, apart := false }
def FnExactRelSpansSaid : Prop := fnExactRelSpansRow.holds Try.pinned (OpenSpec.ofChange fnExactRelSpansSpec)

/-- ITS FALSE NEIGHBOUR: 'it returns false'. Refute it at one input. -/
def fnExactRelSpansWrong : ChangeSpec := { name := "fnExactRelSpans", fn := fun _ => fun
  | [d1, d2] => { results := [.lit (.bool false)], args := [d1, d2] }
  | _ => none }
def FnExactRelSpansWrongFalsely : Prop := fnExactRelSpansRow.holds Try.pinned (OpenSpec.ofChange fnExactRelSpansWrong)

/-- 'laws.FnSetOf': WHATEVER THE INPUT: true; the input reads as it did. -/
def fnSetOfSpec : ChangeSpec := { name := "fnSetOf", fn := fun _ => fun
  | [d] => { results := [.lit (.bool true)], args := [d] }
  | _ => none }
def fnSetOfRow : OpenClaim := { program := "ytgclmldhdjmabaa", sum := "a87268d07589dc0a3071347449ad27c385737aad3c46cd07af70f13760840953", func := "loop.example/varve/laws.FnSetOf", spec := "fnSetOf", unfollowed := true, recurses := true, apart := false }
def FnSetOfSaid : Prop := fnSetOfRow.holds Try.pinned (OpenSpec.ofChange fnSetOfSpec)

/-- ITS FALSE NEIGHBOUR: 'it returns false'. Refute it at one input. -/
def fnSetOfWrong : ChangeSpec := { name := "fnSetOf", fn := fun _ => fun
  | [d] => { results := [.lit (.bool false)], args := [d] }
  | _ => none }
def FnSetOfWrongFalsely : Prop := fnSetOfRow.holds Try.pinned (OpenSpec.ofChange fnSetOfWrong)

/-- 'laws.FnSetLess': WHATEVER THE INPUT: true; the input reads as it did. -/
def fnSetLessSpec : ChangeSpec := { name := "fnSetLess", fn := fun _ => fun
  | [d] => { results := [.lit (.bool true)], args := [d] }
  | _ => none }
def fnSetLessRow : OpenClaim := { program := "ytgclmldhdjmabaa", sum := "a87268d07589dc0a3071347449ad27c385737aad3c46cd07af70f13760840953", func := "loop.example/varve/laws.FnSetLess", spec := "fnSetLess", unfollowed := true, recurses := true, apart := false }
def FnSetLessSaid : Prop := fnSetLessRow.holds Try.pinned (OpenSpec.ofChange fnSetLessSpec)

/-- ITS FALSE NEIGHBOUR: 'it returns false'. Refute it at one input. -/
def fnSetLessWrong : ChangeSpec := { name := "fnSetLess", fn := fun _ => fun
  | [d] => { results := [.lit (.bool false)], args := [d] }
  | _ => none }
def FnSetLessWrongFalsely : Prop := fnSetLessRow.holds Try.pinned (OpenSpec.ofChange fnSetLessWrong)

/- THE SECOND FORM. 'bulk': how many values and letters a reading holds, each counted each time it is reached (what is shared counts as often as it is met; a slice's spare places count too). A statement '..UptoSaid' is the law's where the arguments, and the package variables that the reading takes, are together of bulk at most 1048576: NARROWER than '..Said'. Prove '..Said' where nothing that the law and all that it calls make is longer than what came in: it says more and counts as full. Else prove '..UptoSaid'. A law counts once. -/
mutual
def uptoBulk {H : Type} : DataW H → Nat
  | .lit (.string bytes) => bytes.length + 1
  | .lit _ => 1
  | .nil => 1
  | .ptr d => uptoBulk d + 1
  | .slice elems spare => uptoBulkAll elems + uptoBulkAll spare + 1
  | .agg parts => uptoBulkAll parts + 1
  | .iface _ d => uptoBulk d + 1
  | .map entries => uptoBulkEntries entries + 1
  | .held _ => 1
def uptoBulkAll {H : Type} : List (DataW H) → Nat
  | [] => 0
  | d :: r => uptoBulk d + uptoBulkAll r
def uptoBulkEntries {H : Type} : List (Lit × DataW H) → Nat
  | [] => 0
  | x :: r => uptoBulkEntry x + uptoBulkEntries r
def uptoBulkEntry {H : Type} : Lit × DataW H → Nat
  | (.string bytes, d) => bytes.length + uptoBulk d + 1
  | (_, d) => uptoBulk d + 1
 end
def uptoSmall : (H : Type) → List (DataW H) → Bool := fun _ ds => decide (uptoBulkAll ds ≤ 1048576)
def OpenSpec.upto (s : _root_.Go.ChangeSpec) : _root_.Go.OpenSpec := { _root_.Go.OpenSpec.ofChange s with cond := some uptoSmall }

/-- 'laws.FnRelAt', WHERE WHAT IT READS IS OF BULK AT MOST 1048576: true; the input reads as it did. -/
def fnRelAtUptoRow : OpenClaim := { program := "ytgclmldhdjmabaa", sum := "a87268d07589dc0a3071347449ad27c385737aad3c46cd07af70f13760840953", func := "loop.example/varve/laws.FnRelAt", spec := "fnRelAt", apart := false, narrowed := true }
def FnRelAtUptoSaid : Prop := fnRelAtUptoRow.holds Try.pinned (OpenSpec.upto fnRelAtSpec)

/-- 'laws.FnRelOf', WHERE WHAT IT READS IS OF BULK AT MOST 1048576: true; the input reads as it did. -/
def fnRelOfUptoRow : OpenClaim := { program := "ytgclmldhdjmabaa", sum := "a87268d07589dc0a3071347449ad27c385737aad3c46cd07af70f13760840953", func := "loop.example/varve/laws.FnRelOf", spec := "fnRelOf", unfollowed := true, recurses := true, apart := false, narrowed := true }
def FnRelOfUptoSaid : Prop := fnRelOfUptoRow.holds Try.pinned (OpenSpec.upto fnRelOfSpec)

/-- 'laws.FnMove', WHERE WHAT IT READS IS OF BULK AT MOST 1048576: true; the input reads as it did. -/
def fnMoveUptoRow : OpenClaim := { program := "ytgclmldhdjmabaa", sum := "a87268d07589dc0a3071347449ad27c385737aad3c46cd07af70f13760840953", func := "loop.example/varve/laws.FnMove", spec := "fnMove", unfollowed := true, recurses := true, apart := false, narrowed := true }
def FnMoveUptoSaid : Prop := fnMoveUptoRow.holds Try.pinned (OpenSpec.upto fnMoveSpec)

/-- 'laws.FnDelete', WHERE WHAT IT READS IS OF BULK AT MOST 1048576: true; the input reads as it did. -/
def fnDeleteUptoRow : OpenClaim := { program := "ytgclmldhdjmabaa", sum := "a87268d07589dc0a3071347449ad27c385737aad3c46cd07af70f13760840953", func := "loop.example/varve/laws.FnDelete", spec := "fnDelete", unfollowed := true, recurses := true, apart := false, narrowed := true }
def FnDeleteUptoSaid : Prop := fnDeleteUptoRow.holds Try.pinned (OpenSpec.upto fnDeleteSpec)

/-- 'laws.FnMerge', WHERE WHAT IT READS IS OF BULK AT MOST 1048576: true; the input reads as it did. -/
def fnMergeUptoRow : OpenClaim := { program := "ytgclmldhdjmabaa", sum := "a87268d07589dc0a3071347449ad27c385737aad3c46cd07af70f13760840953", func := "loop.example/varve/laws.FnMerge", spec := "fnMerge", unfollowed := true, recurses := true, apart := false, narrowed := true }
def FnMergeUptoSaid : Prop := fnMergeUptoRow.holds Try.pinned (OpenSpec.upto fnMergeSpec)

/-- 'laws.FnInsert', WHERE WHAT IT READS IS OF BULK AT MOST 1048576: true; the input reads as it did. -/
def fnInsertUptoRow : OpenClaim := { program := "ytgclmldhdjmabaa", sum := "a87268d07589dc0a3071347449ad27c385737aad3c46cd07af70f13760840953", func := "loop.example/varve/laws.FnInsert", spec := "fnInsert", unfollowed := true, recurses := true, apart := false, narrowed := true }
def FnInsertUptoSaid : Prop := fnInsertUptoRow.holds Try.pinned (OpenSpec.upto fnInsertSpec)

/-- 'laws.FnExactRelKeys', WHERE WHAT IT READS IS OF BULK AT MOST 1048576: true; the input reads as it did. -/
def fnExactRelKeysUptoRow : OpenClaim := { program := "ytgclmldhdjmabaa", sum := "a87268d07589dc0a3071347449ad27c385737aad3c46cd07af70f13760840953", func := "loop.example/varve/laws.FnExactRelKeys", spec := "fnExactRelKeys", apart := false, narrowed := true }
def FnExactRelKeysUptoSaid : Prop := fnExactRelKeysUptoRow.holds Try.pinned (OpenSpec.upto fnExactRelKeysSpec)

/-- 'laws.FnExactSetOf', WHERE WHAT IT READS IS OF BULK AT MOST 1048576: true; the input reads as it did. -/
def fnExactSetOfUptoRow : OpenClaim := { program := "ytgclmldhdjmabaa", sum := "a87268d07589dc0a3071347449ad27c385737aad3c46cd07af70f13760840953", func := "loop.example/varve/laws.FnExactSetOf", spec := "fnExactSetOf", unfollowed := true, recurses := true, apart := false, narrowed := true }
def FnExactSetOfUptoSaid : Prop := fnExactSetOfUptoRow.holds Try.pinned (OpenSpec.upto fnExactSetOfSpec)

/-- 'laws.FnExactRelSpans', WHERE WHAT IT READS IS OF BULK AT MOST 1048576: true; the input reads as it did. -/
def fnExactRelSpansUptoRow : OpenClaim := { program := "ytgclmldhdjmabaa", sum := "a87268d07589dc0a3071347449ad27c385737aad3c46cd07af70f13760840953", func := "loop.example/varve/laws.FnExactRelSpans", spec := "fnExactRelSpans", unfollowed := true, recurses := true, apart := false, narrowed := true }
def FnExactRelSpansUptoSaid : Prop := fnExactRelSpansUptoRow.holds Try.pinned (OpenSpec.upto fnExactRelSpansSpec)

/-- 'laws.FnSetOf', WHERE WHAT IT READS IS OF BULK AT MOST 1048576: true; the input reads as it did. -/
def fnSetOfUptoRow : OpenClaim := { program := "ytgclmldhdjmabaa", sum := "a87268d07589dc0a3071347449ad27c385737aad3c46cd07af70f13760840953", func := "loop.example/varve/laws.FnSetOf", spec := "fnSetOf", unfollowed := true, recurses := true, apart := false, narrowed := true }
def FnSetOfUptoSaid : Prop := fnSetOfUptoRow.holds Try.pinned (OpenSpec.upto fnSetOfSpec)

/-- 'laws.FnSetLess', WHERE WHAT IT READS IS OF BULK AT MOST 1048576: true; the input reads as it did. -/
def fnSetLessUptoRow : OpenClaim := { program := "ytgclmldhdjmabaa", sum := "a87268d07589dc0a3071347449ad27c385737aad3c46cd07af70f13760840953", func := "loop.example/varve/laws.FnSetLess", spec := "fnSetLess", unfollowed := true, recurses := true, apart := false, narrowed := true }
def FnSetLessUptoSaid : Prop := fnSetLessUptoRow.holds Try.pinned (OpenSpec.upto fnSetLessSpec)

end Rows
end Go.Proofs.Ytgclmldhdjmabaa
