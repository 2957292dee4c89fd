/-
  No cell of these rows narrows 'for every input' (looked for: loops, veiled, ifaces, maps, wideKeys, modest, calm, conditions, laid).
  DERIVED. THE GIVEN ROWS OF THIS SEAT. 9 by the template 'for every input the law returns true; each argument reads behind the call as it read before'; 0 by the template 'total and deterministic' (their statements: YtgclmldhdjmababTotals.lean).
  GIVEN WITH THE SEED: the statements are not yours to turn. If you find one false, say at which input.
  Laid BY PROGRAM, IN A SANDBOX (cutbox-rows.mjs): the forced cells as the released guide's own fill.sh prints them over the translation afa98d241d4b53e8… (all of the seat's roots in one cut). By AI agents, Wed Nov 11 2026. No macro, syntax, notation, axiom, sorry.
-/
import Derived.Test.YtgclmldhdjmababChecked
import GoSem.Claim
import GoSem.ClaimJoined
import GoSem.ClaimMapViews
import Derived.JoinedTies
import Derived.KernelRfl
namespace Go.Proofs.Ytgclmldhdjmabab
/- THE CELL 'sum', in the pinned program and in every row, IS THE sha256 OF THE DUMP (.gsa) THAT YtgclmldhdjmababProg.lean LOADS. Nothing in Lean hashes anything: it is a label: what it is worth is what the hold of that sum in a sandbox is worth. -/
noncomputable def Try.pinned : Pinned := { name := "ytgclmldhdjmabab", sum := "afa98d241d4b53e8feec3d915b161d55f313e6ab82da17ee2caaebf7d132b702", checked := Try.checked }
namespace Rows
def none {H : Type} : Left H := { results := [], args := [] }

/-- 'laws.FnSpanLess': WHATEVER THE INPUT: true; the input reads as it did. -/
def fnSpanLessSpec : ChangeSpec := { name := "fnSpanLess", fn := fun _ => fun
  | [d] => { results := [.lit (.bool true)], args := [d] }
  | _ => none }
def fnSpanLessRow : OpenClaim := { program := "ytgclmldhdjmabab", sum := "afa98d241d4b53e8feec3d915b161d55f313e6ab82da17ee2caaebf7d132b702", func := "loop.example/varve/laws.FnSpanLess", spec := "fnSpanLess", unfollowed := true, recurses := true, apart := false }
def FnSpanLessSaid : Prop := fnSpanLessRow.holds Try.pinned (OpenSpec.ofChange fnSpanLessSpec)

/-- ITS FALSE NEIGHBOUR: 'it returns false'. Refute it at one input. -/
def fnSpanLessWrong : ChangeSpec := { name := "fnSpanLess", fn := fun _ => fun
  | [d] => { results := [.lit (.bool false)], args := [d] }
  | _ => none }
def FnSpanLessWrongFalsely : Prop := fnSpanLessRow.holds Try.pinned (OpenSpec.ofChange fnSpanLessWrong)

/-- 'laws.FnExactOpOk': WHATEVER THE INPUT: true; the input reads as it did. -/
def fnExactOpOkSpec : ChangeSpec := { name := "fnExactOpOk", fn := fun _ => fun
  | [d] => { results := [.lit (.bool true)], args := [d] }
  | _ => none }
def fnExactOpOkRow : OpenClaim := { program := "ytgclmldhdjmabab", sum := "afa98d241d4b53e8feec3d915b161d55f313e6ab82da17ee2caaebf7d132b702", func := "loop.example/varve/laws.FnExactOpOk", spec := "fnExactOpOk", unfollowed := true, recurses := true, apart := false }
def FnExactOpOkSaid : Prop := fnExactOpOkRow.holds Try.pinned (OpenSpec.ofChange fnExactOpOkSpec)

/-- ITS FALSE NEIGHBOUR: 'it returns false'. Refute it at one input. -/
def fnExactOpOkWrong : ChangeSpec := { name := "fnExactOpOk", fn := fun _ => fun
  | [d] => { results := [.lit (.bool false)], args := [d] }
  | _ => none }
def FnExactOpOkWrongFalsely : Prop := fnExactOpOkRow.holds Try.pinned (OpenSpec.ofChange fnExactOpOkWrong)

/-- 'laws.FnOpOk': WHATEVER THE INPUT: true; the input reads as it did. -/
def fnOpOkSpec : ChangeSpec := { name := "fnOpOk", fn := fun _ => fun
  | [d] => { results := [.lit (.bool true)], args := [d] }
  | _ => none }
def fnOpOkRow : OpenClaim := { program := "ytgclmldhdjmabab", sum := "afa98d241d4b53e8feec3d915b161d55f313e6ab82da17ee2caaebf7d132b702", func := "loop.example/varve/laws.FnOpOk", spec := "fnOpOk", unfollowed := true, recurses := true, apart := false }
def FnOpOkSaid : Prop := fnOpOkRow.holds Try.pinned (OpenSpec.ofChange fnOpOkSpec)

/-- ITS FALSE NEIGHBOUR: 'it returns false'. Refute it at one input. -/
def fnOpOkWrong : ChangeSpec := { name := "fnOpOk", fn := fun _ => fun
  | [d] => { results := [.lit (.bool false)], args := [d] }
  | _ => none }
def FnOpOkWrongFalsely : Prop := fnOpOkRow.holds Try.pinned (OpenSpec.ofChange fnOpOkWrong)

/-- 'laws.FnExactDbNew': WHATEVER THE INPUT: true; the input reads as it did. -/
def fnExactDbNewSpec : ChangeSpec := { name := "fnExactDbNew", fn := fun _ => fun
  | [] => { results := [.lit (.bool true)], args := [] }
  | _ => none }
def fnExactDbNewRow : OpenClaim := { program := "ytgclmldhdjmabab", sum := "afa98d241d4b53e8feec3d915b161d55f313e6ab82da17ee2caaebf7d132b702", func := "loop.example/varve/laws.FnExactDbNew", spec := "fnExactDbNew", apart := false }
def FnExactDbNewSaid : Prop := fnExactDbNewRow.holds Try.pinned (OpenSpec.ofChange fnExactDbNewSpec)

/-- ITS FALSE NEIGHBOUR: 'it returns false'. Refute it at one input. -/
def fnExactDbNewWrong : ChangeSpec := { name := "fnExactDbNew", fn := fun _ => fun
  | [] => { results := [.lit (.bool false)], args := [] }
  | _ => none }
def FnExactDbNewWrongFalsely : Prop := fnExactDbNewRow.holds Try.pinned (OpenSpec.ofChange fnExactDbNewWrong)

/-- 'laws.FnExactStoreOk': WHATEVER THE INPUT: true; the input reads as it did. -/
def fnExactStoreOkSpec : ChangeSpec := { name := "fnExactStoreOk", fn := fun _ => fun
  | [d] => { results := [.lit (.bool true)], args := [d] }
  | _ => none }
def fnExactStoreOkRow : OpenClaim := { program := "ytgclmldhdjmabab", sum := "afa98d241d4b53e8feec3d915b161d55f313e6ab82da17ee2caaebf7d132b702", func := "loop.example/varve/laws.FnExactStoreOk", spec := "fnExactStoreOk", unfollowed := true, recurses := true, apart := false }
def FnExactStoreOkSaid : Prop := fnExactStoreOkRow.holds Try.pinned (OpenSpec.ofChange fnExactStoreOkSpec)

/-- ITS FALSE NEIGHBOUR: 'it returns false'. Refute it at one input. -/
def fnExactStoreOkWrong : ChangeSpec := { name := "fnExactStoreOk", fn := fun _ => fun
  | [d] => { results := [.lit (.bool false)], args := [d] }
  | _ => none }
def FnExactStoreOkWrongFalsely : Prop := fnExactStoreOkRow.holds Try.pinned (OpenSpec.ofChange fnExactStoreOkWrong)

/-- 'laws.FnExactStoreLast': WHATEVER THE INPUT: true; the input reads as it did. -/
def fnExactStoreLastSpec : ChangeSpec := { name := "fnExactStoreLast", fn := fun _ => fun
  | [d1, d2] => { results := [.lit (.bool true)], args := [d1, d2] }
  | _ => none }
def fnExactStoreLastRow : OpenClaim := { program := "ytgclmldhdjmabab", sum := "afa98d241d4b53e8feec3d915b161d55f313e6ab82da17ee2caaebf7d132b702", func := "loop.example/varve/laws.FnExactStoreLast", spec := "fnExactStoreLast", unfollowed := true, recurses := true, apart := false }
def FnExactStoreLastSaid : Prop := fnExactStoreLastRow.holds Try.pinned (OpenSpec.ofChange fnExactStoreLastSpec)

/-- ITS FALSE NEIGHBOUR: 'it returns false'. Refute it at one input. -/
def fnExactStoreLastWrong : ChangeSpec := { name := "fnExactStoreLast", fn := fun _ => fun
  | [d1, d2] => { results := [.lit (.bool false)], args := [d1, d2] }
  | _ => none }
def FnExactStoreLastWrongFalsely : Prop := fnExactStoreLastRow.holds Try.pinned (OpenSpec.ofChange fnExactStoreLastWrong)

/-- 'laws.FnExactStoreAt': WHATEVER THE INPUT: true; the input reads as it did. -/
def fnExactStoreAtSpec : ChangeSpec := { name := "fnExactStoreAt", fn := fun _ => fun
  | [d1, d2] => { results := [.lit (.bool true)], args := [d1, d2] }
  | _ => none }
def fnExactStoreAtRow : OpenClaim := { program := "ytgclmldhdjmabab", sum := "afa98d241d4b53e8feec3d915b161d55f313e6ab82da17ee2caaebf7d132b702", func := "loop.example/varve/laws.FnExactStoreAt", spec := "fnExactStoreAt", unfollowed := true, recurses := true, apart := false }
def FnExactStoreAtSaid : Prop := fnExactStoreAtRow.holds Try.pinned (OpenSpec.ofChange fnExactStoreAtSpec)

/-- ITS FALSE NEIGHBOUR: 'it returns false'. Refute it at one input. -/
def fnExactStoreAtWrong : ChangeSpec := { name := "fnExactStoreAt", fn := fun _ => fun
  | [d1, d2] => { results := [.lit (.bool false)], args := [d1, d2] }
  | _ => none }
def FnExactStoreAtWrongFalsely : Prop := fnExactStoreAtRow.holds Try.pinned (OpenSpec.ofChange fnExactStoreAtWrong)

/-- 'laws.FnExactStoreDiff': WHATEVER THE INPUT: true; the input reads as it did. -/
def fnExactStoreDiffSpec : ChangeSpec := { name := "fnExactStoreDiff", fn := fun _ => fun
  | [d1, d2, d3] => { results := [.lit (.bool true)], args := [d1, d2, d3] }
  | _ => none }
def fnExactStoreDiffRow : OpenClaim := { program := "ytgclmldhdjmabab", sum := "afa98d241d4b53e8feec3d915b161d55f313e6ab82da17ee2caaebf7d132b702", func := "loop.example/varve/laws.FnExactStoreDiff", spec := "fnExactStoreDiff", unfollowed := true, recurses := true, apart := false }
def FnExactStoreDiffSaid : Prop := fnExactStoreDiffRow.holds Try.pinned (OpenSpec.ofChange fnExactStoreDiffSpec)

/-- ITS FALSE NEIGHBOUR: 'it returns false'. Refute it at one input. -/
def fnExactStoreDiffWrong : ChangeSpec := { name := "fnExactStoreDiff", fn := fun _ => fun
  | [d1, d2, d3] => { results := [.lit (.bool false)], args := [d1, d2, d3] }
  | _ => none }
def FnExactStoreDiffWrongFalsely : Prop := fnExactStoreDiffRow.holds Try.pinned (OpenSpec.ofChange fnExactStoreDiffWrong)

/-- 'laws.FnExactStoreSet': WHATEVER THE INPUT: true; the input reads as it did. -/
def fnExactStoreSetSpec : ChangeSpec := { name := "fnExactStoreSet", fn := fun _ => fun
  | [d1, d2] => { results := [.lit (.bool true)], args := [d1, d2] }
  | _ => none }
def fnExactStoreSetRow : OpenClaim := { program := "ytgclmldhdjmabab", sum := "afa98d241d4b53e8feec3d915b161d55f313e6ab82da17ee2caaebf7d132b702", func := "loop.example/varve/laws.FnExactStoreSet", spec := "fnExactStoreSet", unfollowed := true, recurses := true, apart := false }
def FnExactStoreSetSaid : Prop := fnExactStoreSetRow.holds Try.pinned (OpenSpec.ofChange fnExactStoreSetSpec)

/-- ITS FALSE NEIGHBOUR: 'it returns false'. Refute it at one input. -/
def fnExactStoreSetWrong : ChangeSpec := { name := "fnExactStoreSet", fn := fun _ => fun
  | [d1, d2] => { results := [.lit (.bool false)], args := [d1, d2] }
  | _ => none }
def FnExactStoreSetWrongFalsely : Prop := fnExactStoreSetRow.holds Try.pinned (OpenSpec.ofChange fnExactStoreSetWrong)

/- THE SECOND FORM. 'bulk': how many values and letters a reading holds, each counted each time it is reached (what is shared counts as often as it is met; a slice's spare places count too). A statement '..UptoSaid' is the law's where the arguments, and the package variables that the reading takes, are together of bulk at most 1048576: NARROWER than '..Said'. Prove '..Said' where nothing that the law and all that it calls make is longer than what came in: it says more and counts as full. Else prove '..UptoSaid'. A law counts once. -/
mutual
def uptoBulk {H : Type} : DataW H → Nat
  | .lit (.string bytes) => bytes.length + 1
  | .lit _ => 1
  | .nil => 1
  | .ptr d => uptoBulk d + 1
  | .slice elems spare => uptoBulkAll elems + uptoBulkAll spare + 1
  | .agg parts => uptoBulkAll parts + 1
  | .iface _ d => uptoBulk d + 1
  | .map entries => uptoBulkEntries entries + 1
  | .held _ => 1
def uptoBulkAll {H : Type} : List (DataW H) → Nat
  | [] => 0
  | d :: r => uptoBulk d + uptoBulkAll r
def uptoBulkEntries {H : Type} : List (Lit × DataW H) → Nat
  | [] => 0
  | x :: r => uptoBulkEntry x + uptoBulkEntries r
def uptoBulkEntry {H : Type} : Lit × DataW H → Nat
  | (.string bytes, d) => bytes.length + uptoBulk d + 1
  | (_, d) => uptoBulk d + 1
 end
def uptoSmall : (H : Type) → List (DataW H) → Bool := fun _ ds => decide (uptoBulkAll ds ≤ 1048576)
def OpenSpec.upto (s : _root_.Go.ChangeSpec) : _root_.Go.OpenSpec := { _root_.Go.OpenSpec.ofChange s with cond := some uptoSmall }

/-- 'laws.FnSpanLess', WHERE WHAT IT READS IS OF BULK AT MOST 1048576: true; the input reads as it did. -/
def fnSpanLessUptoRow : OpenClaim := { program := "ytgclmldhdjmabab", sum := "afa98d241d4b53e8feec3d915b161d55f313e6ab82da17ee2caaebf7d132b702", func := "loop.example/varve/laws.FnSpanLess", spec := "fnSpanLess", unfollowed := true, recurses := true, apart := false, narrowed := true }
def FnSpanLessUptoSaid : Prop := fnSpanLessUptoRow.holds Try.pinned (OpenSpec.upto fnSpanLessSpec)

/-- 'laws.FnExactOpOk', WHERE WHAT IT READS IS OF BULK AT MOST 1048576: true; the input reads as it did. -/
def fnExactOpOkUptoRow : OpenClaim := { program := "ytgclmldhdjmabab", sum := "afa98d241d4b53e8feec3d915b161d55f313e6ab82da17ee2caaebf7d132b702", func := "loop.example/varve/laws.FnExactOpOk", spec := "fnExactOpOk", unfollowed := true, recurses := true, apart := false, narrowed := true }
def FnExactOpOkUptoSaid : Prop := fnExactOpOkUptoRow.holds Try.pinned (OpenSpec.upto fnExactOpOkSpec)

/-- 'laws.FnOpOk', WHERE WHAT IT READS IS OF BULK AT MOST 1048576: true; the input reads as it did. -/
def fnOpOkUptoRow : OpenClaim := { program := "ytgclmldhdjmabab", sum := "afa98d241d4b53e8feec3d915b161d55f313e6ab82da17ee2caaebf7d132b702", func := "loop.example/varve/laws.FnOpOk", spec := "fnOpOk", unfollowed := true, recurses := true, apart := false, narrowed := true }
def FnOpOkUptoSaid : Prop := fnOpOkUptoRow.holds Try.pinned (OpenSpec.upto fnOpOkSpec)

/-- 'laws.FnExactDbNew', WHERE WHAT IT READS IS OF BULK AT MOST 1048576: true; the input reads as it did. -/
def fnExactDbNewUptoRow : OpenClaim := { program := "ytgclmldhdjmabab", sum := "afa98d241d4b53e8feec3d915b161d55f313e6ab82da17ee2caaebf7d132b702", func := "loop.example/varve/laws.FnExactDbNew", spec := "fnExactDbNew", apart := false, narrowed := true }
def FnExactDbNewUptoSaid : Prop := fnExactDbNewUptoRow.holds Try.pinned (OpenSpec.upto fnExactDbNewSpec)

/-- 'laws.FnExactStoreOk', WHERE WHAT IT READS IS OF BULK AT MOST 1048576: true; the input reads as it did. -/
def fnExactStoreOkUptoRow : OpenClaim := { program := "ytgclmldhdjmabab", sum := "afa98d241d4b53e8feec3d915b161d55f313e6ab82da17ee2caaebf7d132b702", func := "loop.example/varve/laws.FnExactStoreOk", spec := "fnExactStoreOk", unfollowed := true, recurses := true, apart := false, narrowed := true }
def FnExactStoreOkUptoSaid : Prop := fnExactStoreOkUptoRow.holds Try.pinned (OpenSpec.upto fnExactStoreOkSpec)

/-- 'laws.FnExactStoreLast', WHERE WHAT IT READS IS OF BULK AT MOST 1048576: true; the input reads as it did. -/
def fnExactStoreLastUptoRow : OpenClaim := { program := "ytgclmldhdjmabab", sum := "afa98d241d4b53e8feec3d915b161d55f313e6ab82da17ee2caaebf7d132b702", func := "loop.example/varve/laws.FnExactStoreLast", spec := "fnExactStoreLast", unfollowed := true, recurses := true, apart := false, narrowed := true }
def FnExactStoreLastUptoSaid : Prop := fnExactStoreLastUptoRow.holds Try.pinned (OpenSpec.upto fnExactStoreLastSpec)

/-- 'laws.FnExactStoreAt', WHERE WHAT IT READS IS OF BULK AT MOST 1048576: true; the input reads as it did. -/
def fnExactStoreAtUptoRow : OpenClaim := { program := "ytgclmldhdjmabab", sum := "afa98d241d4b53e8feec3d915b161d55f313e6ab82da17ee2caaebf7d132b702", func := "loop.example/varve/laws.FnExactStoreAt", spec := "fnExactStoreAt", unfollowed := true, recurses := true, apart := false, narrowed := true }
def FnExactStoreAtUptoSaid : Prop := fnExactStoreAtUptoRow.holds Try.pinned (OpenSpec.upto fnExactStoreAtSpec)

/-- 'laws.FnExactStoreDiff', WHERE WHAT IT READS IS OF BULK AT MOST 1048576: true; the input reads as it did. -/
def fnExactStoreDiffUptoRow : OpenClaim := { program := "ytgclmldhdjmabab", sum := "afa98d241d4b53e8feec3d915b161d55f313e6ab82da17ee2caaebf7d132b702", func := "loop.example/varve/laws.FnExactStoreDiff", spec := "fnExactStoreDiff", unfollowed := true, recurses := true, apart := false, narrowed := true }
def FnExactStoreDiffUptoSaid : Prop := fnExactStoreDiffUptoRow.holds Try.pinned (OpenSpec.upto fnExactStoreDiffSpec)

/-- 'laws.FnExactStoreSet', WHERE WHAT IT READS IS OF BULK AT MOST 1048576: true; the input reads as it did. -/
def fnExactStoreSetUptoRow : OpenClaim := { program := "ytgclmldhdjmabab", sum := "afa98d241d4b53e8feec3d915b161d55f313e6ab82da17ee2caaebf7d132b702", func := "loop.example/varve/laws.FnExactStoreSet", spec := "fnExactStoreSet", unfollowed := true, recurses := true, apart := false, narrowed := true }
def FnExactStoreSetUptoSaid : Prop := fnExactStoreSetUptoRow.holds Try.pinned (OpenSpec.upto fnExactStoreSetSpec)

end Rows
end Go.Proofs.Ytgclmldhdjmabab
