/-
  No cell of these rows narrows 'for every input' (looked for: loops, veiled, ifaces, maps, wideKeys, modest, calm, conditions, laid).
  DERIVED. THE GIVEN ROWS OF THIS SEAT. 5 by the template 'for every input the law returns true; each argument reads behind the call as it read before'; 0 by the template 'total and deterministic' (their statements: YtfolppahdmkaoabTotals.lean).
  GIVEN WITH THE SEED: the statements are not yours to turn. If you find one false, say at which input.
  Laid BY PROGRAM, IN A SANDBOX (cutbox-rows.mjs): the forced cells as the released guide's own fill.sh prints them over the translation 1732620f08c18cb9… (all of the seat's roots in one cut). By AI agents, Wed Nov 11 2026. No macro, syntax, notation, axiom, sorry.
-/
import Derived.Test.YtfolppahdmkaoabChecked
import GoSem.Claim
import GoSem.ClaimJoined
import GoSem.ClaimMapViews
import Derived.JoinedTies
import Derived.KernelRfl
namespace Go.Proofs.Ytfolppahdmkaoab
/- THE CELL 'sum', in the pinned program and in every row, IS THE sha256 OF THE DUMP (.gsa) THAT YtfolppahdmkaoabProg.lean LOADS. Nothing in Lean hashes anything: it is a label: what it is worth is what the hold of that sum in a sandbox is worth. -/
noncomputable def Try.pinned : Pinned := { name := "ytfolppahdmkaoab", sum := "1732620f08c18cb9a6a8f5d10d64e51dcb4c535fab4b00d8b03e90a66fdd5b95", checked := Try.checked }
namespace Rows
def none {H : Type} : Left H := { results := [], args := [] }

/-- 'laws.FnExactStoreAt': WHATEVER THE INPUT: true; the input reads as it did. -/
def fnExactStoreAtSpec : ChangeSpec := { name := "fnExactStoreAt", fn := fun _ => fun
  | [d1, d2] => { results := [.lit (.bool true)], args := [d1, d2] }
  | _ => none }
def fnExactStoreAtRow : OpenClaim := { program := "ytfolppahdmkaoab", sum := "1732620f08c18cb9a6a8f5d10d64e51dcb4c535fab4b00d8b03e90a66fdd5b95", func := "loop.example/varve/laws.FnExactStoreAt", spec := "fnExactStoreAt", unfollowed := true, recurses := true, apart := false }
def FnExactStoreAtSaid : Prop := fnExactStoreAtRow.holds Try.pinned (OpenSpec.ofChange fnExactStoreAtSpec)

/-- ITS FALSE NEIGHBOUR: 'it returns false'. Refute it at one input. -/
def fnExactStoreAtWrong : ChangeSpec := { name := "fnExactStoreAt", fn := fun _ => fun
  | [d1, d2] => { results := [.lit (.bool false)], args := [d1, d2] }
  | _ => none }
def FnExactStoreAtWrongFalsely : Prop := fnExactStoreAtRow.holds Try.pinned (OpenSpec.ofChange fnExactStoreAtWrong)

/-- 'laws.FnExactStoreDiff': WHATEVER THE INPUT: true; the input reads as it did. -/
def fnExactStoreDiffSpec : ChangeSpec := { name := "fnExactStoreDiff", fn := fun _ => fun
  | [d1, d2, d3] => { results := [.lit (.bool true)], args := [d1, d2, d3] }
  | _ => none }
def fnExactStoreDiffRow : OpenClaim := { program := "ytfolppahdmkaoab", sum := "1732620f08c18cb9a6a8f5d10d64e51dcb4c535fab4b00d8b03e90a66fdd5b95", func := "loop.example/varve/laws.FnExactStoreDiff", spec := "fnExactStoreDiff", unfollowed := true, recurses := true, apart := false }
def FnExactStoreDiffSaid : Prop := fnExactStoreDiffRow.holds Try.pinned (OpenSpec.ofChange fnExactStoreDiffSpec)

/-- ITS FALSE NEIGHBOUR: 'it returns false'. Refute it at one input. -/
def fnExactStoreDiffWrong : ChangeSpec := { name := "fnExactStoreDiff", fn := fun _ => fun
  | [d1, d2, d3] => { results := [.lit (.bool false)], args := [d1, d2, d3] }
  | _ => none }
def FnExactStoreDiffWrongFalsely : Prop := fnExactStoreDiffRow.holds Try.pinned (OpenSpec.ofChange fnExactStoreDiffWrong)

/-- 'laws.FnExactStoreSet': WHATEVER THE INPUT: true; the input reads as it did. -/
def fnExactStoreSetSpec : ChangeSpec := { name := "fnExactStoreSet", fn := fun _ => fun
  | [d1, d2] => { results := [.lit (.bool true)], args := [d1, d2] }
  | _ => none }
def fnExactStoreSetRow : OpenClaim := { program := "ytfolppahdmkaoab", sum := "1732620f08c18cb9a6a8f5d10d64e51dcb4c535fab4b00d8b03e90a66fdd5b95", func := "loop.example/varve/laws.FnExactStoreSet", spec := "fnExactStoreSet", unfollowed := true, recurses := true, apart := false }
def FnExactStoreSetSaid : Prop := fnExactStoreSetRow.holds Try.pinned (OpenSpec.ofChange fnExactStoreSetSpec)

/-- ITS FALSE NEIGHBOUR: 'it returns false'. Refute it at one input. -/
def fnExactStoreSetWrong : ChangeSpec := { name := "fnExactStoreSet", fn := fun _ => fun
  | [d1, d2] => { results := [.lit (.bool false)], args := [d1, d2] }
  | _ => none }
def FnExactStoreSetWrongFalsely : Prop := fnExactStoreSetRow.holds Try.pinned (OpenSpec.ofChange fnExactStoreSetWrong)

/-- 'laws.FnExactStoreAll': WHATEVER THE INPUT: true; the input reads as it did. -/
def fnExactStoreAllSpec : ChangeSpec := { name := "fnExactStoreAll", fn := fun _ => fun
  | [d] => { results := [.lit (.bool true)], args := [d] }
  | _ => none }
def fnExactStoreAllRow : OpenClaim := { program := "ytfolppahdmkaoab", sum := "1732620f08c18cb9a6a8f5d10d64e51dcb4c535fab4b00d8b03e90a66fdd5b95", func := "loop.example/varve/laws.FnExactStoreAll", spec := "fnExactStoreAll", unfollowed := true, recurses := true, apart := false }
def FnExactStoreAllSaid : Prop := fnExactStoreAllRow.holds Try.pinned (OpenSpec.ofChange fnExactStoreAllSpec)

/-- ITS FALSE NEIGHBOUR: 'it returns false'. Refute it at one input. -/
def fnExactStoreAllWrong : ChangeSpec := { name := "fnExactStoreAll", fn := fun _ => fun
  | [d] => { results := [.lit (.bool false)], args := [d] }
  | _ => none }
def FnExactStoreAllWrongFalsely : Prop := fnExactStoreAllRow.holds Try.pinned (OpenSpec.ofChange fnExactStoreAllWrong)

/-- 'laws.FnStoreLast': WHATEVER THE INPUT: true; the input reads as it did. -/
def fnStoreLastSpec : ChangeSpec := { name := "fnStoreLast", fn := fun _ => fun
  | [d] => { results := [.lit (.bool true)], args := [d] }
  | _ => none }
def fnStoreLastRow : OpenClaim := { program := "ytfolppahdmkaoab", sum := "1732620f08c18cb9a6a8f5d10d64e51dcb4c535fab4b00d8b03e90a66fdd5b95", func := "loop.example/varve/laws.FnStoreLast", spec := "fnStoreLast", unfollowed := true, recurses := true, apart := false }
def FnStoreLastSaid : Prop := fnStoreLastRow.holds Try.pinned (OpenSpec.ofChange fnStoreLastSpec)

/-- ITS FALSE NEIGHBOUR: 'it returns false'. Refute it at one input. -/
def fnStoreLastWrong : ChangeSpec := { name := "fnStoreLast", fn := fun _ => fun
  | [d] => { results := [.lit (.bool false)], args := [d] }
  | _ => none }
def FnStoreLastWrongFalsely : Prop := fnStoreLastRow.holds Try.pinned (OpenSpec.ofChange fnStoreLastWrong)

/- THE SECOND FORM. 'bulk': how many values and letters a reading holds, each counted each time it is reached (what is shared counts as often as it is met; a slice's spare places count too). A statement '..UptoSaid' is the law's where the arguments, and the package variables that the reading takes, are together of bulk at most 1048576: NARROWER than '..Said'. Prove '..Said' where nothing that the law and all that it calls make is longer than what came in: it says more and counts as full. Else prove '..UptoSaid'. A law counts once. -/
mutual
def uptoBulk {H : Type} : DataW H → Nat
  | .lit (.string bytes) => bytes.length + 1
  | .lit _ => 1
  | .nil => 1
  | .ptr d => uptoBulk d + 1
  | .slice elems spare => uptoBulkAll elems + uptoBulkAll spare + 1
  | .agg parts => uptoBulkAll parts + 1
  | .iface _ d => uptoBulk d + 1
  | .map entries => uptoBulkEntries entries + 1
  | .held _ => 1
def uptoBulkAll {H : Type} : List (DataW H) → Nat
  | [] => 0
  | d :: r => uptoBulk d + uptoBulkAll r
def uptoBulkEntries {H : Type} : List (Lit × DataW H) → Nat
  | [] => 0
  | x :: r => uptoBulkEntry x + uptoBulkEntries r
def uptoBulkEntry {H : Type} : Lit × DataW H → Nat
  | (.string bytes, d) => bytes.length + uptoBulk d + 1
  | (_, d) => uptoBulk d + 1
 end
def uptoSmall : (H : Type) → List (DataW H) → Bool := fun _ ds => decide (uptoBulkAll ds ≤ 1048576)
def OpenSpec.upto (s : _root_.Go.ChangeSpec) : _root_.Go.OpenSpec := { _root_.Go.OpenSpec.ofChange s with cond := some uptoSmall }

/-- 'laws.FnExactStoreAt', WHERE WHAT IT READS IS OF BULK AT MOST 1048576: true; the input reads as it did. -/
def fnExactStoreAtUptoRow : OpenClaim := { program := "ytfolppahdmkaoab", sum := "1732620f08c18cb9a6a8f5d10d64e51dcb4c535fab4b00d8b03e90a66fdd5b95", func := "loop.example/varve/laws.FnExactStoreAt", spec := "fnExactStoreAt", unfollowed := true, recurses := true, apart := false, narrowed := true }
def FnExactStoreAtUptoSaid : Prop := fnExactStoreAtUptoRow.holds Try.pinned (OpenSpec.upto fnExactStoreAtSpec)

/-- 'laws.FnExactStoreDiff', WHERE WHAT IT READS IS OF BULK AT MOST 1048576: true; the input reads as it did. -/
def fnExactStoreDiffUptoRow : OpenClaim := { program := "ytfolppahdmkaoab", sum := "1732620f08c18cb9a6a8f5d10d64e51dcb4c535fab4b00d8b03e90a66fdd5b95", func := "loop.example/varve/laws.FnExactStoreDiff", spec := "fnExactStoreDiff", unfollowed := true, recurses := true, apart := false, narrowed := true }
def FnExactStoreDiffUptoSaid : Prop := fnExactStoreDiffUptoRow.holds Try.pinned (OpenSpec.upto fnExactStoreDiffSpec)

/-- 'laws.FnExactStoreSet', WHERE WHAT IT READS IS OF BULK AT MOST 1048576: true; the input reads as it did. -/
def fnExactStoreSetUptoRow : OpenClaim := { program := "ytfolppahdmkaoab", sum := "1732620f08c18cb9a6a8f5d10d64e51dcb4c535fab4b00d8b03e90a66fdd5b95", func := "loop.example/varve/laws.FnExactStoreSet", spec := "fnExactStoreSet", unfollowed := true, recurses := true, apart := false, narrowed := true }
def FnExactStoreSetUptoSaid : Prop := fnExactStoreSetUptoRow.holds Try.pinned (OpenSpec.upto fnExactStoreSetSpec)

/-- 'laws.FnExactStoreAll', WHERE WHAT IT READS IS OF BULK AT MOST 1048576: true; the input reads as it did. -/
def fnExactStoreAllUptoRow : OpenClaim := { program := "ytfolppahdmkaoab", sum := "1732620f08c18cb9a6a8f5d10d64e51dcb4c535fab4b00d8b03e90a66fdd5b95", func := "loop.example/varve/laws.FnExactStoreAll", spec := "fnExactStoreAll", unfollowed := true, recurses := true, apart := false, narrowed := true }
def FnExactStoreAllUptoSaid : Prop := fnExactStoreAllUptoRow.holds Try.pinned (OpenSpec.upto fnExactStoreAllSpec)

/-- 'laws.FnStoreLast', WHERE WHAT IT READS IS OF BULK AT MOST 1048576: true; the input reads as it did. -/
def fnStoreLastUptoRow : OpenClaim := { program := "ytfolppahdmkaoab", sum := "1732620f08c18cb9a6a8f5d10d64e51dcb4c535fab4b00d8b03e90a66fdd5b95", func := "loop.example/varve/laws.FnStoreLast", spec := "fnStoreLast", unfollowed := true, recurses := true, apart := false, narrowed := true }
def FnStoreLastUptoSaid : Prop := fnStoreLastUptoRow.holds Try.pinned (OpenSpec.upto fnStoreLastSpec)

end Rows
end Go.Proofs.Ytfolppahdmkaoab
