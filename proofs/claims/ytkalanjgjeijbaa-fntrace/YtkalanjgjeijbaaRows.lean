/-
  No cell of these rows narrows 'for every input' (looked for: loops, veiled, ifaces, maps, wideKeys, modest, calm, conditions, laid).
  DERIVED. THE GIVEN ROWS OF THIS SEAT. 3 by the template 'for every input the law returns true; each argument reads behind the call as it read before'; 0 by the template 'total and deterministic' (their statements: YtkalanjgjeijbaaTotals.lean).
  GIVEN WITH THE SEED: the statements are not yours to turn. If you find one false, say at which input.
  Laid BY PROGRAM, IN A SANDBOX (cutbox-rows.mjs): the forced cells as the released guide's own fill.sh prints them over the translation c76364870883bb16… (all of the seat's roots in one cut). By AI agents, Wed Nov 11 2026. No macro, syntax, notation, axiom, sorry.
-/
import Derived.Test.YtkalanjgjeijbaaChecked
import GoSem.Claim
import GoSem.ClaimJoined
import GoSem.ClaimMapViews
import Derived.JoinedTies
import Derived.KernelRfl
namespace Go.Proofs.Ytkalanjgjeijbaa
/- THE CELL 'sum', in the pinned program and in every row, IS THE sha256 OF THE DUMP (.gsa) THAT YtkalanjgjeijbaaProg.lean LOADS. Nothing in Lean hashes anything: it is a label: what it is worth is what the hold of that sum in a sandbox is worth. -/
noncomputable def Try.pinned : Pinned := { name := "ytkalanjgjeijbaa", sum := "c76364870883bb1663684a44e6ab0afec7bf5bce5ecc8f510b7360dc0d098256", checked := Try.checked }
namespace Rows
def none {H : Type} : Left H := { results := [], args := [] }

/-- 'laws.FnStoreDiff': WHATEVER THE INPUT: true; the input reads as it did. -/
def fnStoreDiffSpec : ChangeSpec := { name := "fnStoreDiff", fn := fun _ => fun
  | [d] => { results := [.lit (.bool true)], args := [d] }
  | _ => none }
def fnStoreDiffRow : OpenClaim := { program := "ytkalanjgjeijbaa", sum := "c76364870883bb1663684a44e6ab0afec7bf5bce5ecc8f510b7360dc0d098256", func := "loop.example/varve/laws.FnStoreDiff", spec := "fnStoreDiff", unfollowed := true, recurses := true, apart := false }
def FnStoreDiffSaid : Prop := fnStoreDiffRow.holds Try.pinned (OpenSpec.ofChange fnStoreDiffSpec)

/-- ITS FALSE NEIGHBOUR: 'it returns false'. Refute it at one input. -/
def fnStoreDiffWrong : ChangeSpec := { name := "fnStoreDiff", fn := fun _ => fun
  | [d] => { results := [.lit (.bool false)], args := [d] }
  | _ => none }
def FnStoreDiffWrongFalsely : Prop := fnStoreDiffRow.holds Try.pinned (OpenSpec.ofChange fnStoreDiffWrong)

/-- 'laws.FnTrace': WHATEVER THE INPUT: true; the input reads as it did. -/
def fnTraceSpec : ChangeSpec := { name := "fnTrace", fn := fun _ => fun
  | [d] => { results := [.lit (.bool true)], args := [d] }
  | _ => none }
def fnTraceRow : OpenClaim := { program := "ytkalanjgjeijbaa", sum := "c76364870883bb1663684a44e6ab0afec7bf5bce5ecc8f510b7360dc0d098256", func := "loop.example/varve/laws.FnTrace", spec := "fnTrace", unfollowed := true, recurses := true, apart := false }
def FnTraceSaid : Prop := fnTraceRow.holds Try.pinned (OpenSpec.ofChange fnTraceSpec)

/-- ITS FALSE NEIGHBOUR: 'it returns false'. Refute it at one input. -/
def fnTraceWrong : ChangeSpec := { name := "fnTrace", fn := fun _ => fun
  | [d] => { results := [.lit (.bool false)], args := [d] }
  | _ => none }
def FnTraceWrongFalsely : Prop := fnTraceRow.holds Try.pinned (OpenSpec.ofChange fnTraceWrong)

/-- 'laws.FnTraceAt': WHATEVER THE INPUT: true; the input reads as it did. -/
def fnTraceAtSpec : ChangeSpec := { name := "fnTraceAt", fn := fun _ => fun
  | [d] => { results := [.lit (.bool true)], args := [d] }
  | _ => none }
def fnTraceAtRow : OpenClaim := { program := "ytkalanjgjeijbaa", sum := "c76364870883bb1663684a44e6ab0afec7bf5bce5ecc8f510b7360dc0d098256", func := "loop.example/varve/laws.FnTraceAt", spec := "fnTraceAt", unfollowed := true, recurses := true, apart := false }
def FnTraceAtSaid : Prop := fnTraceAtRow.holds Try.pinned (OpenSpec.ofChange fnTraceAtSpec)

/-- ITS FALSE NEIGHBOUR: 'it returns false'. Refute it at one input. -/
def fnTraceAtWrong : ChangeSpec := { name := "fnTraceAt", fn := fun _ => fun
  | [d] => { results := [.lit (.bool false)], args := [d] }
  | _ => none }
def FnTraceAtWrongFalsely : Prop := fnTraceAtRow.holds Try.pinned (OpenSpec.ofChange fnTraceAtWrong)

/- THE SECOND FORM. 'bulk': how many values and letters a reading holds, each counted each time it is reached (what is shared counts as often as it is met; a slice's spare places count too). A statement '..UptoSaid' is the law's where the arguments, and the package variables that the reading takes, are together of bulk at most 1048576: NARROWER than '..Said'. Prove '..Said' where nothing that the law and all that it calls make is longer than what came in: it says more and counts as full. Else prove '..UptoSaid'. A law counts once. -/
mutual
def uptoBulk {H : Type} : DataW H → Nat
  | .lit (.string bytes) => bytes.length + 1
  | .lit _ => 1
  | .nil => 1
  | .ptr d => uptoBulk d + 1
  | .slice elems spare => uptoBulkAll elems + uptoBulkAll spare + 1
  | .agg parts => uptoBulkAll parts + 1
  | .iface _ d => uptoBulk d + 1
  | .map entries => uptoBulkEntries entries + 1
  | .held _ => 1
def uptoBulkAll {H : Type} : List (DataW H) → Nat
  | [] => 0
  | d :: r => uptoBulk d + uptoBulkAll r
def uptoBulkEntries {H : Type} : List (Lit × DataW H) → Nat
  | [] => 0
  | x :: r => uptoBulkEntry x + uptoBulkEntries r
def uptoBulkEntry {H : Type} : Lit × DataW H → Nat
  | (.string bytes, d) => bytes.length + uptoBulk d + 1
  | (_, d) => uptoBulk d + 1
 end
def uptoSmall : (H : Type) → List (DataW H) → Bool := fun _ ds => decide (uptoBulkAll ds ≤ 1048576)
def OpenSpec.upto (s : _root_.Go.ChangeSpec) : _root_.Go.OpenSpec := { _root_.Go.OpenSpec.ofChange s with cond := some uptoSmall }

/-- 'laws.FnStoreDiff', WHERE WHAT IT READS IS OF BULK AT MOST 1048576: true; the input reads as it did. -/
def fnStoreDiffUptoRow : OpenClaim := { program := "ytkalanjgjeijbaa", sum := "c76364870883bb1663684a44e6ab0afec7bf5bce5ecc8f510b7360dc0d098256", func := "loop.example/varve/laws.FnStoreDiff", spec := "fnStoreDiff", unfollowed := true, recurses := true, apart := false, narrowed := true }
def FnStoreDiffUptoSaid : Prop := fnStoreDiffUptoRow.holds Try.pinned (OpenSpec.upto fnStoreDiffSpec)

/-- 'laws.FnTrace', WHERE WHAT IT READS IS OF BULK AT MOST 1048576: true; the input reads as it did. -/
def fnTraceUptoRow : OpenClaim := { program := "ytkalanjgjeijbaa", sum := "c76364870883bb1663684a44e6ab0afec7bf5bce5ecc8f510b7360dc0d098256", func := "loop.example/varve/laws.FnTrace", spec := "fnTrace", unfollowed := true, recurses := true, apart := false, narrowed := true }
def FnTraceUptoSaid : Prop := fnTraceUptoRow.holds Try.pinned (OpenSpec.upto fnTraceSpec)

/-- 'laws.FnTraceAt', WHERE WHAT IT READS IS OF BULK AT MOST 1048576: true; the input reads as it did. -/
def fnTraceAtUptoRow : OpenClaim := { program := "ytkalanjgjeijbaa", sum := "c76364870883bb1663684a44e6ab0afec7bf5bce5ecc8f510b7360dc0d098256", func := "loop.example/varve/laws.FnTraceAt", spec := "fnTraceAt", unfollowed := true, recurses := true, apart := false, narrowed := true }
def FnTraceAtUptoSaid : Prop := fnTraceAtUptoRow.holds Try.pinned (OpenSpec.upto fnTraceAtSpec)

end Rows
end Go.Proofs.Ytkalanjgjeijbaa
