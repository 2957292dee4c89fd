/-
  No cell of these rows narrows 'for every input' (looked for: loops, veiled, ifaces, maps, wideKeys, modest, calm, conditions, laid).
  DERIVED. THE GIVEN ROWS OF THIS SEAT. 9 by the template 'for every input the law returns true; each argument reads behind the call as it read before'; 0 by the template 'total and deterministic' (their statements: YtmfpojminbkojaaTotals.lean).
  GIVEN WITH THE SEED: the statements are not yours to turn. If you find one false, say at which input.
  Laid BY PROGRAM, IN A SANDBOX (cutbox-rows.mjs): the forced cells as the released guide's own fill.sh prints them over the translation 577b0adca9b878e5… (all of the seat's roots in one cut). By AI agents, Wed Nov 11 2026. No macro, syntax, notation, axiom, sorry.
-/
import Derived.Test.YtmfpojminbkojaaChecked
import GoSem.Claim
import GoSem.ClaimJoined
import GoSem.ClaimMapViews
import Derived.JoinedTies
import Derived.KernelRfl
namespace Go.Proofs.Ytmfpojminbkojaa
/- THE CELL 'sum', in the pinned program and in every row, IS THE sha256 OF THE DUMP (.gsa) THAT YtmfpojminbkojaaProg.lean LOADS. Nothing in Lean hashes anything: it is a label: what it is worth is what the hold of that sum in a sandbox is worth. -/
noncomputable def Try.pinned : Pinned := { name := "ytmfpojminbkojaa", sum := "577b0adca9b878e5139c196bb2611c05ff987b2797e7ac4ef002233f89988578", checked := Try.checked }
namespace Rows
def none {H : Type} : Left H := { results := [], args := [] }

/-- 'laws.FnExactStandOf': WHATEVER THE INPUT: true; the input reads as it did. -/
def fnExactStandOfSpec : ChangeSpec := { name := "fnExactStandOf", fn := fun _ => fun
  | [d1, d2] => { results := [.lit (.bool true)], args := [d1, d2] }
  | _ => none }
def fnExactStandOfRow : OpenClaim := { program := "ytmfpojminbkojaa", sum := "577b0adca9b878e5139c196bb2611c05ff987b2797e7ac4ef002233f89988578", func := "loop.example/varve/laws.FnExactStandOf", spec := "fnExactStandOf", recurses := true, apart := false }
def FnExactStandOfSaid : Prop := fnExactStandOfRow.holds Try.pinned (OpenSpec.ofChange fnExactStandOfSpec)

/-- ITS FALSE NEIGHBOUR: 'it returns false'. Refute it at one input. -/
def fnExactStandOfWrong : ChangeSpec := { name := "fnExactStandOf", fn := fun _ => fun
  | [d1, d2] => { results := [.lit (.bool false)], args := [d1, d2] }
  | _ => none }
def FnExactStandOfWrongFalsely : Prop := fnExactStandOfRow.holds Try.pinned (OpenSpec.ofChange fnExactStandOfWrong)

/-- 'laws.FnExactStandWays': WHATEVER THE INPUT: true; the input reads as it did. -/
def fnExactStandWaysSpec : ChangeSpec := { name := "fnExactStandWays", fn := fun _ => fun
  | [d1, d2] => { results := [.lit (.bool true)], args := [d1, d2] }
  | _ => none }
def fnExactStandWaysRow : OpenClaim := { program := "ytmfpojminbkojaa", sum := "577b0adca9b878e5139c196bb2611c05ff987b2797e7ac4ef002233f89988578", func := "loop.example/varve/laws.FnExactStandWays", spec := "fnExactStandWays", unfollowed := true, recurses := true, apart := false }
def FnExactStandWaysSaid : Prop := fnExactStandWaysRow.holds Try.pinned (OpenSpec.ofChange fnExactStandWaysSpec)

/-- ITS FALSE NEIGHBOUR: 'it returns false'. Refute it at one input. -/
def fnExactStandWaysWrong : ChangeSpec := { name := "fnExactStandWays", fn := fun _ => fun
  | [d1, d2] => { results := [.lit (.bool false)], args := [d1, d2] }
  | _ => none }
def FnExactStandWaysWrongFalsely : Prop := fnExactStandWaysRow.holds Try.pinned (OpenSpec.ofChange fnExactStandWaysWrong)

/-- 'laws.FnExactStandAll': WHATEVER THE INPUT: true; the input reads as it did. -/
def fnExactStandAllSpec : ChangeSpec := { name := "fnExactStandAll", fn := fun _ => fun
  | [d1, d2] => { results := [.lit (.bool true)], args := [d1, d2] }
  | _ => none }
def fnExactStandAllRow : OpenClaim := { program := "ytmfpojminbkojaa", sum := "577b0adca9b878e5139c196bb2611c05ff987b2797e7ac4ef002233f89988578", func := "loop.example/varve/laws.FnExactStandAll", spec := "fnExactStandAll", recurses := true, apart := false }
def FnExactStandAllSaid : Prop := fnExactStandAllRow.holds Try.pinned (OpenSpec.ofChange fnExactStandAllSpec)

/-- ITS FALSE NEIGHBOUR: 'it returns false'. Refute it at one input. -/
def fnExactStandAllWrong : ChangeSpec := { name := "fnExactStandAll", fn := fun _ => fun
  | [d1, d2] => { results := [.lit (.bool false)], args := [d1, d2] }
  | _ => none }
def FnExactStandAllWrongFalsely : Prop := fnExactStandAllRow.holds Try.pinned (OpenSpec.ofChange fnExactStandAllWrong)

/-- 'laws.FnExactTraceAt': WHATEVER THE INPUT: true; the input reads as it did. -/
def fnExactTraceAtSpec : ChangeSpec := { name := "fnExactTraceAt", fn := fun _ => fun
  | [d1, d2] => { results := [.lit (.bool true)], args := [d1, d2] }
  | _ => none }
def fnExactTraceAtRow : OpenClaim := { program := "ytmfpojminbkojaa", sum := "577b0adca9b878e5139c196bb2611c05ff987b2797e7ac4ef002233f89988578", func := "loop.example/varve/laws.FnExactTraceAt", spec := "fnExactTraceAt", unfollowed := true, recurses := true, apart := false }
def FnExactTraceAtSaid : Prop := fnExactTraceAtRow.holds Try.pinned (OpenSpec.ofChange fnExactTraceAtSpec)

/-- ITS FALSE NEIGHBOUR: 'it returns false'. Refute it at one input. -/
def fnExactTraceAtWrong : ChangeSpec := { name := "fnExactTraceAt", fn := fun _ => fun
  | [d1, d2] => { results := [.lit (.bool false)], args := [d1, d2] }
  | _ => none }
def FnExactTraceAtWrongFalsely : Prop := fnExactTraceAtRow.holds Try.pinned (OpenSpec.ofChange fnExactTraceAtWrong)

/-- 'laws.FnStandOf': WHATEVER THE INPUT: true; the input reads as it did. -/
def fnStandOfSpec : ChangeSpec := { name := "fnStandOf", fn := fun _ => fun
  | [d] => { results := [.lit (.bool true)], args := [d] }
  | _ => none }
def fnStandOfRow : OpenClaim := { program := "ytmfpojminbkojaa", sum := "577b0adca9b878e5139c196bb2611c05ff987b2797e7ac4ef002233f89988578", func := "loop.example/varve/laws.FnStandOf", spec := "fnStandOf", recurses := true, apart := false }
def FnStandOfSaid : Prop := fnStandOfRow.holds Try.pinned (OpenSpec.ofChange fnStandOfSpec)

/-- ITS FALSE NEIGHBOUR: 'it returns false'. Refute it at one input. -/
def fnStandOfWrong : ChangeSpec := { name := "fnStandOf", fn := fun _ => fun
  | [d] => { results := [.lit (.bool false)], args := [d] }
  | _ => none }
def FnStandOfWrongFalsely : Prop := fnStandOfRow.holds Try.pinned (OpenSpec.ofChange fnStandOfWrong)

/-- 'laws.FnStandWays': WHATEVER THE INPUT: true; the input reads as it did. -/
def fnStandWaysSpec : ChangeSpec := { name := "fnStandWays", fn := fun _ => fun
  | [d1, d2] => { results := [.lit (.bool true)], args := [d1, d2] }
  | _ => none }
def fnStandWaysRow : OpenClaim := { program := "ytmfpojminbkojaa", sum := "577b0adca9b878e5139c196bb2611c05ff987b2797e7ac4ef002233f89988578", func := "loop.example/varve/laws.FnStandWays", spec := "fnStandWays", unfollowed := true, recurses := true, apart := false }
def FnStandWaysSaid : Prop := fnStandWaysRow.holds Try.pinned (OpenSpec.ofChange fnStandWaysSpec)

/-- ITS FALSE NEIGHBOUR: 'it returns false'. Refute it at one input. -/
def fnStandWaysWrong : ChangeSpec := { name := "fnStandWays", fn := fun _ => fun
  | [d1, d2] => { results := [.lit (.bool false)], args := [d1, d2] }
  | _ => none }
def FnStandWaysWrongFalsely : Prop := fnStandWaysRow.holds Try.pinned (OpenSpec.ofChange fnStandWaysWrong)

/-- 'laws.FnStandTable': WHATEVER THE INPUT: true; the input reads as it did. -/
def fnStandTableSpec : ChangeSpec := { name := "fnStandTable", fn := fun _ => fun
  | [d] => { results := [.lit (.bool true)], args := [d] }
  | _ => none }
def fnStandTableRow : OpenClaim := { program := "ytmfpojminbkojaa", sum := "577b0adca9b878e5139c196bb2611c05ff987b2797e7ac4ef002233f89988578", func := "loop.example/varve/laws.FnStandTable", spec := "fnStandTable", unfollowed := true, recurses := true, apart := false }
def FnStandTableSaid : Prop := fnStandTableRow.holds Try.pinned (OpenSpec.ofChange fnStandTableSpec)

/-- ITS FALSE NEIGHBOUR: 'it returns false'. Refute it at one input. -/
def fnStandTableWrong : ChangeSpec := { name := "fnStandTable", fn := fun _ => fun
  | [d] => { results := [.lit (.bool false)], args := [d] }
  | _ => none }
def FnStandTableWrongFalsely : Prop := fnStandTableRow.holds Try.pinned (OpenSpec.ofChange fnStandTableWrong)

/-- 'laws.FnStandAll': WHATEVER THE INPUT: true; the input reads as it did. -/
def fnStandAllSpec : ChangeSpec := { name := "fnStandAll", fn := fun _ => fun
  | [d] => { results := [.lit (.bool true)], args := [d] }
  | _ => none }
def fnStandAllRow : OpenClaim := { program := "ytmfpojminbkojaa", sum := "577b0adca9b878e5139c196bb2611c05ff987b2797e7ac4ef002233f89988578", func := "loop.example/varve/laws.FnStandAll", spec := "fnStandAll", recurses := true, apart := false }
def FnStandAllSaid : Prop := fnStandAllRow.holds Try.pinned (OpenSpec.ofChange fnStandAllSpec)

/-- ITS FALSE NEIGHBOUR: 'it returns false'. Refute it at one input. -/
def fnStandAllWrong : ChangeSpec := { name := "fnStandAll", fn := fun _ => fun
  | [d] => { results := [.lit (.bool false)], args := [d] }
  | _ => none }
def FnStandAllWrongFalsely : Prop := fnStandAllRow.holds Try.pinned (OpenSpec.ofChange fnStandAllWrong)

/-- 'laws.FnCrc': WHATEVER THE INPUT: true; the input reads as it did. -/
def fnCrcSpec : ChangeSpec := { name := "fnCrc", fn := fun _ => fun
  | [d1, d2] => { results := [.lit (.bool true)], args := [d1, d2] }
  | _ => none }
def fnCrcRow : OpenClaim := { program := "ytmfpojminbkojaa", sum := "577b0adca9b878e5139c196bb2611c05ff987b2797e7ac4ef002233f89988578", func := "loop.example/varve/laws.FnCrc", spec := "fnCrc", recurses := true, apart := false }
def FnCrcSaid : Prop := fnCrcRow.holds Try.pinned (OpenSpec.ofChange fnCrcSpec)

/-- ITS FALSE NEIGHBOUR: 'it returns false'. Refute it at one input. -/
def fnCrcWrong : ChangeSpec := { name := "fnCrc", fn := fun _ => fun
  | [d1, d2] => { results := [.lit (.bool false)], args := [d1, d2] }
  | _ => none }
def FnCrcWrongFalsely : Prop := fnCrcRow.holds Try.pinned (OpenSpec.ofChange fnCrcWrong)

/- THE SECOND FORM. 'bulk': how many values and letters a reading holds, each counted each time it is reached (what is shared counts as often as it is met; a slice's spare places count too). A statement '..UptoSaid' is the law's where the arguments, and the package variables that the reading takes, are together of bulk at most 1048576: NARROWER than '..Said'. Prove '..Said' where nothing that the law and all that it calls make is longer than what came in: it says more and counts as full. Else prove '..UptoSaid'. A law counts once. -/
mutual
def uptoBulk {H : Type} : DataW H → Nat
  | .lit (.string bytes) => bytes.length + 1
  | .lit _ => 1
  | .nil => 1
  | .ptr d => uptoBulk d + 1
  | .slice elems spare => uptoBulkAll elems + uptoBulkAll spare + 1
  | .agg parts => uptoBulkAll parts + 1
  | .iface _ d => uptoBulk d + 1
  | .map entries => uptoBulkEntries entries + 1
  | .held _ => 1
def uptoBulkAll {H : Type} : List (DataW H) → Nat
  | [] => 0
  | d :: r => uptoBulk d + uptoBulkAll r
def uptoBulkEntries {H : Type} : List (Lit × DataW H) → Nat
  | [] => 0
  | x :: r => uptoBulkEntry x + uptoBulkEntries r
def uptoBulkEntry {H : Type} : Lit × DataW H → Nat
  | (.string bytes, d) => bytes.length + uptoBulk d + 1
  | (_, d) => uptoBulk d + 1
 end
def uptoSmall : (H : Type) → List (DataW H) → Bool := fun _ ds => decide (uptoBulkAll ds ≤ 1048576)
def OpenSpec.upto (s : _root_.Go.ChangeSpec) : _root_.Go.OpenSpec := { _root_.Go.OpenSpec.ofChange s with cond := some uptoSmall }

/-- 'laws.FnExactStandOf', WHERE WHAT IT READS IS OF BULK AT MOST 1048576: true; the input reads as it did. -/
def fnExactStandOfUptoRow : OpenClaim := { program := "ytmfpojminbkojaa", sum := "577b0adca9b878e5139c196bb2611c05ff987b2797e7ac4ef002233f89988578", func := "loop.example/varve/laws.FnExactStandOf", spec := "fnExactStandOf", recurses := true, apart := false, narrowed := true }
def FnExactStandOfUptoSaid : Prop := fnExactStandOfUptoRow.holds Try.pinned (OpenSpec.upto fnExactStandOfSpec)

/-- 'laws.FnExactStandWays', WHERE WHAT IT READS IS OF BULK AT MOST 1048576: true; the input reads as it did. -/
def fnExactStandWaysUptoRow : OpenClaim := { program := "ytmfpojminbkojaa", sum := "577b0adca9b878e5139c196bb2611c05ff987b2797e7ac4ef002233f89988578", func := "loop.example/varve/laws.FnExactStandWays", spec := "fnExactStandWays", unfollowed := true, recurses := true, apart := false, narrowed := true }
def FnExactStandWaysUptoSaid : Prop := fnExactStandWaysUptoRow.holds Try.pinned (OpenSpec.upto fnExactStandWaysSpec)

/-- 'laws.FnExactStandAll', WHERE WHAT IT READS IS OF BULK AT MOST 1048576: true; the input reads as it did. -/
def fnExactStandAllUptoRow : OpenClaim := { program := "ytmfpojminbkojaa", sum := "577b0adca9b878e5139c196bb2611c05ff987b2797e7ac4ef002233f89988578", func := "loop.example/varve/laws.FnExactStandAll", spec := "fnExactStandAll", recurses := true, apart := false, narrowed := true }
def FnExactStandAllUptoSaid : Prop := fnExactStandAllUptoRow.holds Try.pinned (OpenSpec.upto fnExactStandAllSpec)

/-- 'laws.FnExactTraceAt', WHERE WHAT IT READS IS OF BULK AT MOST 1048576: true; the input reads as it did. -/
def fnExactTraceAtUptoRow : OpenClaim := { program := "ytmfpojminbkojaa", sum := "577b0adca9b878e5139c196bb2611c05ff987b2797e7ac4ef002233f89988578", func := "loop.example/varve/laws.FnExactTraceAt", spec := "fnExactTraceAt", unfollowed := true, recurses := true, apart := false, narrowed := true }
def FnExactTraceAtUptoSaid : Prop := fnExactTraceAtUptoRow.holds Try.pinned (OpenSpec.upto fnExactTraceAtSpec)

/-- 'laws.FnStandOf', WHERE WHAT IT READS IS OF BULK AT MOST 1048576: true; the input reads as it did. -/
def fnStandOfUptoRow : OpenClaim := { program := "ytmfpojminbkojaa", sum := "577b0adca9b878e5139c196bb2611c05ff987b2797e7ac4ef002233f89988578", func := "loop.example/varve/laws.FnStandOf", spec := "fnStandOf", recurses := true, apart := false, narrowed := true }
def FnStandOfUptoSaid : Prop := fnStandOfUptoRow.holds Try.pinned (OpenSpec.upto fnStandOfSpec)

/-- 'laws.FnStandWays', WHERE WHAT IT READS IS OF BULK AT MOST 1048576: true; the input reads as it did. -/
def fnStandWaysUptoRow : OpenClaim := { program := "ytmfpojminbkojaa", sum := "577b0adca9b878e5139c196bb2611c05ff987b2797e7ac4ef002233f89988578", func := "loop.example/varve/laws.FnStandWays", spec := "fnStandWays", unfollowed := true, recurses := true, apart := false, narrowed := true }
def FnStandWaysUptoSaid : Prop := fnStandWaysUptoRow.holds Try.pinned (OpenSpec.upto fnStandWaysSpec)

/-- 'laws.FnStandTable', WHERE WHAT IT READS IS OF BULK AT MOST 1048576: true; the input reads as it did. -/
def fnStandTableUptoRow : OpenClaim := { program := "ytmfpojminbkojaa", sum := "577b0adca9b878e5139c196bb2611c05ff987b2797e7ac4ef002233f89988578", func := "loop.example/varve/laws.FnStandTable", spec := "fnStandTable", unfollowed := true, recurses := true, apart := false, narrowed := true }
def FnStandTableUptoSaid : Prop := fnStandTableUptoRow.holds Try.pinned (OpenSpec.upto fnStandTableSpec)

/-- 'laws.FnStandAll', WHERE WHAT IT READS IS OF BULK AT MOST 1048576: true; the input reads as it did. -/
def fnStandAllUptoRow : OpenClaim := { program := "ytmfpojminbkojaa", sum := "577b0adca9b878e5139c196bb2611c05ff987b2797e7ac4ef002233f89988578", func := "loop.example/varve/laws.FnStandAll", spec := "fnStandAll", recurses := true, apart := false, narrowed := true }
def FnStandAllUptoSaid : Prop := fnStandAllUptoRow.holds Try.pinned (OpenSpec.upto fnStandAllSpec)

/-- 'laws.FnCrc', WHERE WHAT IT READS IS OF BULK AT MOST 1048576: true; the input reads as it did. -/
def fnCrcUptoRow : OpenClaim := { program := "ytmfpojminbkojaa", sum := "577b0adca9b878e5139c196bb2611c05ff987b2797e7ac4ef002233f89988578", func := "loop.example/varve/laws.FnCrc", spec := "fnCrc", recurses := true, apart := false, narrowed := true }
def FnCrcUptoSaid : Prop := fnCrcUptoRow.holds Try.pinned (OpenSpec.upto fnCrcSpec)

end Rows
end Go.Proofs.Ytmfpojminbkojaa
