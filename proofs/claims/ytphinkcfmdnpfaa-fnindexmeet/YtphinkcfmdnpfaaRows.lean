/-
  No cell of these rows narrows 'for every input' (looked for: loops, veiled, ifaces, maps, wideKeys, modest, calm, conditions, laid).
  DERIVED. THE GIVEN ROWS OF THIS SEAT. 11 by the template 'for every input the law returns true; each argument reads behind the call as it read before'; 0 by the template 'total and deterministic' (their statements: YtphinkcfmdnpfaaTotals.lean).
  GIVEN WITH THE SEED: the statements are not yours to turn. If you find one false, say at which input.
  Laid BY PROGRAM, IN A SANDBOX (cutbox-rows.mjs): the forced cells as the released guide's own fill.sh prints them over the translation 59771c089c299f25… (all of the seat's roots in one cut). By AI agents, Wed Nov 11 2026. No macro, syntax, notation, axiom, sorry.
-/
import Derived.Test.YtphinkcfmdnpfaaChecked
import GoSem.Claim
import GoSem.ClaimJoined
import GoSem.ClaimMapViews
import Derived.JoinedTies
import Derived.KernelRfl
namespace Go.Proofs.Ytphinkcfmdnpfaa
/- THE CELL 'sum', in the pinned program and in every row, IS THE sha256 OF THE DUMP (.gsa) THAT YtphinkcfmdnpfaaProg.lean LOADS. Nothing in Lean hashes anything: it is a label: what it is worth is what the hold of that sum in a sandbox is worth. -/
noncomputable def Try.pinned : Pinned := { name := "ytphinkcfmdnpfaa", sum := "59771c089c299f255bf6e17cfc2d09079174e07258427f00cf3a7da9d8d2f840", checked := Try.checked }
namespace Rows
def none {H : Type} : Left H := { results := [], args := [] }

/-- 'laws.FnCount': WHATEVER THE INPUT: true; the input reads as it did. -/
def fnCountSpec : ChangeSpec := { name := "fnCount", fn := fun _ => fun
  | [d] => { results := [.lit (.bool true)], args := [d] }
  | _ => none }
def fnCountRow : OpenClaim := { program := "ytphinkcfmdnpfaa", sum := "59771c089c299f255bf6e17cfc2d09079174e07258427f00cf3a7da9d8d2f840", func := "loop.example/varve/laws.FnCount", spec := "fnCount", unfollowed := true, recurses := true, apart := false }
def FnCountSaid : Prop := fnCountRow.holds Try.pinned (OpenSpec.ofChange fnCountSpec)

/-- ITS FALSE NEIGHBOUR: 'it returns false'. Refute it at one input. -/
def fnCountWrong : ChangeSpec := { name := "fnCount", fn := fun _ => fun
  | [d] => { results := [.lit (.bool false)], args := [d] }
  | _ => none }
def FnCountWrongFalsely : Prop := fnCountRow.holds Try.pinned (OpenSpec.ofChange fnCountWrong)

/-- 'laws.FnBad': WHATEVER THE INPUT: true; the input reads as it did. -/
def fnBadSpec : ChangeSpec := { name := "fnBad", fn := fun _ => fun
  | [d] => { results := [.lit (.bool true)], args := [d] }
  | _ => none }
def fnBadRow : OpenClaim := { program := "ytphinkcfmdnpfaa", sum := "59771c089c299f255bf6e17cfc2d09079174e07258427f00cf3a7da9d8d2f840", func := "loop.example/varve/laws.FnBad", spec := "fnBad", unfollowed := true, recurses := true, apart := false }
def FnBadSaid : Prop := fnBadRow.holds Try.pinned (OpenSpec.ofChange fnBadSpec)

/-- ITS FALSE NEIGHBOUR: 'it returns false'. Refute it at one input. -/
def fnBadWrong : ChangeSpec := { name := "fnBad", fn := fun _ => fun
  | [d] => { results := [.lit (.bool false)], args := [d] }
  | _ => none }
def FnBadWrongFalsely : Prop := fnBadRow.holds Try.pinned (OpenSpec.ofChange fnBadWrong)

/-- 'laws.FnSlice': WHATEVER THE INPUT: true; the input reads as it did. -/
def fnSliceSpec : ChangeSpec := { name := "fnSlice", fn := fun _ => fun
  | [d1, d2] => { results := [.lit (.bool true)], args := [d1, d2] }
  | _ => none }
def fnSliceRow : OpenClaim := { program := "ytphinkcfmdnpfaa", sum := "59771c089c299f255bf6e17cfc2d09079174e07258427f00cf3a7da9d8d2f840", func := "loop.example/varve/laws.FnSlice", spec := "fnSlice", unfollowed := true, recurses := true, apart := false }
def FnSliceSaid : Prop := fnSliceRow.holds Try.pinned (OpenSpec.ofChange fnSliceSpec)

/-- ITS FALSE NEIGHBOUR: 'it returns false'. Refute it at one input. -/
def fnSliceWrong : ChangeSpec := { name := "fnSlice", fn := fun _ => fun
  | [d1, d2] => { results := [.lit (.bool false)], args := [d1, d2] }
  | _ => none }
def FnSliceWrongFalsely : Prop := fnSliceRow.holds Try.pinned (OpenSpec.ofChange fnSliceWrong)

/-- 'laws.FnExactIndexOf': WHATEVER THE INPUT: true; the input reads as it did. -/
def fnExactIndexOfSpec : ChangeSpec := { name := "fnExactIndexOf", fn := fun _ => fun
  | [d] => { results := [.lit (.bool true)], args := [d] }
  | _ => none }
def fnExactIndexOfRow : OpenClaim := { program := "ytphinkcfmdnpfaa", sum := "59771c089c299f255bf6e17cfc2d09079174e07258427f00cf3a7da9d8d2f840", func := "loop.example/varve/laws.FnExactIndexOf", spec := "fnExactIndexOf", unfollowed := true, recurses := true, apart := false }
def FnExactIndexOfSaid : Prop := fnExactIndexOfRow.holds Try.pinned (OpenSpec.ofChange fnExactIndexOfSpec)

/-- ITS FALSE NEIGHBOUR: 'it returns false'. Refute it at one input. -/
def fnExactIndexOfWrong : ChangeSpec := { name := "fnExactIndexOf", fn := fun _ => fun
  | [d] => { results := [.lit (.bool false)], args := [d] }
  | _ => none }
def FnExactIndexOfWrongFalsely : Prop := fnExactIndexOfRow.holds Try.pinned (OpenSpec.ofChange fnExactIndexOfWrong)

/-- 'laws.FnExactIndexOk': WHATEVER THE INPUT: true; the input reads as it did. -/
def fnExactIndexOkSpec : ChangeSpec := { name := "fnExactIndexOk", fn := fun _ => fun
  | [d] => { results := [.lit (.bool true)], args := [d] }
  | _ => none }
def fnExactIndexOkRow : OpenClaim := { program := "ytphinkcfmdnpfaa", sum := "59771c089c299f255bf6e17cfc2d09079174e07258427f00cf3a7da9d8d2f840", func := "loop.example/varve/laws.FnExactIndexOk", spec := "fnExactIndexOk", unfollowed := true, recurses := true, apart := false }
def FnExactIndexOkSaid : Prop := fnExactIndexOkRow.holds Try.pinned (OpenSpec.ofChange fnExactIndexOkSpec)

/-- ITS FALSE NEIGHBOUR: 'it returns false'. Refute it at one input. -/
def fnExactIndexOkWrong : ChangeSpec := { name := "fnExactIndexOk", fn := fun _ => fun
  | [d] => { results := [.lit (.bool false)], args := [d] }
  | _ => none }
def FnExactIndexOkWrongFalsely : Prop := fnExactIndexOkRow.holds Try.pinned (OpenSpec.ofChange fnExactIndexOkWrong)

/-- 'laws.FnExactIndexMeet': WHATEVER THE INPUT: true; the input reads as it did. -/
def fnExactIndexMeetSpec : ChangeSpec := { name := "fnExactIndexMeet", fn := fun _ => fun
  | [d1, d2] => { results := [.lit (.bool true)], args := [d1, d2] }
  | _ => none }
def fnExactIndexMeetRow : OpenClaim := { program := "ytphinkcfmdnpfaa", sum := "59771c089c299f255bf6e17cfc2d09079174e07258427f00cf3a7da9d8d2f840", func := "loop.example/varve/laws.FnExactIndexMeet", spec := "fnExactIndexMeet", unfollowed := true, recurses := true, apart := false }
def FnExactIndexMeetSaid : Prop := fnExactIndexMeetRow.holds Try.pinned (OpenSpec.ofChange fnExactIndexMeetSpec)

/-- ITS FALSE NEIGHBOUR: 'it returns false'. Refute it at one input. -/
def fnExactIndexMeetWrong : ChangeSpec := { name := "fnExactIndexMeet", fn := fun _ => fun
  | [d1, d2] => { results := [.lit (.bool false)], args := [d1, d2] }
  | _ => none }
def FnExactIndexMeetWrongFalsely : Prop := fnExactIndexMeetRow.holds Try.pinned (OpenSpec.ofChange fnExactIndexMeetWrong)

/-- 'laws.FnExactIndexStab': WHATEVER THE INPUT: true; the input reads as it did. -/
def fnExactIndexStabSpec : ChangeSpec := { name := "fnExactIndexStab", fn := fun _ => fun
  | [d1, d2] => { results := [.lit (.bool true)], args := [d1, d2] }
  | _ => none }
def fnExactIndexStabRow : OpenClaim := { program := "ytphinkcfmdnpfaa", sum := "59771c089c299f255bf6e17cfc2d09079174e07258427f00cf3a7da9d8d2f840", func := "loop.example/varve/laws.FnExactIndexStab", spec := "fnExactIndexStab", unfollowed := true, recurses := true, apart := false }
def FnExactIndexStabSaid : Prop := fnExactIndexStabRow.holds Try.pinned (OpenSpec.ofChange fnExactIndexStabSpec)

/-- ITS FALSE NEIGHBOUR: 'it returns false'. Refute it at one input. -/
def fnExactIndexStabWrong : ChangeSpec := { name := "fnExactIndexStab", fn := fun _ => fun
  | [d1, d2] => { results := [.lit (.bool false)], args := [d1, d2] }
  | _ => none }
def FnExactIndexStabWrongFalsely : Prop := fnExactIndexStabRow.holds Try.pinned (OpenSpec.ofChange fnExactIndexStabWrong)

/-- 'laws.FnIndexOf': WHATEVER THE INPUT: true; the input reads as it did. -/
def fnIndexOfSpec : ChangeSpec := { name := "fnIndexOf", fn := fun _ => fun
  | [d] => { results := [.lit (.bool true)], args := [d] }
  | _ => none }
def fnIndexOfRow : OpenClaim := { program := "ytphinkcfmdnpfaa", sum := "59771c089c299f255bf6e17cfc2d09079174e07258427f00cf3a7da9d8d2f840", func := "loop.example/varve/laws.FnIndexOf", spec := "fnIndexOf", unfollowed := true, recurses := true, apart := false }
def FnIndexOfSaid : Prop := fnIndexOfRow.holds Try.pinned (OpenSpec.ofChange fnIndexOfSpec)

/-- ITS FALSE NEIGHBOUR: 'it returns false'. Refute it at one input. -/
def fnIndexOfWrong : ChangeSpec := { name := "fnIndexOf", fn := fun _ => fun
  | [d] => { results := [.lit (.bool false)], args := [d] }
  | _ => none }
def FnIndexOfWrongFalsely : Prop := fnIndexOfRow.holds Try.pinned (OpenSpec.ofChange fnIndexOfWrong)

/-- 'laws.FnIndexMeet': WHATEVER THE INPUT: true; the input reads as it did. -/
def fnIndexMeetSpec : ChangeSpec := { name := "fnIndexMeet", fn := fun _ => fun
  | [d] => { results := [.lit (.bool true)], args := [d] }
  | _ => none }
def fnIndexMeetRow : OpenClaim := { program := "ytphinkcfmdnpfaa", sum := "59771c089c299f255bf6e17cfc2d09079174e07258427f00cf3a7da9d8d2f840", func := "loop.example/varve/laws.FnIndexMeet", spec := "fnIndexMeet", unfollowed := true, recurses := true, apart := false }
def FnIndexMeetSaid : Prop := fnIndexMeetRow.holds Try.pinned (OpenSpec.ofChange fnIndexMeetSpec)

/-- ITS FALSE NEIGHBOUR: 'it returns false'. Refute it at one input. -/
def fnIndexMeetWrong : ChangeSpec := { name := "fnIndexMeet", fn := fun _ => fun
  | [d] => { results := [.lit (.bool false)], args := [d] }
  | _ => none }
def FnIndexMeetWrongFalsely : Prop := fnIndexMeetRow.holds Try.pinned (OpenSpec.ofChange fnIndexMeetWrong)

/-- 'laws.FnIndexStab': WHATEVER THE INPUT: true; the input reads as it did. -/
def fnIndexStabSpec : ChangeSpec := { name := "fnIndexStab", fn := fun _ => fun
  | [d] => { results := [.lit (.bool true)], args := [d] }
  | _ => none }
def fnIndexStabRow : OpenClaim := { program := "ytphinkcfmdnpfaa", sum := "59771c089c299f255bf6e17cfc2d09079174e07258427f00cf3a7da9d8d2f840", func := "loop.example/varve/laws.FnIndexStab", spec := "fnIndexStab", unfollowed := true, recurses := true, apart := false }
def FnIndexStabSaid : Prop := fnIndexStabRow.holds Try.pinned (OpenSpec.ofChange fnIndexStabSpec)

/-- ITS FALSE NEIGHBOUR: 'it returns false'. Refute it at one input. -/
def fnIndexStabWrong : ChangeSpec := { name := "fnIndexStab", fn := fun _ => fun
  | [d] => { results := [.lit (.bool false)], args := [d] }
  | _ => none }
def FnIndexStabWrongFalsely : Prop := fnIndexStabRow.holds Try.pinned (OpenSpec.ofChange fnIndexStabWrong)

/-- 'laws.FnIndexLooks': WHATEVER THE INPUT: true; the input reads as it did. -/
def fnIndexLooksSpec : ChangeSpec := { name := "fnIndexLooks", fn := fun _ => fun
  | [d] => { results := [.lit (.bool true)], args := [d] }
  | _ => none }
def fnIndexLooksRow : OpenClaim := { program := "ytphinkcfmdnpfaa", sum := "59771c089c299f255bf6e17cfc2d09079174e07258427f00cf3a7da9d8d2f840", func := "loop.example/varve/laws.FnIndexLooks", spec := "fnIndexLooks", unfollowed := true, recurses := true, apart := false }
def FnIndexLooksSaid : Prop := fnIndexLooksRow.holds Try.pinned (OpenSpec.ofChange fnIndexLooksSpec)

/-- ITS FALSE NEIGHBOUR: 'it returns false'. Refute it at one input. -/
def fnIndexLooksWrong : ChangeSpec := { name := "fnIndexLooks", fn := fun _ => fun
  | [d] => { results := [.lit (.bool false)], args := [d] }
  | _ => none }
def FnIndexLooksWrongFalsely : Prop := fnIndexLooksRow.holds Try.pinned (OpenSpec.ofChange fnIndexLooksWrong)

/- THE SECOND FORM. 'bulk': how many values and letters a reading holds, each counted each time it is reached (what is shared counts as often as it is met; a slice's spare places count too). A statement '..UptoSaid' is the law's where the arguments, and the package variables that the reading takes, are together of bulk at most 1048576: NARROWER than '..Said'. Prove '..Said' where nothing that the law and all that it calls make is longer than what came in: it says more and counts as full. Else prove '..UptoSaid'. A law counts once. -/
mutual
def uptoBulk {H : Type} : DataW H → Nat
  | .lit (.string bytes) => bytes.length + 1
  | .lit _ => 1
  | .nil => 1
  | .ptr d => uptoBulk d + 1
  | .slice elems spare => uptoBulkAll elems + uptoBulkAll spare + 1
  | .agg parts => uptoBulkAll parts + 1
  | .iface _ d => uptoBulk d + 1
  | .map entries => uptoBulkEntries entries + 1
  | .held _ => 1
def uptoBulkAll {H : Type} : List (DataW H) → Nat
  | [] => 0
  | d :: r => uptoBulk d + uptoBulkAll r
def uptoBulkEntries {H : Type} : List (Lit × DataW H) → Nat
  | [] => 0
  | x :: r => uptoBulkEntry x + uptoBulkEntries r
def uptoBulkEntry {H : Type} : Lit × DataW H → Nat
  | (.string bytes, d) => bytes.length + uptoBulk d + 1
  | (_, d) => uptoBulk d + 1
 end
def uptoSmall : (H : Type) → List (DataW H) → Bool := fun _ ds => decide (uptoBulkAll ds ≤ 1048576)
def OpenSpec.upto (s : _root_.Go.ChangeSpec) : _root_.Go.OpenSpec := { _root_.Go.OpenSpec.ofChange s with cond := some uptoSmall }

/-- 'laws.FnCount', WHERE WHAT IT READS IS OF BULK AT MOST 1048576: true; the input reads as it did. -/
def fnCountUptoRow : OpenClaim := { program := "ytphinkcfmdnpfaa", sum := "59771c089c299f255bf6e17cfc2d09079174e07258427f00cf3a7da9d8d2f840", func := "loop.example/varve/laws.FnCount", spec := "fnCount", unfollowed := true, recurses := true, apart := false, narrowed := true }
def FnCountUptoSaid : Prop := fnCountUptoRow.holds Try.pinned (OpenSpec.upto fnCountSpec)

/-- 'laws.FnBad', WHERE WHAT IT READS IS OF BULK AT MOST 1048576: true; the input reads as it did. -/
def fnBadUptoRow : OpenClaim := { program := "ytphinkcfmdnpfaa", sum := "59771c089c299f255bf6e17cfc2d09079174e07258427f00cf3a7da9d8d2f840", func := "loop.example/varve/laws.FnBad", spec := "fnBad", unfollowed := true, recurses := true, apart := false, narrowed := true }
def FnBadUptoSaid : Prop := fnBadUptoRow.holds Try.pinned (OpenSpec.upto fnBadSpec)

/-- 'laws.FnSlice', WHERE WHAT IT READS IS OF BULK AT MOST 1048576: true; the input reads as it did. -/
def fnSliceUptoRow : OpenClaim := { program := "ytphinkcfmdnpfaa", sum := "59771c089c299f255bf6e17cfc2d09079174e07258427f00cf3a7da9d8d2f840", func := "loop.example/varve/laws.FnSlice", spec := "fnSlice", unfollowed := true, recurses := true, apart := false, narrowed := true }
def FnSliceUptoSaid : Prop := fnSliceUptoRow.holds Try.pinned (OpenSpec.upto fnSliceSpec)

/-- 'laws.FnExactIndexOf', WHERE WHAT IT READS IS OF BULK AT MOST 1048576: true; the input reads as it did. -/
def fnExactIndexOfUptoRow : OpenClaim := { program := "ytphinkcfmdnpfaa", sum := "59771c089c299f255bf6e17cfc2d09079174e07258427f00cf3a7da9d8d2f840", func := "loop.example/varve/laws.FnExactIndexOf", spec := "fnExactIndexOf", unfollowed := true, recurses := true, apart := false, narrowed := true }
def FnExactIndexOfUptoSaid : Prop := fnExactIndexOfUptoRow.holds Try.pinned (OpenSpec.upto fnExactIndexOfSpec)

/-- 'laws.FnExactIndexOk', WHERE WHAT IT READS IS OF BULK AT MOST 1048576: true; the input reads as it did. -/
def fnExactIndexOkUptoRow : OpenClaim := { program := "ytphinkcfmdnpfaa", sum := "59771c089c299f255bf6e17cfc2d09079174e07258427f00cf3a7da9d8d2f840", func := "loop.example/varve/laws.FnExactIndexOk", spec := "fnExactIndexOk", unfollowed := true, recurses := true, apart := false, narrowed := true }
def FnExactIndexOkUptoSaid : Prop := fnExactIndexOkUptoRow.holds Try.pinned (OpenSpec.upto fnExactIndexOkSpec)

/-- 'laws.FnExactIndexMeet', WHERE WHAT IT READS IS OF BULK AT MOST 1048576: true; the input reads as it did. -/
def fnExactIndexMeetUptoRow : OpenClaim := { program := "ytphinkcfmdnpfaa", sum := "59771c089c299f255bf6e17cfc2d09079174e07258427f00cf3a7da9d8d2f840", func := "loop.example/varve/laws.FnExactIndexMeet", spec := "fnExactIndexMeet", unfollowed := true, recurses := true, apart := false, narrowed := true }
def FnExactIndexMeetUptoSaid : Prop := fnExactIndexMeetUptoRow.holds Try.pinned (OpenSpec.upto fnExactIndexMeetSpec)

/-- 'laws.FnExactIndexStab', WHERE WHAT IT READS IS OF BULK AT MOST 1048576: true; the input reads as it did. -/
def fnExactIndexStabUptoRow : OpenClaim := { program := "ytphinkcfmdnpfaa", sum := "59771c089c299f255bf6e17cfc2d09079174e07258427f00cf3a7da9d8d2f840", func := "loop.example/varve/laws.FnExactIndexStab", spec := "fnExactIndexStab", unfollowed := true, recurses := true, apart := false, narrowed := true }
def FnExactIndexStabUptoSaid : Prop := fnExactIndexStabUptoRow.holds Try.pinned (OpenSpec.upto fnExactIndexStabSpec)

/-- 'laws.FnIndexOf', WHERE WHAT IT READS IS OF BULK AT MOST 1048576: true; the input reads as it did. -/
def fnIndexOfUptoRow : OpenClaim := { program := "ytphinkcfmdnpfaa", sum := "59771c089c299f255bf6e17cfc2d09079174e07258427f00cf3a7da9d8d2f840", func := "loop.example/varve/laws.FnIndexOf", spec := "fnIndexOf", unfollowed := true, recurses := true, apart := false, narrowed := true }
def FnIndexOfUptoSaid : Prop := fnIndexOfUptoRow.holds Try.pinned (OpenSpec.upto fnIndexOfSpec)

/-- 'laws.FnIndexMeet', WHERE WHAT IT READS IS OF BULK AT MOST 1048576: true; the input reads as it did. -/
def fnIndexMeetUptoRow : OpenClaim := { program := "ytphinkcfmdnpfaa", sum := "59771c089c299f255bf6e17cfc2d09079174e07258427f00cf3a7da9d8d2f840", func := "loop.example/varve/laws.FnIndexMeet", spec := "fnIndexMeet", unfollowed := true, recurses := true, apart := false, narrowed := true }
def FnIndexMeetUptoSaid : Prop := fnIndexMeetUptoRow.holds Try.pinned (OpenSpec.upto fnIndexMeetSpec)

/-- 'laws.FnIndexStab', WHERE WHAT IT READS IS OF BULK AT MOST 1048576: true; the input reads as it did. -/
def fnIndexStabUptoRow : OpenClaim := { program := "ytphinkcfmdnpfaa", sum := "59771c089c299f255bf6e17cfc2d09079174e07258427f00cf3a7da9d8d2f840", func := "loop.example/varve/laws.FnIndexStab", spec := "fnIndexStab", unfollowed := true, recurses := true, apart := false, narrowed := true }
def FnIndexStabUptoSaid : Prop := fnIndexStabUptoRow.holds Try.pinned (OpenSpec.upto fnIndexStabSpec)

/-- 'laws.FnIndexLooks', WHERE WHAT IT READS IS OF BULK AT MOST 1048576: true; the input reads as it did. -/
def fnIndexLooksUptoRow : OpenClaim := { program := "ytphinkcfmdnpfaa", sum := "59771c089c299f255bf6e17cfc2d09079174e07258427f00cf3a7da9d8d2f840", func := "loop.example/varve/laws.FnIndexLooks", spec := "fnIndexLooks", unfollowed := true, recurses := true, apart := false, narrowed := true }
def FnIndexLooksUptoSaid : Prop := fnIndexLooksUptoRow.holds Try.pinned (OpenSpec.upto fnIndexLooksSpec)

end Rows
end Go.Proofs.Ytphinkcfmdnpfaa
