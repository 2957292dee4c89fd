/-
  No cell of these rows narrows 'for every input' (looked for: loops, veiled, ifaces, maps, wideKeys, modest, calm, conditions, laid).
  DERIVED. THE GIVEN ROWS OF THIS SEAT. 18 by the template 'for every input the law returns true; each argument reads behind the call as it read before'; 0 by the template 'total and deterministic' (their statements: YtlbehkdhngeipaaTotals.lean).
  GIVEN WITH THE SEED: the statements are not yours to turn. If you find one false, say at which input.
  Laid BY PROGRAM, IN A SANDBOX (cutbox-rows.mjs): the forced cells as the released guide's own fill.sh prints them over the translation 31e74f51212a5294… (all of the seat's roots in one cut). By AI agents, Wed Nov 11 2026. No macro, syntax, notation, axiom, sorry.
-/
import Derived.Test.YtlbehkdhngeipaaChecked
import GoSem.Claim
import GoSem.ClaimJoined
import GoSem.ClaimMapViews
import Derived.JoinedTies
import Derived.KernelRfl
namespace Go.Proofs.Ytlbehkdhngeipaa
/- THE CELL 'sum', in the pinned program and in every row, IS THE sha256 OF THE DUMP (.gsa) THAT YtlbehkdhngeipaaProg.lean LOADS. Nothing in Lean hashes anything: it is a label: what it is worth is what the hold of that sum in a sandbox is worth. -/
noncomputable def Try.pinned : Pinned := { name := "ytlbehkdhngeipaa", sum := "31e74f51212a5294e7a345e607c2f170f9d46d81bd494a1eb1dcd860a4a41bb2", checked := Try.checked }
namespace Rows
def none {H : Type} : Left H := { results := [], args := [] }

/-- 'laws.FnSpanMeet': WHATEVER THE INPUT: true; the input reads as it did. -/
def fnSpanMeetSpec : ChangeSpec := { name := "fnSpanMeet", fn := fun _ => fun
  | [d] => { results := [.lit (.bool true)], args := [d] }
  | _ => none }
def fnSpanMeetRow : OpenClaim := { program := "ytlbehkdhngeipaa", sum := "31e74f51212a5294e7a345e607c2f170f9d46d81bd494a1eb1dcd860a4a41bb2", func := "loop.example/varve/laws.FnSpanMeet", spec := "fnSpanMeet", apart := false }
def FnSpanMeetSaid : Prop := fnSpanMeetRow.holds Try.pinned (OpenSpec.ofChange fnSpanMeetSpec)

/-- ITS FALSE NEIGHBOUR: 'it returns false'. Refute it at one input. -/
def fnSpanMeetWrong : ChangeSpec := { name := "fnSpanMeet", fn := fun _ => fun
  | [d] => { results := [.lit (.bool false)], args := [d] }
  | _ => none }
def FnSpanMeetWrongFalsely : Prop := fnSpanMeetRow.holds Try.pinned (OpenSpec.ofChange fnSpanMeetWrong)

/-- 'laws.FnSpanLess': WHATEVER THE INPUT: true; the input reads as it did. -/
def fnSpanLessSpec : ChangeSpec := { name := "fnSpanLess", fn := fun _ => fun
  | [d] => { results := [.lit (.bool true)], args := [d] }
  | _ => none }
def fnSpanLessRow : OpenClaim := { program := "ytlbehkdhngeipaa", sum := "31e74f51212a5294e7a345e607c2f170f9d46d81bd494a1eb1dcd860a4a41bb2", func := "loop.example/varve/laws.FnSpanLess", spec := "fnSpanLess", unfollowed := true, recurses := true, apart := false }
def FnSpanLessSaid : Prop := fnSpanLessRow.holds Try.pinned (OpenSpec.ofChange fnSpanLessSpec)

/-- ITS FALSE NEIGHBOUR: 'it returns false'. Refute it at one input. -/
def fnSpanLessWrong : ChangeSpec := { name := "fnSpanLess", fn := fun _ => fun
  | [d] => { results := [.lit (.bool false)], args := [d] }
  | _ => none }
def FnSpanLessWrongFalsely : Prop := fnSpanLessRow.holds Try.pinned (OpenSpec.ofChange fnSpanLessWrong)

/-- 'laws.FnSetAdd': WHATEVER THE INPUT: true; the input reads as it did. -/
def fnSetAddSpec : ChangeSpec := { name := "fnSetAdd", fn := fun _ => fun
  | [d] => { results := [.lit (.bool true)], args := [d] }
  | _ => none }
def fnSetAddRow : OpenClaim := { program := "ytlbehkdhngeipaa", sum := "31e74f51212a5294e7a345e607c2f170f9d46d81bd494a1eb1dcd860a4a41bb2", func := "loop.example/varve/laws.FnSetAdd", spec := "fnSetAdd", unfollowed := true, recurses := true, apart := false }
def FnSetAddSaid : Prop := fnSetAddRow.holds Try.pinned (OpenSpec.ofChange fnSetAddSpec)

/-- ITS FALSE NEIGHBOUR: 'it returns false'. Refute it at one input. -/
def fnSetAddWrong : ChangeSpec := { name := "fnSetAdd", fn := fun _ => fun
  | [d] => { results := [.lit (.bool false)], args := [d] }
  | _ => none }
def FnSetAddWrongFalsely : Prop := fnSetAddRow.holds Try.pinned (OpenSpec.ofChange fnSetAddWrong)

/-- 'laws.FnSetOf': WHATEVER THE INPUT: true; the input reads as it did. -/
def fnSetOfSpec : ChangeSpec := { name := "fnSetOf", fn := fun _ => fun
  | [d] => { results := [.lit (.bool true)], args := [d] }
  | _ => none }
def fnSetOfRow : OpenClaim := { program := "ytlbehkdhngeipaa", sum := "31e74f51212a5294e7a345e607c2f170f9d46d81bd494a1eb1dcd860a4a41bb2", func := "loop.example/varve/laws.FnSetOf", spec := "fnSetOf", unfollowed := true, recurses := true, apart := false }
def FnSetOfSaid : Prop := fnSetOfRow.holds Try.pinned (OpenSpec.ofChange fnSetOfSpec)

/-- ITS FALSE NEIGHBOUR: 'it returns false'. Refute it at one input. -/
def fnSetOfWrong : ChangeSpec := { name := "fnSetOf", fn := fun _ => fun
  | [d] => { results := [.lit (.bool false)], args := [d] }
  | _ => none }
def FnSetOfWrongFalsely : Prop := fnSetOfRow.holds Try.pinned (OpenSpec.ofChange fnSetOfWrong)

/-- 'laws.FnSetHas': WHATEVER THE INPUT: true; the input reads as it did. -/
def fnSetHasSpec : ChangeSpec := { name := "fnSetHas", fn := fun _ => fun
  | [d] => { results := [.lit (.bool true)], args := [d] }
  | _ => none }
def fnSetHasRow : OpenClaim := { program := "ytlbehkdhngeipaa", sum := "31e74f51212a5294e7a345e607c2f170f9d46d81bd494a1eb1dcd860a4a41bb2", func := "loop.example/varve/laws.FnSetHas", spec := "fnSetHas", apart := false }
def FnSetHasSaid : Prop := fnSetHasRow.holds Try.pinned (OpenSpec.ofChange fnSetHasSpec)

/-- ITS FALSE NEIGHBOUR: 'it returns false'. Refute it at one input. -/
def fnSetHasWrong : ChangeSpec := { name := "fnSetHas", fn := fun _ => fun
  | [d] => { results := [.lit (.bool false)], args := [d] }
  | _ => none }
def FnSetHasWrongFalsely : Prop := fnSetHasRow.holds Try.pinned (OpenSpec.ofChange fnSetHasWrong)

/-- 'laws.FnSetMeet': WHATEVER THE INPUT: true; the input reads as it did. -/
def fnSetMeetSpec : ChangeSpec := { name := "fnSetMeet", fn := fun _ => fun
  | [d] => { results := [.lit (.bool true)], args := [d] }
  | _ => none }
def fnSetMeetRow : OpenClaim := { program := "ytlbehkdhngeipaa", sum := "31e74f51212a5294e7a345e607c2f170f9d46d81bd494a1eb1dcd860a4a41bb2", func := "loop.example/varve/laws.FnSetMeet", spec := "fnSetMeet", unfollowed := true, recurses := true, apart := false }
def FnSetMeetSaid : Prop := fnSetMeetRow.holds Try.pinned (OpenSpec.ofChange fnSetMeetSpec)

/-- ITS FALSE NEIGHBOUR: 'it returns false'. Refute it at one input. -/
def fnSetMeetWrong : ChangeSpec := { name := "fnSetMeet", fn := fun _ => fun
  | [d] => { results := [.lit (.bool false)], args := [d] }
  | _ => none }
def FnSetMeetWrongFalsely : Prop := fnSetMeetRow.holds Try.pinned (OpenSpec.ofChange fnSetMeetWrong)

/-- 'laws.FnSetLess': WHATEVER THE INPUT: true; the input reads as it did. -/
def fnSetLessSpec : ChangeSpec := { name := "fnSetLess", fn := fun _ => fun
  | [d] => { results := [.lit (.bool true)], args := [d] }
  | _ => none }
def fnSetLessRow : OpenClaim := { program := "ytlbehkdhngeipaa", sum := "31e74f51212a5294e7a345e607c2f170f9d46d81bd494a1eb1dcd860a4a41bb2", func := "loop.example/varve/laws.FnSetLess", spec := "fnSetLess", unfollowed := true, recurses := true, apart := false }
def FnSetLessSaid : Prop := fnSetLessRow.holds Try.pinned (OpenSpec.ofChange fnSetLessSpec)

/-- ITS FALSE NEIGHBOUR: 'it returns false'. Refute it at one input. -/
def fnSetLessWrong : ChangeSpec := { name := "fnSetLess", fn := fun _ => fun
  | [d] => { results := [.lit (.bool false)], args := [d] }
  | _ => none }
def FnSetLessWrongFalsely : Prop := fnSetLessRow.holds Try.pinned (OpenSpec.ofChange fnSetLessWrong)

/-- 'laws.FnSetMany': WHATEVER THE INPUT: true; the input reads as it did. -/
def fnSetManySpec : ChangeSpec := { name := "fnSetMany", fn := fun _ => fun
  | [d] => { results := [.lit (.bool true)], args := [d] }
  | _ => none }
def fnSetManyRow : OpenClaim := { program := "ytlbehkdhngeipaa", sum := "31e74f51212a5294e7a345e607c2f170f9d46d81bd494a1eb1dcd860a4a41bb2", func := "loop.example/varve/laws.FnSetMany", spec := "fnSetMany", apart := false }
def FnSetManySaid : Prop := fnSetManyRow.holds Try.pinned (OpenSpec.ofChange fnSetManySpec)

/-- ITS FALSE NEIGHBOUR: 'it returns false'. Refute it at one input. -/
def fnSetManyWrong : ChangeSpec := { name := "fnSetMany", fn := fun _ => fun
  | [d] => { results := [.lit (.bool false)], args := [d] }
  | _ => none }
def FnSetManyWrongFalsely : Prop := fnSetManyRow.holds Try.pinned (OpenSpec.ofChange fnSetManyWrong)

/-- 'laws.FnExactSpanOk': WHATEVER THE INPUT: true; the input reads as it did. -/
def fnExactSpanOkSpec : ChangeSpec := { name := "fnExactSpanOk", fn := fun _ => fun
  | [d] => { results := [.lit (.bool true)], args := [d] }
  | _ => none }
def fnExactSpanOkRow : OpenClaim := { program := "ytlbehkdhngeipaa", sum := "31e74f51212a5294e7a345e607c2f170f9d46d81bd494a1eb1dcd860a4a41bb2", func := "loop.example/varve/laws.FnExactSpanOk", spec := "fnExactSpanOk", apart := false }
def FnExactSpanOkSaid : Prop := fnExactSpanOkRow.holds Try.pinned (OpenSpec.ofChange fnExactSpanOkSpec)

/-- ITS FALSE NEIGHBOUR: 'it returns false'. Refute it at one input. -/
def fnExactSpanOkWrong : ChangeSpec := { name := "fnExactSpanOk", fn := fun _ => fun
  | [d] => { results := [.lit (.bool false)], args := [d] }
  | _ => none }
def FnExactSpanOkWrongFalsely : Prop := fnExactSpanOkRow.holds Try.pinned (OpenSpec.ofChange fnExactSpanOkWrong)

/-- 'laws.FnExactSpanMeet': WHATEVER THE INPUT: true; the input reads as it did. -/
def fnExactSpanMeetSpec : ChangeSpec := { name := "fnExactSpanMeet", fn := fun _ => fun
  | [d1, d2] => { results := [.lit (.bool true)], args := [d1, d2] }
  | _ => none }
def fnExactSpanMeetRow : OpenClaim := { program := "ytlbehkdhngeipaa", sum := "31e74f51212a5294e7a345e607c2f170f9d46d81bd494a1eb1dcd860a4a41bb2", func := "loop.example/varve/laws.FnExactSpanMeet", spec := "fnExactSpanMeet", apart := false }
def FnExactSpanMeetSaid : Prop := fnExactSpanMeetRow.holds Try.pinned (OpenSpec.ofChange fnExactSpanMeetSpec)

/-- ITS FALSE NEIGHBOUR: 'it returns false'. Refute it at one input. -/
def fnExactSpanMeetWrong : ChangeSpec := { name := "fnExactSpanMeet", fn := fun _ => fun
  | [d1, d2] => { results := [.lit (.bool false)], args := [d1, d2] }
  | _ => none }
def FnExactSpanMeetWrongFalsely : Prop := fnExactSpanMeetRow.holds Try.pinned (OpenSpec.ofChange fnExactSpanMeetWrong)

/-- 'laws.FnExactSpanLess': WHATEVER THE INPUT: true; the input reads as it did. -/
def fnExactSpanLessSpec : ChangeSpec := { name := "fnExactSpanLess", fn := fun _ => fun
  | [d1, d2] => { results := [.lit (.bool true)], args := [d1, d2] }
  | _ => none }
def fnExactSpanLessRow : OpenClaim := { program := "ytlbehkdhngeipaa", sum := "31e74f51212a5294e7a345e607c2f170f9d46d81bd494a1eb1dcd860a4a41bb2", func := "loop.example/varve/laws.FnExactSpanLess", spec := "fnExactSpanLess", unfollowed := true, recurses := true, apart := false }
def FnExactSpanLessSaid : Prop := fnExactSpanLessRow.holds Try.pinned (OpenSpec.ofChange fnExactSpanLessSpec)

/-- ITS FALSE NEIGHBOUR: 'it returns false'. Refute it at one input. -/
def fnExactSpanLessWrong : ChangeSpec := { name := "fnExactSpanLess", fn := fun _ => fun
  | [d1, d2] => { results := [.lit (.bool false)], args := [d1, d2] }
  | _ => none }
def FnExactSpanLessWrongFalsely : Prop := fnExactSpanLessRow.holds Try.pinned (OpenSpec.ofChange fnExactSpanLessWrong)

/-- 'laws.FnExactSetOk': WHATEVER THE INPUT: true; the input reads as it did. -/
def fnExactSetOkSpec : ChangeSpec := { name := "fnExactSetOk", fn := fun _ => fun
  | [d] => { results := [.lit (.bool true)], args := [d] }
  | _ => none }
def fnExactSetOkRow : OpenClaim := { program := "ytlbehkdhngeipaa", sum := "31e74f51212a5294e7a345e607c2f170f9d46d81bd494a1eb1dcd860a4a41bb2", func := "loop.example/varve/laws.FnExactSetOk", spec := "fnExactSetOk", apart := false }
def FnExactSetOkSaid : Prop := fnExactSetOkRow.holds Try.pinned (OpenSpec.ofChange fnExactSetOkSpec)

/-- ITS FALSE NEIGHBOUR: 'it returns false'. Refute it at one input. -/
def fnExactSetOkWrong : ChangeSpec := { name := "fnExactSetOk", fn := fun _ => fun
  | [d] => { results := [.lit (.bool false)], args := [d] }
  | _ => none }
def FnExactSetOkWrongFalsely : Prop := fnExactSetOkRow.holds Try.pinned (OpenSpec.ofChange fnExactSetOkWrong)

/-- 'laws.FnExactSetAdd': WHATEVER THE INPUT: true; the input reads as it did. -/
def fnExactSetAddSpec : ChangeSpec := { name := "fnExactSetAdd", fn := fun _ => fun
  | [d1, d2] => { results := [.lit (.bool true)], args := [d1, d2] }
  | _ => none }
def fnExactSetAddRow : OpenClaim := { program := "ytlbehkdhngeipaa", sum := "31e74f51212a5294e7a345e607c2f170f9d46d81bd494a1eb1dcd860a4a41bb2", func := "loop.example/varve/laws.FnExactSetAdd", spec := "fnExactSetAdd", unfollowed := true, recurses := true, apart := false }
def FnExactSetAddSaid : Prop := fnExactSetAddRow.holds Try.pinned (OpenSpec.ofChange fnExactSetAddSpec)

/-- ITS FALSE NEIGHBOUR: 'it returns false'. Refute it at one input. -/
def fnExactSetAddWrong : ChangeSpec := { name := "fnExactSetAdd", fn := fun _ => fun
  | [d1, d2] => { results := [.lit (.bool false)], args := [d1, d2] }
  | _ => none }
def FnExactSetAddWrongFalsely : Prop := fnExactSetAddRow.holds Try.pinned (OpenSpec.ofChange fnExactSetAddWrong)

/-- 'laws.FnExactSetOf': WHATEVER THE INPUT: true; the input reads as it did. -/
def fnExactSetOfSpec : ChangeSpec := { name := "fnExactSetOf", fn := fun _ => fun
  | [d] => { results := [.lit (.bool true)], args := [d] }
  | _ => none }
def fnExactSetOfRow : OpenClaim := { program := "ytlbehkdhngeipaa", sum := "31e74f51212a5294e7a345e607c2f170f9d46d81bd494a1eb1dcd860a4a41bb2", func := "loop.example/varve/laws.FnExactSetOf", spec := "fnExactSetOf", unfollowed := true, recurses := true, apart := false }
def FnExactSetOfSaid : Prop := fnExactSetOfRow.holds Try.pinned (OpenSpec.ofChange fnExactSetOfSpec)

/-- ITS FALSE NEIGHBOUR: 'it returns false'. Refute it at one input. -/
def fnExactSetOfWrong : ChangeSpec := { name := "fnExactSetOf", fn := fun _ => fun
  | [d] => { results := [.lit (.bool false)], args := [d] }
  | _ => none }
def FnExactSetOfWrongFalsely : Prop := fnExactSetOfRow.holds Try.pinned (OpenSpec.ofChange fnExactSetOfWrong)

/-- 'laws.FnExactSetHas': WHATEVER THE INPUT: true; the input reads as it did. -/
def fnExactSetHasSpec : ChangeSpec := { name := "fnExactSetHas", fn := fun _ => fun
  | [d1, d2] => { results := [.lit (.bool true)], args := [d1, d2] }
  | _ => none }
def fnExactSetHasRow : OpenClaim := { program := "ytlbehkdhngeipaa", sum := "31e74f51212a5294e7a345e607c2f170f9d46d81bd494a1eb1dcd860a4a41bb2", func := "loop.example/varve/laws.FnExactSetHas", spec := "fnExactSetHas", apart := false }
def FnExactSetHasSaid : Prop := fnExactSetHasRow.holds Try.pinned (OpenSpec.ofChange fnExactSetHasSpec)

/-- ITS FALSE NEIGHBOUR: 'it returns false'. Refute it at one input. -/
def fnExactSetHasWrong : ChangeSpec := { name := "fnExactSetHas", fn := fun _ => fun
  | [d1, d2] => { results := [.lit (.bool false)], args := [d1, d2] }
  | _ => none }
def FnExactSetHasWrongFalsely : Prop := fnExactSetHasRow.holds Try.pinned (OpenSpec.ofChange fnExactSetHasWrong)

/-- 'laws.FnExactSetMeet': WHATEVER THE INPUT: true; the input reads as it did. -/
def fnExactSetMeetSpec : ChangeSpec := { name := "fnExactSetMeet", fn := fun _ => fun
  | [d1, d2] => { results := [.lit (.bool true)], args := [d1, d2] }
  | _ => none }
def fnExactSetMeetRow : OpenClaim := { program := "ytlbehkdhngeipaa", sum := "31e74f51212a5294e7a345e607c2f170f9d46d81bd494a1eb1dcd860a4a41bb2", func := "loop.example/varve/laws.FnExactSetMeet", spec := "fnExactSetMeet", unfollowed := true, recurses := true, apart := false }
def FnExactSetMeetSaid : Prop := fnExactSetMeetRow.holds Try.pinned (OpenSpec.ofChange fnExactSetMeetSpec)

/-- ITS FALSE NEIGHBOUR: 'it returns false'. Refute it at one input. -/
def fnExactSetMeetWrong : ChangeSpec := { name := "fnExactSetMeet", fn := fun _ => fun
  | [d1, d2] => { results := [.lit (.bool false)], args := [d1, d2] }
  | _ => none }
def FnExactSetMeetWrongFalsely : Prop := fnExactSetMeetRow.holds Try.pinned (OpenSpec.ofChange fnExactSetMeetWrong)

/-- 'laws.FnExactSetLess': WHATEVER THE INPUT: true; the input reads as it did. -/
def fnExactSetLessSpec : ChangeSpec := { name := "fnExactSetLess", fn := fun _ => fun
  | [d1, d2] => { results := [.lit (.bool true)], args := [d1, d2] }
  | _ => none }
def fnExactSetLessRow : OpenClaim := { program := "ytlbehkdhngeipaa", sum := "31e74f51212a5294e7a345e607c2f170f9d46d81bd494a1eb1dcd860a4a41bb2", func := "loop.example/varve/laws.FnExactSetLess", spec := "fnExactSetLess", unfollowed := true, recurses := true, apart := false }
def FnExactSetLessSaid : Prop := fnExactSetLessRow.holds Try.pinned (OpenSpec.ofChange fnExactSetLessSpec)

/-- ITS FALSE NEIGHBOUR: 'it returns false'. Refute it at one input. -/
def fnExactSetLessWrong : ChangeSpec := { name := "fnExactSetLess", fn := fun _ => fun
  | [d1, d2] => { results := [.lit (.bool false)], args := [d1, d2] }
  | _ => none }
def FnExactSetLessWrongFalsely : Prop := fnExactSetLessRow.holds Try.pinned (OpenSpec.ofChange fnExactSetLessWrong)

/-- 'laws.FnExactSetMany': WHATEVER THE INPUT: true; the input reads as it did. -/
def fnExactSetManySpec : ChangeSpec := { name := "fnExactSetMany", fn := fun _ => fun
  | [d] => { results := [.lit (.bool true)], args := [d] }
  | _ => none }
def fnExactSetManyRow : OpenClaim := { program := "ytlbehkdhngeipaa", sum := "31e74f51212a5294e7a345e607c2f170f9d46d81bd494a1eb1dcd860a4a41bb2", func := "loop.example/varve/laws.FnExactSetMany", spec := "fnExactSetMany", apart := false }
def FnExactSetManySaid : Prop := fnExactSetManyRow.holds Try.pinned (OpenSpec.ofChange fnExactSetManySpec)

/-- ITS FALSE NEIGHBOUR: 'it returns false'. Refute it at one input. -/
def fnExactSetManyWrong : ChangeSpec := { name := "fnExactSetMany", fn := fun _ => fun
  | [d] => { results := [.lit (.bool false)], args := [d] }
  | _ => none }
def FnExactSetManyWrongFalsely : Prop := fnExactSetManyRow.holds Try.pinned (OpenSpec.ofChange fnExactSetManyWrong)

/- THE SECOND FORM. 'bulk': how many values and letters a reading holds, each counted each time it is reached (what is shared counts as often as it is met; a slice's spare places count too). A statement '..UptoSaid' is the law's where the arguments, and the package variables that the reading takes, are together of bulk at most 1048576: NARROWER than '..Said'. Prove '..Said' where nothing that the law and all that it calls make is longer than what came in: it says more and counts as full. Else prove '..UptoSaid'. A law counts once. -/
mutual
def uptoBulk {H : Type} : DataW H → Nat
  | .lit (.string bytes) => bytes.length + 1
  | .lit _ => 1
  | .nil => 1
  | .ptr d => uptoBulk d + 1
  | .slice elems spare => uptoBulkAll elems + uptoBulkAll spare + 1
  | .agg parts => uptoBulkAll parts + 1
  | .iface _ d => uptoBulk d + 1
  | .map entries => uptoBulkEntries entries + 1
  | .held _ => 1
def uptoBulkAll {H : Type} : List (DataW H) → Nat
  | [] => 0
  | d :: r => uptoBulk d + uptoBulkAll r
def uptoBulkEntries {H : Type} : List (Lit × DataW H) → Nat
  | [] => 0
  | x :: r => uptoBulkEntry x + uptoBulkEntries r
def uptoBulkEntry {H : Type} : Lit × DataW H → Nat
  | (.string bytes, d) => bytes.length + uptoBulk d + 1
  | (_, d) => uptoBulk d + 1
 end
def uptoSmall : (H : Type) → List (DataW H) → Bool := fun _ ds => decide (uptoBulkAll ds ≤ 1048576)
def OpenSpec.upto (s : _root_.Go.ChangeSpec) : _root_.Go.OpenSpec := { _root_.Go.OpenSpec.ofChange s with cond := some uptoSmall }

/-- 'laws.FnSpanMeet', WHERE WHAT IT READS IS OF BULK AT MOST 1048576: true; the input reads as it did. -/
def fnSpanMeetUptoRow : OpenClaim := { program := "ytlbehkdhngeipaa", sum := "31e74f51212a5294e7a345e607c2f170f9d46d81bd494a1eb1dcd860a4a41bb2", func := "loop.example/varve/laws.FnSpanMeet", spec := "fnSpanMeet", apart := false, narrowed := true }
def FnSpanMeetUptoSaid : Prop := fnSpanMeetUptoRow.holds Try.pinned (OpenSpec.upto fnSpanMeetSpec)

/-- 'laws.FnSpanLess', WHERE WHAT IT READS IS OF BULK AT MOST 1048576: true; the input reads as it did. -/
def fnSpanLessUptoRow : OpenClaim := { program := "ytlbehkdhngeipaa", sum := "31e74f51212a5294e7a345e607c2f170f9d46d81bd494a1eb1dcd860a4a41bb2", func := "loop.example/varve/laws.FnSpanLess", spec := "fnSpanLess", unfollowed := true, recurses := true, apart := false, narrowed := true }
def FnSpanLessUptoSaid : Prop := fnSpanLessUptoRow.holds Try.pinned (OpenSpec.upto fnSpanLessSpec)

/-- 'laws.FnSetAdd', WHERE WHAT IT READS IS OF BULK AT MOST 1048576: true; the input reads as it did. -/
def fnSetAddUptoRow : OpenClaim := { program := "ytlbehkdhngeipaa", sum := "31e74f51212a5294e7a345e607c2f170f9d46d81bd494a1eb1dcd860a4a41bb2", func := "loop.example/varve/laws.FnSetAdd", spec := "fnSetAdd", unfollowed := true, recurses := true, apart := false, narrowed := true }
def FnSetAddUptoSaid : Prop := fnSetAddUptoRow.holds Try.pinned (OpenSpec.upto fnSetAddSpec)

/-- 'laws.FnSetOf', WHERE WHAT IT READS IS OF BULK AT MOST 1048576: true; the input reads as it did. -/
def fnSetOfUptoRow : OpenClaim := { program := "ytlbehkdhngeipaa", sum := "31e74f51212a5294e7a345e607c2f170f9d46d81bd494a1eb1dcd860a4a41bb2", func := "loop.example/varve/laws.FnSetOf", spec := "fnSetOf", unfollowed := true, recurses := true, apart := false, narrowed := true }
def FnSetOfUptoSaid : Prop := fnSetOfUptoRow.holds Try.pinned (OpenSpec.upto fnSetOfSpec)

/-- 'laws.FnSetHas', WHERE WHAT IT READS IS OF BULK AT MOST 1048576: true; the input reads as it did. -/
def fnSetHasUptoRow : OpenClaim := { program := "ytlbehkdhngeipaa", sum := "31e74f51212a5294e7a345e607c2f170f9d46d81bd494a1eb1dcd860a4a41bb2", func := "loop.example/varve/laws.FnSetHas", spec := "fnSetHas", apart := false, narrowed := true }
def FnSetHasUptoSaid : Prop := fnSetHasUptoRow.holds Try.pinned (OpenSpec.upto fnSetHasSpec)

/-- 'laws.FnSetMeet', WHERE WHAT IT READS IS OF BULK AT MOST 1048576: true; the input reads as it did. -/
def fnSetMeetUptoRow : OpenClaim := { program := "ytlbehkdhngeipaa", sum := "31e74f51212a5294e7a345e607c2f170f9d46d81bd494a1eb1dcd860a4a41bb2", func := "loop.example/varve/laws.FnSetMeet", spec := "fnSetMeet", unfollowed := true, recurses := true, apart := false, narrowed := true }
def FnSetMeetUptoSaid : Prop := fnSetMeetUptoRow.holds Try.pinned (OpenSpec.upto fnSetMeetSpec)

/-- 'laws.FnSetLess', WHERE WHAT IT READS IS OF BULK AT MOST 1048576: true; the input reads as it did. -/
def fnSetLessUptoRow : OpenClaim := { program := "ytlbehkdhngeipaa", sum := "31e74f51212a5294e7a345e607c2f170f9d46d81bd494a1eb1dcd860a4a41bb2", func := "loop.example/varve/laws.FnSetLess", spec := "fnSetLess", unfollowed := true, recurses := true, apart := false, narrowed := true }
def FnSetLessUptoSaid : Prop := fnSetLessUptoRow.holds Try.pinned (OpenSpec.upto fnSetLessSpec)

/-- 'laws.FnSetMany', WHERE WHAT IT READS IS OF BULK AT MOST 1048576: true; the input reads as it did. -/
def fnSetManyUptoRow : OpenClaim := { program := "ytlbehkdhngeipaa", sum := "31e74f51212a5294e7a345e607c2f170f9d46d81bd494a1eb1dcd860a4a41bb2", func := "loop.example/varve/laws.FnSetMany", spec := "fnSetMany", apart := false, narrowed := true }
def FnSetManyUptoSaid : Prop := fnSetManyUptoRow.holds Try.pinned (OpenSpec.upto fnSetManySpec)

/-- 'laws.FnExactSpanOk', WHERE WHAT IT READS IS OF BULK AT MOST 1048576: true; the input reads as it did. -/
def fnExactSpanOkUptoRow : OpenClaim := { program := "ytlbehkdhngeipaa", sum := "31e74f51212a5294e7a345e607c2f170f9d46d81bd494a1eb1dcd860a4a41bb2", func := "loop.example/varve/laws.FnExactSpanOk", spec := "fnExactSpanOk", apart := false, narrowed := true }
def FnExactSpanOkUptoSaid : Prop := fnExactSpanOkUptoRow.holds Try.pinned (OpenSpec.upto fnExactSpanOkSpec)

/-- 'laws.FnExactSpanMeet', WHERE WHAT IT READS IS OF BULK AT MOST 1048576: true; the input reads as it did. -/
def fnExactSpanMeetUptoRow : OpenClaim := { program := "ytlbehkdhngeipaa", sum := "31e74f51212a5294e7a345e607c2f170f9d46d81bd494a1eb1dcd860a4a41bb2", func := "loop.example/varve/laws.FnExactSpanMeet", spec := "fnExactSpanMeet", apart := false, narrowed := true }
def FnExactSpanMeetUptoSaid : Prop := fnExactSpanMeetUptoRow.holds Try.pinned (OpenSpec.upto fnExactSpanMeetSpec)

/-- 'laws.FnExactSpanLess', WHERE WHAT IT READS IS OF BULK AT MOST 1048576: true; the input reads as it did. -/
def fnExactSpanLessUptoRow : OpenClaim := { program := "ytlbehkdhngeipaa", sum := "31e74f51212a5294e7a345e607c2f170f9d46d81bd494a1eb1dcd860a4a41bb2", func := "loop.example/varve/laws.FnExactSpanLess", spec := "fnExactSpanLess", unfollowed := true, recurses := true, apart := false, narrowed := true }
def FnExactSpanLessUptoSaid : Prop := fnExactSpanLessUptoRow.holds Try.pinned (OpenSpec.upto fnExactSpanLessSpec)

/-- 'laws.FnExactSetOk', WHERE WHAT IT READS IS OF BULK AT MOST 1048576: true; the input reads as it did. -/
def fnExactSetOkUptoRow : OpenClaim := { program := "ytlbehkdhngeipaa", sum := "31e74f51212a5294e7a345e607c2f170f9d46d81bd494a1eb1dcd860a4a41bb2", func := "loop.example/varve/laws.FnExactSetOk", spec := "fnExactSetOk", apart := false, narrowed := true }
def FnExactSetOkUptoSaid : Prop := fnExactSetOkUptoRow.holds Try.pinned (OpenSpec.upto fnExactSetOkSpec)

/-- 'laws.FnExactSetAdd', WHERE WHAT IT READS IS OF BULK AT MOST 1048576: true; the input reads as it did. -/
def fnExactSetAddUptoRow : OpenClaim := { program := "ytlbehkdhngeipaa", sum := "31e74f51212a5294e7a345e607c2f170f9d46d81bd494a1eb1dcd860a4a41bb2", func := "loop.example/varve/laws.FnExactSetAdd", spec := "fnExactSetAdd", unfollowed := true, recurses := true, apart := false, narrowed := true }
def FnExactSetAddUptoSaid : Prop := fnExactSetAddUptoRow.holds Try.pinned (OpenSpec.upto fnExactSetAddSpec)

/-- 'laws.FnExactSetOf', WHERE WHAT IT READS IS OF BULK AT MOST 1048576: true; the input reads as it did. -/
def fnExactSetOfUptoRow : OpenClaim := { program := "ytlbehkdhngeipaa", sum := "31e74f51212a5294e7a345e607c2f170f9d46d81bd494a1eb1dcd860a4a41bb2", func := "loop.example/varve/laws.FnExactSetOf", spec := "fnExactSetOf", unfollowed := true, recurses := true, apart := false, narrowed := true }
def FnExactSetOfUptoSaid : Prop := fnExactSetOfUptoRow.holds Try.pinned (OpenSpec.upto fnExactSetOfSpec)

/-- 'laws.FnExactSetHas', WHERE WHAT IT READS IS OF BULK AT MOST 1048576: true; the input reads as it did. -/
def fnExactSetHasUptoRow : OpenClaim := { program := "ytlbehkdhngeipaa", sum := "31e74f51212a5294e7a345e607c2f170f9d46d81bd494a1eb1dcd860a4a41bb2", func := "loop.example/varve/laws.FnExactSetHas", spec := "fnExactSetHas", apart := false, narrowed := true }
def FnExactSetHasUptoSaid : Prop := fnExactSetHasUptoRow.holds Try.pinned (OpenSpec.upto fnExactSetHasSpec)

/-- 'laws.FnExactSetMeet', WHERE WHAT IT READS IS OF BULK AT MOST 1048576: true; the input reads as it did. -/
def fnExactSetMeetUptoRow : OpenClaim := { program := "ytlbehkdhngeipaa", sum := "31e74f51212a5294e7a345e607c2f170f9d46d81bd494a1eb1dcd860a4a41bb2", func := "loop.example/varve/laws.FnExactSetMeet", spec := "fnExactSetMeet", unfollowed := true, recurses := true, apart := false, narrowed := true }
def FnExactSetMeetUptoSaid : Prop := fnExactSetMeetUptoRow.holds Try.pinned (OpenSpec.upto fnExactSetMeetSpec)

/-- 'laws.FnExactSetLess', WHERE WHAT IT READS IS OF BULK AT MOST 1048576: true; the input reads as it did. -/
def fnExactSetLessUptoRow : OpenClaim := { program := "ytlbehkdhngeipaa", sum := "31e74f51212a5294e7a345e607c2f170f9d46d81bd494a1eb1dcd860a4a41bb2", func := "loop.example/varve/laws.FnExactSetLess", spec := "fnExactSetLess", unfollowed := true, recurses := true, apart := false, narrowed := true }
def FnExactSetLessUptoSaid : Prop := fnExactSetLessUptoRow.holds Try.pinned (OpenSpec.upto fnExactSetLessSpec)

/-- 'laws.FnExactSetMany', WHERE WHAT IT READS IS OF BULK AT MOST 1048576: true; the input reads as it did. -/
def fnExactSetManyUptoRow : OpenClaim := { program := "ytlbehkdhngeipaa", sum := "31e74f51212a5294e7a345e607c2f170f9d46d81bd494a1eb1dcd860a4a41bb2", func := "loop.example/varve/laws.FnExactSetMany", spec := "fnExactSetMany", apart := false, narrowed := true }
def FnExactSetManyUptoSaid : Prop := fnExactSetManyUptoRow.holds Try.pinned (OpenSpec.upto fnExactSetManySpec)

end Rows
end Go.Proofs.Ytlbehkdhngeipaa
