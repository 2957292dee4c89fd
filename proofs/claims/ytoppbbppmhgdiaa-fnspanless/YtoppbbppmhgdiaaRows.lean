/-
  No cell of these rows narrows 'for every input' (looked for: loops, veiled, ifaces, maps, wideKeys, modest, calm, conditions, laid).
  DERIVED. THE GIVEN ROWS OF THIS SEAT. 12 by the template 'for every input the law returns true; each argument reads behind the call as it read before'; 0 by the template 'total and deterministic' (their statements: YtoppbbppmhgdiaaTotals.lean).
  GIVEN WITH THE SEED: the statements are not yours to turn. If you find one false, say at which input.
  Laid BY PROGRAM, IN A SANDBOX (cutbox-rows.mjs): the forced cells as the released guide's own fill.sh prints them over the translation f89150593a5162b0… (all of the seat's roots in one cut). By AI agents, Wed Nov 11 2026. No macro, syntax, notation, axiom, sorry.
-/
import Derived.Test.YtoppbbppmhgdiaaChecked
import GoSem.Claim
import GoSem.ClaimJoined
import GoSem.ClaimMapViews
import Derived.JoinedTies
import Derived.KernelRfl
namespace Go.Proofs.Ytoppbbppmhgdiaa
/- THE CELL 'sum', in the pinned program and in every row, IS THE sha256 OF THE DUMP (.gsa) THAT YtoppbbppmhgdiaaProg.lean LOADS. Nothing in Lean hashes anything: it is a label: what it is worth is what the hold of that sum in a sandbox is worth. -/
noncomputable def Try.pinned : Pinned := { name := "ytoppbbppmhgdiaa", sum := "f89150593a5162b0117b7f2f0808f3101e89293a8c1117cd3d204d32fa0f582b", checked := Try.checked }
namespace Rows
def none {H : Type} : Left H := { results := [], args := [] }

/-- 'laws.FnExactRowOk': WHATEVER THE INPUT: true; the input reads as it did. -/
def fnExactRowOkSpec : ChangeSpec := { name := "fnExactRowOk", fn := fun _ => fun
  | [d] => { results := [.lit (.bool true)], args := [d] }
  | _ => none }
def fnExactRowOkRow : OpenClaim := { program := "ytoppbbppmhgdiaa", sum := "f89150593a5162b0117b7f2f0808f3101e89293a8c1117cd3d204d32fa0f582b", func := "loop.example/varve/laws.FnExactRowOk", spec := "fnExactRowOk", apart := false }
def FnExactRowOkSaid : Prop := fnExactRowOkRow.holds Try.pinned (OpenSpec.ofChange fnExactRowOkSpec)

/-- ITS FALSE NEIGHBOUR: 'it returns false'. Refute it at one input. -/
def fnExactRowOkWrong : ChangeSpec := { name := "fnExactRowOk", fn := fun _ => fun
  | [d] => { results := [.lit (.bool false)], args := [d] }
  | _ => none }
def FnExactRowOkWrongFalsely : Prop := fnExactRowOkRow.holds Try.pinned (OpenSpec.ofChange fnExactRowOkWrong)

/-- 'laws.FnExactRelOk': WHATEVER THE INPUT: true; the input reads as it did. -/
def fnExactRelOkSpec : ChangeSpec := { name := "fnExactRelOk", fn := fun _ => fun
  | [d] => { results := [.lit (.bool true)], args := [d] }
  | _ => none }
def fnExactRelOkRow : OpenClaim := { program := "ytoppbbppmhgdiaa", sum := "f89150593a5162b0117b7f2f0808f3101e89293a8c1117cd3d204d32fa0f582b", func := "loop.example/varve/laws.FnExactRelOk", spec := "fnExactRelOk", apart := false }
def FnExactRelOkSaid : Prop := fnExactRelOkRow.holds Try.pinned (OpenSpec.ofChange fnExactRelOkSpec)

/-- ITS FALSE NEIGHBOUR: 'it returns false'. Refute it at one input. -/
def fnExactRelOkWrong : ChangeSpec := { name := "fnExactRelOk", fn := fun _ => fun
  | [d] => { results := [.lit (.bool false)], args := [d] }
  | _ => none }
def FnExactRelOkWrongFalsely : Prop := fnExactRelOkRow.holds Try.pinned (OpenSpec.ofChange fnExactRelOkWrong)

/-- 'laws.FnExactRelGet': WHATEVER THE INPUT: true; the input reads as it did. -/
def fnExactRelGetSpec : ChangeSpec := { name := "fnExactRelGet", fn := fun _ => fun
  | [d1, d2, d3] => { results := [.lit (.bool true)], args := [d1, d2, d3] }
  | _ => none }
def fnExactRelGetRow : OpenClaim := { program := "ytoppbbppmhgdiaa", sum := "f89150593a5162b0117b7f2f0808f3101e89293a8c1117cd3d204d32fa0f582b", func := "loop.example/varve/laws.FnExactRelGet", spec := "fnExactRelGet", apart := false }
def FnExactRelGetSaid : Prop := fnExactRelGetRow.holds Try.pinned (OpenSpec.ofChange fnExactRelGetSpec)

/-- ITS FALSE NEIGHBOUR: 'it returns false'. Refute it at one input. -/
def fnExactRelGetWrong : ChangeSpec := { name := "fnExactRelGet", fn := fun _ => fun
  | [d1, d2, d3] => { results := [.lit (.bool false)], args := [d1, d2, d3] }
  | _ => none }
def FnExactRelGetWrongFalsely : Prop := fnExactRelGetRow.holds Try.pinned (OpenSpec.ofChange fnExactRelGetWrong)

/-- 'laws.FnExactRelAt': WHATEVER THE INPUT: true; the input reads as it did. -/
def fnExactRelAtSpec : ChangeSpec := { name := "fnExactRelAt", fn := fun _ => fun
  | [d1, d2] => { results := [.lit (.bool true)], args := [d1, d2] }
  | _ => none }
def fnExactRelAtRow : OpenClaim := { program := "ytoppbbppmhgdiaa", sum := "f89150593a5162b0117b7f2f0808f3101e89293a8c1117cd3d204d32fa0f582b", func := "loop.example/varve/laws.FnExactRelAt", spec := "fnExactRelAt", apart := false }
def FnExactRelAtSaid : Prop := fnExactRelAtRow.holds Try.pinned (OpenSpec.ofChange fnExactRelAtSpec)

/-- ITS FALSE NEIGHBOUR: 'it returns false'. Refute it at one input. -/
def fnExactRelAtWrong : ChangeSpec := { name := "fnExactRelAt", fn := fun _ => fun
  | [d1, d2] => { results := [.lit (.bool false)], args := [d1, d2] }
  | _ => none }
def FnExactRelAtWrongFalsely : Prop := fnExactRelAtRow.holds Try.pinned (OpenSpec.ofChange fnExactRelAtWrong)

/-- 'laws.FnExactRelKeys': WHATEVER THE INPUT: true; the input reads as it did. -/
def fnExactRelKeysSpec : ChangeSpec := { name := "fnExactRelKeys", fn := fun _ => fun
  | [d] => { results := [.lit (.bool true)], args := [d] }
  | _ => none }
def fnExactRelKeysRow : OpenClaim := { program := "ytoppbbppmhgdiaa", sum := "f89150593a5162b0117b7f2f0808f3101e89293a8c1117cd3d204d32fa0f582b", func := "loop.example/varve/laws.FnExactRelKeys", spec := "fnExactRelKeys", apart := false }
def FnExactRelKeysSaid : Prop := fnExactRelKeysRow.holds Try.pinned (OpenSpec.ofChange fnExactRelKeysSpec)

/-- ITS FALSE NEIGHBOUR: 'it returns false'. Refute it at one input. -/
def fnExactRelKeysWrong : ChangeSpec := { name := "fnExactRelKeys", fn := fun _ => fun
  | [d] => { results := [.lit (.bool false)], args := [d] }
  | _ => none }
def FnExactRelKeysWrongFalsely : Prop := fnExactRelKeysRow.holds Try.pinned (OpenSpec.ofChange fnExactRelKeysWrong)

/-- 'laws.FnExactSetLess': WHATEVER THE INPUT: true; the input reads as it did. -/
def fnExactSetLessSpec : ChangeSpec := { name := "fnExactSetLess", fn := fun _ => fun
  | [d1, d2] => { results := [.lit (.bool true)], args := [d1, d2] }
  | _ => none }
def fnExactSetLessRow : OpenClaim := { program := "ytoppbbppmhgdiaa", sum := "f89150593a5162b0117b7f2f0808f3101e89293a8c1117cd3d204d32fa0f582b", func := "loop.example/varve/laws.FnExactSetLess", spec := "fnExactSetLess", unfollowed := true, recurses := true, apart := false }
def FnExactSetLessSaid : Prop := fnExactSetLessRow.holds Try.pinned (OpenSpec.ofChange fnExactSetLessSpec)

/-- ITS FALSE NEIGHBOUR: 'it returns false'. Refute it at one input. -/
def fnExactSetLessWrong : ChangeSpec := { name := "fnExactSetLess", fn := fun _ => fun
  | [d1, d2] => { results := [.lit (.bool false)], args := [d1, d2] }
  | _ => none }
def FnExactSetLessWrongFalsely : Prop := fnExactSetLessRow.holds Try.pinned (OpenSpec.ofChange fnExactSetLessWrong)

/-- 'laws.FnExactSetOf': WHATEVER THE INPUT: true; the input reads as it did. -/
def fnExactSetOfSpec : ChangeSpec := { name := "fnExactSetOf", fn := fun _ => fun
  | [d] => { results := [.lit (.bool true)], args := [d] }
  | _ => none }
def fnExactSetOfRow : OpenClaim := { program := "ytoppbbppmhgdiaa", sum := "f89150593a5162b0117b7f2f0808f3101e89293a8c1117cd3d204d32fa0f582b", func := "loop.example/varve/laws.FnExactSetOf", spec := "fnExactSetOf", unfollowed := true, recurses := true, apart := false }
def FnExactSetOfSaid : Prop := fnExactSetOfRow.holds Try.pinned (OpenSpec.ofChange fnExactSetOfSpec)

/-- ITS FALSE NEIGHBOUR: 'it returns false'. Refute it at one input. -/
def fnExactSetOfWrong : ChangeSpec := { name := "fnExactSetOf", fn := fun _ => fun
  | [d] => { results := [.lit (.bool false)], args := [d] }
  | _ => none }
def FnExactSetOfWrongFalsely : Prop := fnExactSetOfRow.holds Try.pinned (OpenSpec.ofChange fnExactSetOfWrong)

/-- 'laws.FnExactSetAdd': WHATEVER THE INPUT: true; the input reads as it did. -/
def fnExactSetAddSpec : ChangeSpec := { name := "fnExactSetAdd", fn := fun _ => fun
  | [d1, d2] => { results := [.lit (.bool true)], args := [d1, d2] }
  | _ => none }
def fnExactSetAddRow : OpenClaim := { program := "ytoppbbppmhgdiaa", sum := "f89150593a5162b0117b7f2f0808f3101e89293a8c1117cd3d204d32fa0f582b", func := "loop.example/varve/laws.FnExactSetAdd", spec := "fnExactSetAdd", unfollowed := true, recurses := true, apart := false }
def FnExactSetAddSaid : Prop := fnExactSetAddRow.holds Try.pinned (OpenSpec.ofChange fnExactSetAddSpec)

/-- ITS FALSE NEIGHBOUR: 'it returns false'. Refute it at one input. -/
def fnExactSetAddWrong : ChangeSpec := { name := "fnExactSetAdd", fn := fun _ => fun
  | [d1, d2] => { results := [.lit (.bool false)], args := [d1, d2] }
  | _ => none }
def FnExactSetAddWrongFalsely : Prop := fnExactSetAddRow.holds Try.pinned (OpenSpec.ofChange fnExactSetAddWrong)

/-- 'laws.FnSpanLess': WHATEVER THE INPUT: true; the input reads as it did. -/
def fnSpanLessSpec : ChangeSpec := { name := "fnSpanLess", fn := fun _ => fun
  | [d] => { results := [.lit (.bool true)], args := [d] }
  | _ => none }
def fnSpanLessRow : OpenClaim := { program := "ytoppbbppmhgdiaa", sum := "f89150593a5162b0117b7f2f0808f3101e89293a8c1117cd3d204d32fa0f582b", func := "loop.example/varve/laws.FnSpanLess", spec := "fnSpanLess", unfollowed := true, recurses := true, apart := false }
def FnSpanLessSaid : Prop := fnSpanLessRow.holds Try.pinned (OpenSpec.ofChange fnSpanLessSpec)

/-- ITS FALSE NEIGHBOUR: 'it returns false'. Refute it at one input. -/
def fnSpanLessWrong : ChangeSpec := { name := "fnSpanLess", fn := fun _ => fun
  | [d] => { results := [.lit (.bool false)], args := [d] }
  | _ => none }
def FnSpanLessWrongFalsely : Prop := fnSpanLessRow.holds Try.pinned (OpenSpec.ofChange fnSpanLessWrong)

/-- 'laws.FnSetLess': WHATEVER THE INPUT: true; the input reads as it did. -/
def fnSetLessSpec : ChangeSpec := { name := "fnSetLess", fn := fun _ => fun
  | [d] => { results := [.lit (.bool true)], args := [d] }
  | _ => none }
def fnSetLessRow : OpenClaim := { program := "ytoppbbppmhgdiaa", sum := "f89150593a5162b0117b7f2f0808f3101e89293a8c1117cd3d204d32fa0f582b", func := "loop.example/varve/laws.FnSetLess", spec := "fnSetLess", unfollowed := true, recurses := true, apart := false }
def FnSetLessSaid : Prop := fnSetLessRow.holds Try.pinned (OpenSpec.ofChange fnSetLessSpec)

/-- ITS FALSE NEIGHBOUR: 'it returns false'. Refute it at one input. -/
def fnSetLessWrong : ChangeSpec := { name := "fnSetLess", fn := fun _ => fun
  | [d] => { results := [.lit (.bool false)], args := [d] }
  | _ => none }
def FnSetLessWrongFalsely : Prop := fnSetLessRow.holds Try.pinned (OpenSpec.ofChange fnSetLessWrong)

/-- 'laws.FnSetOf': WHATEVER THE INPUT: true; the input reads as it did. -/
def fnSetOfSpec : ChangeSpec := { name := "fnSetOf", fn := fun _ => fun
  | [d] => { results := [.lit (.bool true)], args := [d] }
  | _ => none }
def fnSetOfRow : OpenClaim := { program := "ytoppbbppmhgdiaa", sum := "f89150593a5162b0117b7f2f0808f3101e89293a8c1117cd3d204d32fa0f582b", func := "loop.example/varve/laws.FnSetOf", spec := "fnSetOf", unfollowed := true, recurses := true, apart := false }
def FnSetOfSaid : Prop := fnSetOfRow.holds Try.pinned (OpenSpec.ofChange fnSetOfSpec)

/-- ITS FALSE NEIGHBOUR: 'it returns false'. Refute it at one input. -/
def fnSetOfWrong : ChangeSpec := { name := "fnSetOf", fn := fun _ => fun
  | [d] => { results := [.lit (.bool false)], args := [d] }
  | _ => none }
def FnSetOfWrongFalsely : Prop := fnSetOfRow.holds Try.pinned (OpenSpec.ofChange fnSetOfWrong)

/-- 'laws.FnSetAdd': WHATEVER THE INPUT: true; the input reads as it did. -/
def fnSetAddSpec : ChangeSpec := { name := "fnSetAdd", fn := fun _ => fun
  | [d] => { results := [.lit (.bool true)], args := [d] }
  | _ => none }
def fnSetAddRow : OpenClaim := { program := "ytoppbbppmhgdiaa", sum := "f89150593a5162b0117b7f2f0808f3101e89293a8c1117cd3d204d32fa0f582b", func := "loop.example/varve/laws.FnSetAdd", spec := "fnSetAdd", unfollowed := true, recurses := true, apart := false }
def FnSetAddSaid : Prop := fnSetAddRow.holds Try.pinned (OpenSpec.ofChange fnSetAddSpec)

/-- ITS FALSE NEIGHBOUR: 'it returns false'. Refute it at one input. -/
def fnSetAddWrong : ChangeSpec := { name := "fnSetAdd", fn := fun _ => fun
  | [d] => { results := [.lit (.bool false)], args := [d] }
  | _ => none }
def FnSetAddWrongFalsely : Prop := fnSetAddRow.holds Try.pinned (OpenSpec.ofChange fnSetAddWrong)

/- THE SECOND FORM. 'bulk': how many values and letters a reading holds, each counted each time it is reached (what is shared counts as often as it is met; a slice's spare places count too). A statement '..UptoSaid' is the law's where the arguments, and the package variables that the reading takes, are together of bulk at most 1048576: NARROWER than '..Said'. Prove '..Said' where nothing that the law and all that it calls make is longer than what came in: it says more and counts as full. Else prove '..UptoSaid'. A law counts once. -/
mutual
def uptoBulk {H : Type} : DataW H → Nat
  | .lit (.string bytes) => bytes.length + 1
  | .lit _ => 1
  | .nil => 1
  | .ptr d => uptoBulk d + 1
  | .slice elems spare => uptoBulkAll elems + uptoBulkAll spare + 1
  | .agg parts => uptoBulkAll parts + 1
  | .iface _ d => uptoBulk d + 1
  | .map entries => uptoBulkEntries entries + 1
  | .held _ => 1
def uptoBulkAll {H : Type} : List (DataW H) → Nat
  | [] => 0
  | d :: r => uptoBulk d + uptoBulkAll r
def uptoBulkEntries {H : Type} : List (Lit × DataW H) → Nat
  | [] => 0
  | x :: r => uptoBulkEntry x + uptoBulkEntries r
def uptoBulkEntry {H : Type} : Lit × DataW H → Nat
  | (.string bytes, d) => bytes.length + uptoBulk d + 1
  | (_, d) => uptoBulk d + 1
 end
def uptoSmall : (H : Type) → List (DataW H) → Bool := fun _ ds => decide (uptoBulkAll ds ≤ 1048576)
def OpenSpec.upto (s : _root_.Go.ChangeSpec) : _root_.Go.OpenSpec := { _root_.Go.OpenSpec.ofChange s with cond := some uptoSmall }

/-- 'laws.FnExactRowOk', WHERE WHAT IT READS IS OF BULK AT MOST 1048576: true; the input reads as it did. -/
def fnExactRowOkUptoRow : OpenClaim := { program := "ytoppbbppmhgdiaa", sum := "f89150593a5162b0117b7f2f0808f3101e89293a8c1117cd3d204d32fa0f582b", func := "loop.example/varve/laws.FnExactRowOk", spec := "fnExactRowOk", apart := false, narrowed := true }
def FnExactRowOkUptoSaid : Prop := fnExactRowOkUptoRow.holds Try.pinned (OpenSpec.upto fnExactRowOkSpec)

/-- 'laws.FnExactRelOk', WHERE WHAT IT READS IS OF BULK AT MOST 1048576: true; the input reads as it did. -/
def fnExactRelOkUptoRow : OpenClaim := { program := "ytoppbbppmhgdiaa", sum := "f89150593a5162b0117b7f2f0808f3101e89293a8c1117cd3d204d32fa0f582b", func := "loop.example/varve/laws.FnExactRelOk", spec := "fnExactRelOk", apart := false, narrowed := true }
def FnExactRelOkUptoSaid : Prop := fnExactRelOkUptoRow.holds Try.pinned (OpenSpec.upto fnExactRelOkSpec)

/-- 'laws.FnExactRelGet', WHERE WHAT IT READS IS OF BULK AT MOST 1048576: true; the input reads as it did. -/
def fnExactRelGetUptoRow : OpenClaim := { program := "ytoppbbppmhgdiaa", sum := "f89150593a5162b0117b7f2f0808f3101e89293a8c1117cd3d204d32fa0f582b", func := "loop.example/varve/laws.FnExactRelGet", spec := "fnExactRelGet", apart := false, narrowed := true }
def FnExactRelGetUptoSaid : Prop := fnExactRelGetUptoRow.holds Try.pinned (OpenSpec.upto fnExactRelGetSpec)

/-- 'laws.FnExactRelAt', WHERE WHAT IT READS IS OF BULK AT MOST 1048576: true; the input reads as it did. -/
def fnExactRelAtUptoRow : OpenClaim := { program := "ytoppbbppmhgdiaa", sum := "f89150593a5162b0117b7f2f0808f3101e89293a8c1117cd3d204d32fa0f582b", func := "loop.example/varve/laws.FnExactRelAt", spec := "fnExactRelAt", apart := false, narrowed := true }
def FnExactRelAtUptoSaid : Prop := fnExactRelAtUptoRow.holds Try.pinned (OpenSpec.upto fnExactRelAtSpec)

/-- 'laws.FnExactRelKeys', WHERE WHAT IT READS IS OF BULK AT MOST 1048576: true; the input reads as it did. -/
def fnExactRelKeysUptoRow : OpenClaim := { program := "ytoppbbppmhgdiaa", sum := "f89150593a5162b0117b7f2f0808f3101e89293a8c1117cd3d204d32fa0f582b", func := "loop.example/varve/laws.FnExactRelKeys", spec := "fnExactRelKeys", apart := false, narrowed := true }
def FnExactRelKeysUptoSaid : Prop := fnExactRelKeysUptoRow.holds Try.pinned (OpenSpec.upto fnExactRelKeysSpec)

/-- 'laws.FnExactSetLess', WHERE WHAT IT READS IS OF BULK AT MOST 1048576: true; the input reads as it did. -/
def fnExactSetLessUptoRow : OpenClaim := { program := "ytoppbbppmhgdiaa", sum := "f89150593a5162b0117b7f2f0808f3101e89293a8c1117cd3d204d32fa0f582b", func := "loop.example/varve/laws.FnExactSetLess", spec := "fnExactSetLess", unfollowed := true, recurses := true, apart := false, narrowed := true }
def FnExactSetLessUptoSaid : Prop := fnExactSetLessUptoRow.holds Try.pinned (OpenSpec.upto fnExactSetLessSpec)

/-- 'laws.FnExactSetOf', WHERE WHAT IT READS IS OF BULK AT MOST 1048576: true; the input reads as it did. -/
def fnExactSetOfUptoRow : OpenClaim := { program := "ytoppbbppmhgdiaa", sum := "f89150593a5162b0117b7f2f0808f3101e89293a8c1117cd3d204d32fa0f582b", func := "loop.example/varve/laws.FnExactSetOf", spec := "fnExactSetOf", unfollowed := true, recurses := true, apart := false, narrowed := true }
def FnExactSetOfUptoSaid : Prop := fnExactSetOfUptoRow.holds Try.pinned (OpenSpec.upto fnExactSetOfSpec)

/-- 'laws.FnExactSetAdd', WHERE WHAT IT READS IS OF BULK AT MOST 1048576: true; the input reads as it did. -/
def fnExactSetAddUptoRow : OpenClaim := { program := "ytoppbbppmhgdiaa", sum := "f89150593a5162b0117b7f2f0808f3101e89293a8c1117cd3d204d32fa0f582b", func := "loop.example/varve/laws.FnExactSetAdd", spec := "fnExactSetAdd", unfollowed := true, recurses := true, apart := false, narrowed := true }
def FnExactSetAddUptoSaid : Prop := fnExactSetAddUptoRow.holds Try.pinned (OpenSpec.upto fnExactSetAddSpec)

/-- 'laws.FnSpanLess', WHERE WHAT IT READS IS OF BULK AT MOST 1048576: true; the input reads as it did. -/
def fnSpanLessUptoRow : OpenClaim := { program := "ytoppbbppmhgdiaa", sum := "f89150593a5162b0117b7f2f0808f3101e89293a8c1117cd3d204d32fa0f582b", func := "loop.example/varve/laws.FnSpanLess", spec := "fnSpanLess", unfollowed := true, recurses := true, apart := false, narrowed := true }
def FnSpanLessUptoSaid : Prop := fnSpanLessUptoRow.holds Try.pinned (OpenSpec.upto fnSpanLessSpec)

/-- 'laws.FnSetLess', WHERE WHAT IT READS IS OF BULK AT MOST 1048576: true; the input reads as it did. -/
def fnSetLessUptoRow : OpenClaim := { program := "ytoppbbppmhgdiaa", sum := "f89150593a5162b0117b7f2f0808f3101e89293a8c1117cd3d204d32fa0f582b", func := "loop.example/varve/laws.FnSetLess", spec := "fnSetLess", unfollowed := true, recurses := true, apart := false, narrowed := true }
def FnSetLessUptoSaid : Prop := fnSetLessUptoRow.holds Try.pinned (OpenSpec.upto fnSetLessSpec)

/-- 'laws.FnSetOf', WHERE WHAT IT READS IS OF BULK AT MOST 1048576: true; the input reads as it did. -/
def fnSetOfUptoRow : OpenClaim := { program := "ytoppbbppmhgdiaa", sum := "f89150593a5162b0117b7f2f0808f3101e89293a8c1117cd3d204d32fa0f582b", func := "loop.example/varve/laws.FnSetOf", spec := "fnSetOf", unfollowed := true, recurses := true, apart := false, narrowed := true }
def FnSetOfUptoSaid : Prop := fnSetOfUptoRow.holds Try.pinned (OpenSpec.upto fnSetOfSpec)

/-- 'laws.FnSetAdd', WHERE WHAT IT READS IS OF BULK AT MOST 1048576: true; the input reads as it did. -/
def fnSetAddUptoRow : OpenClaim := { program := "ytoppbbppmhgdiaa", sum := "f89150593a5162b0117b7f2f0808f3101e89293a8c1117cd3d204d32fa0f582b", func := "loop.example/varve/laws.FnSetAdd", spec := "fnSetAdd", unfollowed := true, recurses := true, apart := false, narrowed := true }
def FnSetAddUptoSaid : Prop := fnSetAddUptoRow.holds Try.pinned (OpenSpec.upto fnSetAddSpec)

end Rows
end Go.Proofs.Ytoppbbppmhgdiaa
