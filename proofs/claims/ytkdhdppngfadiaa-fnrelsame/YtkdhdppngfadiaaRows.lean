/-
  No cell of these rows narrows 'for every input' (looked for: loops, veiled, ifaces, maps, wideKeys, modest, calm, conditions, laid).
  DERIVED. THE GIVEN ROWS OF THIS SEAT. 12 by the template 'for every input the law returns true; each argument reads behind the call as it read before'; 0 by the template 'total and deterministic' (their statements: YtkdhdppngfadiaaTotals.lean).
  GIVEN WITH THE SEED: the statements are not yours to turn. If you find one false, say at which input.
  Laid BY PROGRAM, IN A SANDBOX (cutbox-rows.mjs): the forced cells as the released guide's own fill.sh prints them over the translation 38b47d174effac1b… (all of the seat's roots in one cut). By AI agents, Wed Nov 11 2026. No macro, syntax, notation, axiom, sorry.
-/
import Derived.Test.YtkdhdppngfadiaaChecked
import GoSem.Claim
import GoSem.ClaimJoined
import GoSem.ClaimMapViews
import Derived.JoinedTies
import Derived.KernelRfl
namespace Go.Proofs.Ytkdhdppngfadiaa
/- THE CELL 'sum', in the pinned program and in every row, IS THE sha256 OF THE DUMP (.gsa) THAT YtkdhdppngfadiaaProg.lean LOADS. Nothing in Lean hashes anything: it is a label: what it is worth is what the hold of that sum in a sandbox is worth. -/
noncomputable def Try.pinned : Pinned := { name := "ytkdhdppngfadiaa", sum := "38b47d174effac1b06801ca86e80807683ac89f4d7d05a4c57aaaac09099e462", checked := Try.checked }
namespace Rows
def none {H : Type} : Left H := { results := [], args := [] }

/-- 'laws.FnExactRelAt': WHATEVER THE INPUT: true; the input reads as it did. -/
def fnExactRelAtSpec : ChangeSpec := { name := "fnExactRelAt", fn := fun _ => fun
  | [d1, d2] => { results := [.lit (.bool true)], args := [d1, d2] }
  | _ => none }
def fnExactRelAtRow : OpenClaim := { program := "ytkdhdppngfadiaa", sum := "38b47d174effac1b06801ca86e80807683ac89f4d7d05a4c57aaaac09099e462", func := "loop.example/varve/laws.FnExactRelAt", spec := "fnExactRelAt", apart := false }
def FnExactRelAtSaid : Prop := fnExactRelAtRow.holds Try.pinned (OpenSpec.ofChange fnExactRelAtSpec)

/-- ITS FALSE NEIGHBOUR: 'it returns false'. Refute it at one input. -/
def fnExactRelAtWrong : ChangeSpec := { name := "fnExactRelAt", fn := fun _ => fun
  | [d1, d2] => { results := [.lit (.bool false)], args := [d1, d2] }
  | _ => none }
def FnExactRelAtWrongFalsely : Prop := fnExactRelAtRow.holds Try.pinned (OpenSpec.ofChange fnExactRelAtWrong)

/-- 'laws.FnExactRelGet': WHATEVER THE INPUT: true; the input reads as it did. -/
def fnExactRelGetSpec : ChangeSpec := { name := "fnExactRelGet", fn := fun _ => fun
  | [d1, d2, d3] => { results := [.lit (.bool true)], args := [d1, d2, d3] }
  | _ => none }
def fnExactRelGetRow : OpenClaim := { program := "ytkdhdppngfadiaa", sum := "38b47d174effac1b06801ca86e80807683ac89f4d7d05a4c57aaaac09099e462", func := "loop.example/varve/laws.FnExactRelGet", spec := "fnExactRelGet", apart := false }
def FnExactRelGetSaid : Prop := fnExactRelGetRow.holds Try.pinned (OpenSpec.ofChange fnExactRelGetSpec)

/-- ITS FALSE NEIGHBOUR: 'it returns false'. Refute it at one input. -/
def fnExactRelGetWrong : ChangeSpec := { name := "fnExactRelGet", fn := fun _ => fun
  | [d1, d2, d3] => { results := [.lit (.bool false)], args := [d1, d2, d3] }
  | _ => none }
def FnExactRelGetWrongFalsely : Prop := fnExactRelGetRow.holds Try.pinned (OpenSpec.ofChange fnExactRelGetWrong)

/-- 'laws.FnExactSetAdd': WHATEVER THE INPUT: true; the input reads as it did. -/
def fnExactSetAddSpec : ChangeSpec := { name := "fnExactSetAdd", fn := fun _ => fun
  | [d1, d2] => { results := [.lit (.bool true)], args := [d1, d2] }
  | _ => none }
def fnExactSetAddRow : OpenClaim := { program := "ytkdhdppngfadiaa", sum := "38b47d174effac1b06801ca86e80807683ac89f4d7d05a4c57aaaac09099e462", func := "loop.example/varve/laws.FnExactSetAdd", spec := "fnExactSetAdd", unfollowed := true, recurses := true, apart := false }
def FnExactSetAddSaid : Prop := fnExactSetAddRow.holds Try.pinned (OpenSpec.ofChange fnExactSetAddSpec)

/-- ITS FALSE NEIGHBOUR: 'it returns false'. Refute it at one input. -/
def fnExactSetAddWrong : ChangeSpec := { name := "fnExactSetAdd", fn := fun _ => fun
  | [d1, d2] => { results := [.lit (.bool false)], args := [d1, d2] }
  | _ => none }
def FnExactSetAddWrongFalsely : Prop := fnExactSetAddRow.holds Try.pinned (OpenSpec.ofChange fnExactSetAddWrong)

/-- 'laws.FnExactRelOf': WHATEVER THE INPUT: true; the input reads as it did. -/
def fnExactRelOfSpec : ChangeSpec := { name := "fnExactRelOf", fn := fun _ => fun
  | [d] => { results := [.lit (.bool true)], args := [d] }
  | _ => none }
def fnExactRelOfRow : OpenClaim := { program := "ytkdhdppngfadiaa", sum := "38b47d174effac1b06801ca86e80807683ac89f4d7d05a4c57aaaac09099e462", func := "loop.example/varve/laws.FnExactRelOf", spec := "fnExactRelOf", unfollowed := true, recurses := true, apart := false }
def FnExactRelOfSaid : Prop := fnExactRelOfRow.holds Try.pinned (OpenSpec.ofChange fnExactRelOfSpec)

/-- ITS FALSE NEIGHBOUR: 'it returns false'. Refute it at one input. -/
def fnExactRelOfWrong : ChangeSpec := { name := "fnExactRelOf", fn := fun _ => fun
  | [d] => { results := [.lit (.bool false)], args := [d] }
  | _ => none }
def FnExactRelOfWrongFalsely : Prop := fnExactRelOfRow.holds Try.pinned (OpenSpec.ofChange fnExactRelOfWrong)

/-- 'laws.FnExactRelPick': WHATEVER THE INPUT: true; the input reads as it did. -/
def fnExactRelPickSpec : ChangeSpec := { name := "fnExactRelPick", fn := fun _ => fun
  | [d1, d2] => { results := [.lit (.bool true)], args := [d1, d2] }
  | _ => none }
def fnExactRelPickRow : OpenClaim := { program := "ytkdhdppngfadiaa", sum := "38b47d174effac1b06801ca86e80807683ac89f4d7d05a4c57aaaac09099e462", func := "loop.example/varve/laws.FnExactRelPick", spec := "fnExactRelPick", unfollowed := true, recurses := true, apart := false }
def FnExactRelPickSaid : Prop := fnExactRelPickRow.holds Try.pinned (OpenSpec.ofChange fnExactRelPickSpec)

/-- ITS FALSE NEIGHBOUR: 'it returns false'. Refute it at one input. -/
def fnExactRelPickWrong : ChangeSpec := { name := "fnExactRelPick", fn := fun _ => fun
  | [d1, d2] => { results := [.lit (.bool false)], args := [d1, d2] }
  | _ => none }
def FnExactRelPickWrongFalsely : Prop := fnExactRelPickRow.holds Try.pinned (OpenSpec.ofChange fnExactRelPickWrong)

/-- 'laws.FnSetAdd': WHATEVER THE INPUT: true; the input reads as it did. -/
def fnSetAddSpec : ChangeSpec := { name := "fnSetAdd", fn := fun _ => fun
  | [d] => { results := [.lit (.bool true)], args := [d] }
  | _ => none }
def fnSetAddRow : OpenClaim := { program := "ytkdhdppngfadiaa", sum := "38b47d174effac1b06801ca86e80807683ac89f4d7d05a4c57aaaac09099e462", func := "loop.example/varve/laws.FnSetAdd", spec := "fnSetAdd", unfollowed := true, recurses := true, apart := false }
def FnSetAddSaid : Prop := fnSetAddRow.holds Try.pinned (OpenSpec.ofChange fnSetAddSpec)

/-- ITS FALSE NEIGHBOUR: 'it returns false'. Refute it at one input. -/
def fnSetAddWrong : ChangeSpec := { name := "fnSetAdd", fn := fun _ => fun
  | [d] => { results := [.lit (.bool false)], args := [d] }
  | _ => none }
def FnSetAddWrongFalsely : Prop := fnSetAddRow.holds Try.pinned (OpenSpec.ofChange fnSetAddWrong)

/-- 'laws.FnRelGet': WHATEVER THE INPUT: true; the input reads as it did. -/
def fnRelGetSpec : ChangeSpec := { name := "fnRelGet", fn := fun _ => fun
  | [d] => { results := [.lit (.bool true)], args := [d] }
  | _ => none }
def fnRelGetRow : OpenClaim := { program := "ytkdhdppngfadiaa", sum := "38b47d174effac1b06801ca86e80807683ac89f4d7d05a4c57aaaac09099e462", func := "loop.example/varve/laws.FnRelGet", spec := "fnRelGet", unfollowed := true, recurses := true, apart := false }
def FnRelGetSaid : Prop := fnRelGetRow.holds Try.pinned (OpenSpec.ofChange fnRelGetSpec)

/-- ITS FALSE NEIGHBOUR: 'it returns false'. Refute it at one input. -/
def fnRelGetWrong : ChangeSpec := { name := "fnRelGet", fn := fun _ => fun
  | [d] => { results := [.lit (.bool false)], args := [d] }
  | _ => none }
def FnRelGetWrongFalsely : Prop := fnRelGetRow.holds Try.pinned (OpenSpec.ofChange fnRelGetWrong)

/-- 'laws.FnRelAt': WHATEVER THE INPUT: true; the input reads as it did. -/
def fnRelAtSpec : ChangeSpec := { name := "fnRelAt", fn := fun _ => fun
  | [d] => { results := [.lit (.bool true)], args := [d] }
  | _ => none }
def fnRelAtRow : OpenClaim := { program := "ytkdhdppngfadiaa", sum := "38b47d174effac1b06801ca86e80807683ac89f4d7d05a4c57aaaac09099e462", func := "loop.example/varve/laws.FnRelAt", spec := "fnRelAt", apart := false }
def FnRelAtSaid : Prop := fnRelAtRow.holds Try.pinned (OpenSpec.ofChange fnRelAtSpec)

/-- ITS FALSE NEIGHBOUR: 'it returns false'. Refute it at one input. -/
def fnRelAtWrong : ChangeSpec := { name := "fnRelAt", fn := fun _ => fun
  | [d] => { results := [.lit (.bool false)], args := [d] }
  | _ => none }
def FnRelAtWrongFalsely : Prop := fnRelAtRow.holds Try.pinned (OpenSpec.ofChange fnRelAtWrong)

/-- 'laws.FnRelSpans': WHATEVER THE INPUT: true; the input reads as it did. -/
def fnRelSpansSpec : ChangeSpec := { name := "fnRelSpans", fn := fun _ => fun
  | [d] => { results := [.lit (.bool true)], args := [d] }
  | _ => none }
def fnRelSpansRow : OpenClaim := { program := "ytkdhdppngfadiaa", sum := "38b47d174effac1b06801ca86e80807683ac89f4d7d05a4c57aaaac09099e462", func := "loop.example/varve/laws.FnRelSpans", spec := "fnRelSpans", unfollowed := true, recurses := true, apart := false }
def FnRelSpansSaid : Prop := fnRelSpansRow.holds Try.pinned (OpenSpec.ofChange fnRelSpansSpec)

/-- ITS FALSE NEIGHBOUR: 'it returns false'. Refute it at one input. -/
def fnRelSpansWrong : ChangeSpec := { name := "fnRelSpans", fn := fun _ => fun
  | [d] => { results := [.lit (.bool false)], args := [d] }
  | _ => none }
def FnRelSpansWrongFalsely : Prop := fnRelSpansRow.holds Try.pinned (OpenSpec.ofChange fnRelSpansWrong)

/-- 'laws.FnRelKeys': WHATEVER THE INPUT: true; the input reads as it did. -/
def fnRelKeysSpec : ChangeSpec := { name := "fnRelKeys", fn := fun _ => fun
  | [d] => { results := [.lit (.bool true)], args := [d] }
  | _ => none }
def fnRelKeysRow : OpenClaim := { program := "ytkdhdppngfadiaa", sum := "38b47d174effac1b06801ca86e80807683ac89f4d7d05a4c57aaaac09099e462", func := "loop.example/varve/laws.FnRelKeys", spec := "fnRelKeys", apart := false }
def FnRelKeysSaid : Prop := fnRelKeysRow.holds Try.pinned (OpenSpec.ofChange fnRelKeysSpec)

/-- ITS FALSE NEIGHBOUR: 'it returns false'. Refute it at one input. -/
def fnRelKeysWrong : ChangeSpec := { name := "fnRelKeys", fn := fun _ => fun
  | [d] => { results := [.lit (.bool false)], args := [d] }
  | _ => none }
def FnRelKeysWrongFalsely : Prop := fnRelKeysRow.holds Try.pinned (OpenSpec.ofChange fnRelKeysWrong)

/-- 'laws.FnRelSame': WHATEVER THE INPUT: true; the input reads as it did. -/
def fnRelSameSpec : ChangeSpec := { name := "fnRelSame", fn := fun _ => fun
  | [d] => { results := [.lit (.bool true)], args := [d] }
  | _ => none }
def fnRelSameRow : OpenClaim := { program := "ytkdhdppngfadiaa", sum := "38b47d174effac1b06801ca86e80807683ac89f4d7d05a4c57aaaac09099e462", func := "loop.example/varve/laws.FnRelSame", spec := "fnRelSame", apart := false }
def FnRelSameSaid : Prop := fnRelSameRow.holds Try.pinned (OpenSpec.ofChange fnRelSameSpec)

/-- ITS FALSE NEIGHBOUR: 'it returns false'. Refute it at one input. -/
def fnRelSameWrong : ChangeSpec := { name := "fnRelSame", fn := fun _ => fun
  | [d] => { results := [.lit (.bool false)], args := [d] }
  | _ => none }
def FnRelSameWrongFalsely : Prop := fnRelSameRow.holds Try.pinned (OpenSpec.ofChange fnRelSameWrong)

/-- 'laws.FnRelOf': WHATEVER THE INPUT: true; the input reads as it did. -/
def fnRelOfSpec : ChangeSpec := { name := "fnRelOf", fn := fun _ => fun
  | [d] => { results := [.lit (.bool true)], args := [d] }
  | _ => none }
def fnRelOfRow : OpenClaim := { program := "ytkdhdppngfadiaa", sum := "38b47d174effac1b06801ca86e80807683ac89f4d7d05a4c57aaaac09099e462", func := "loop.example/varve/laws.FnRelOf", spec := "fnRelOf", unfollowed := true, recurses := true, apart := false }
def FnRelOfSaid : Prop := fnRelOfRow.holds Try.pinned (OpenSpec.ofChange fnRelOfSpec)

/-- ITS FALSE NEIGHBOUR: 'it returns false'. Refute it at one input. -/
def fnRelOfWrong : ChangeSpec := { name := "fnRelOf", fn := fun _ => fun
  | [d] => { results := [.lit (.bool false)], args := [d] }
  | _ => none }
def FnRelOfWrongFalsely : Prop := fnRelOfRow.holds Try.pinned (OpenSpec.ofChange fnRelOfWrong)

/- THE SECOND FORM. 'bulk': how many values and letters a reading holds, each counted each time it is reached (what is shared counts as often as it is met; a slice's spare places count too). A statement '..UptoSaid' is the law's where the arguments, and the package variables that the reading takes, are together of bulk at most 1048576: NARROWER than '..Said'. Prove '..Said' where nothing that the law and all that it calls make is longer than what came in: it says more and counts as full. Else prove '..UptoSaid'. A law counts once. -/
mutual
def uptoBulk {H : Type} : DataW H → Nat
  | .lit (.string bytes) => bytes.length + 1
  | .lit _ => 1
  | .nil => 1
  | .ptr d => uptoBulk d + 1
  | .slice elems spare => uptoBulkAll elems + uptoBulkAll spare + 1
  | .agg parts => uptoBulkAll parts + 1
  | .iface _ d => uptoBulk d + 1
  | .map entries => uptoBulkEntries entries + 1
  | .held _ => 1
def uptoBulkAll {H : Type} : List (DataW H) → Nat
  | [] => 0
  | d :: r => uptoBulk d + uptoBulkAll r
def uptoBulkEntries {H : Type} : List (Lit × DataW H) → Nat
  | [] => 0
  | x :: r => uptoBulkEntry x + uptoBulkEntries r
def uptoBulkEntry {H : Type} : Lit × DataW H → Nat
  | (.string bytes, d) => bytes.length + uptoBulk d + 1
  | (_, d) => uptoBulk d + 1
 end
def uptoSmall : (H : Type) → List (DataW H) → Bool := fun _ ds => decide (uptoBulkAll ds ≤ 1048576)
def OpenSpec.upto (s : _root_.Go.ChangeSpec) : _root_.Go.OpenSpec := { _root_.Go.OpenSpec.ofChange s with cond := some uptoSmall }

/-- 'laws.FnExactRelAt', WHERE WHAT IT READS IS OF BULK AT MOST 1048576: true; the input reads as it did. -/
def fnExactRelAtUptoRow : OpenClaim := { program := "ytkdhdppngfadiaa", sum := "38b47d174effac1b06801ca86e80807683ac89f4d7d05a4c57aaaac09099e462", func := "loop.example/varve/laws.FnExactRelAt", spec := "fnExactRelAt", apart := false, narrowed := true }
def FnExactRelAtUptoSaid : Prop := fnExactRelAtUptoRow.holds Try.pinned (OpenSpec.upto fnExactRelAtSpec)

/-- 'laws.FnExactRelGet', WHERE WHAT IT READS IS OF BULK AT MOST 1048576: true; the input reads as it did. -/
def fnExactRelGetUptoRow : OpenClaim := { program := "ytkdhdppngfadiaa", sum := "38b47d174effac1b06801ca86e80807683ac89f4d7d05a4c57aaaac09099e462", func := "loop.example/varve/laws.FnExactRelGet", spec := "fnExactRelGet", apart := false, narrowed := true }
def FnExactRelGetUptoSaid : Prop := fnExactRelGetUptoRow.holds Try.pinned (OpenSpec.upto fnExactRelGetSpec)

/-- 'laws.FnExactSetAdd', WHERE WHAT IT READS IS OF BULK AT MOST 1048576: true; the input reads as it did. -/
def fnExactSetAddUptoRow : OpenClaim := { program := "ytkdhdppngfadiaa", sum := "38b47d174effac1b06801ca86e80807683ac89f4d7d05a4c57aaaac09099e462", func := "loop.example/varve/laws.FnExactSetAdd", spec := "fnExactSetAdd", unfollowed := true, recurses := true, apart := false, narrowed := true }
def FnExactSetAddUptoSaid : Prop := fnExactSetAddUptoRow.holds Try.pinned (OpenSpec.upto fnExactSetAddSpec)

/-- 'laws.FnExactRelOf', WHERE WHAT IT READS IS OF BULK AT MOST 1048576: true; the input reads as it did. -/
def fnExactRelOfUptoRow : OpenClaim := { program := "ytkdhdppngfadiaa", sum := "38b47d174effac1b06801ca86e80807683ac89f4d7d05a4c57aaaac09099e462", func := "loop.example/varve/laws.FnExactRelOf", spec := "fnExactRelOf", unfollowed := true, recurses := true, apart := false, narrowed := true }
def FnExactRelOfUptoSaid : Prop := fnExactRelOfUptoRow.holds Try.pinned (OpenSpec.upto fnExactRelOfSpec)

/-- 'laws.FnExactRelPick', WHERE WHAT IT READS IS OF BULK AT MOST 1048576: true; the input reads as it did. -/
def fnExactRelPickUptoRow : OpenClaim := { program := "ytkdhdppngfadiaa", sum := "38b47d174effac1b06801ca86e80807683ac89f4d7d05a4c57aaaac09099e462", func := "loop.example/varve/laws.FnExactRelPick", spec := "fnExactRelPick", unfollowed := true, recurses := true, apart := false, narrowed := true }
def FnExactRelPickUptoSaid : Prop := fnExactRelPickUptoRow.holds Try.pinned (OpenSpec.upto fnExactRelPickSpec)

/-- 'laws.FnSetAdd', WHERE WHAT IT READS IS OF BULK AT MOST 1048576: true; the input reads as it did. -/
def fnSetAddUptoRow : OpenClaim := { program := "ytkdhdppngfadiaa", sum := "38b47d174effac1b06801ca86e80807683ac89f4d7d05a4c57aaaac09099e462", func := "loop.example/varve/laws.FnSetAdd", spec := "fnSetAdd", unfollowed := true, recurses := true, apart := false, narrowed := true }
def FnSetAddUptoSaid : Prop := fnSetAddUptoRow.holds Try.pinned (OpenSpec.upto fnSetAddSpec)

/-- 'laws.FnRelGet', WHERE WHAT IT READS IS OF BULK AT MOST 1048576: true; the input reads as it did. -/
def fnRelGetUptoRow : OpenClaim := { program := "ytkdhdppngfadiaa", sum := "38b47d174effac1b06801ca86e80807683ac89f4d7d05a4c57aaaac09099e462", func := "loop.example/varve/laws.FnRelGet", spec := "fnRelGet", unfollowed := true, recurses := true, apart := false, narrowed := true }
def FnRelGetUptoSaid : Prop := fnRelGetUptoRow.holds Try.pinned (OpenSpec.upto fnRelGetSpec)

/-- 'laws.FnRelAt', WHERE WHAT IT READS IS OF BULK AT MOST 1048576: true; the input reads as it did. -/
def fnRelAtUptoRow : OpenClaim := { program := "ytkdhdppngfadiaa", sum := "38b47d174effac1b06801ca86e80807683ac89f4d7d05a4c57aaaac09099e462", func := "loop.example/varve/laws.FnRelAt", spec := "fnRelAt", apart := false, narrowed := true }
def FnRelAtUptoSaid : Prop := fnRelAtUptoRow.holds Try.pinned (OpenSpec.upto fnRelAtSpec)

/-- 'laws.FnRelSpans', WHERE WHAT IT READS IS OF BULK AT MOST 1048576: true; the input reads as it did. -/
def fnRelSpansUptoRow : OpenClaim := { program := "ytkdhdppngfadiaa", sum := "38b47d174effac1b06801ca86e80807683ac89f4d7d05a4c57aaaac09099e462", func := "loop.example/varve/laws.FnRelSpans", spec := "fnRelSpans", unfollowed := true, recurses := true, apart := false, narrowed := true }
def FnRelSpansUptoSaid : Prop := fnRelSpansUptoRow.holds Try.pinned (OpenSpec.upto fnRelSpansSpec)

/-- 'laws.FnRelKeys', WHERE WHAT IT READS IS OF BULK AT MOST 1048576: true; the input reads as it did. -/
def fnRelKeysUptoRow : OpenClaim := { program := "ytkdhdppngfadiaa", sum := "38b47d174effac1b06801ca86e80807683ac89f4d7d05a4c57aaaac09099e462", func := "loop.example/varve/laws.FnRelKeys", spec := "fnRelKeys", apart := false, narrowed := true }
def FnRelKeysUptoSaid : Prop := fnRelKeysUptoRow.holds Try.pinned (OpenSpec.upto fnRelKeysSpec)

/-- 'laws.FnRelSame', WHERE WHAT IT READS IS OF BULK AT MOST 1048576: true; the input reads as it did. -/
def fnRelSameUptoRow : OpenClaim := { program := "ytkdhdppngfadiaa", sum := "38b47d174effac1b06801ca86e80807683ac89f4d7d05a4c57aaaac09099e462", func := "loop.example/varve/laws.FnRelSame", spec := "fnRelSame", apart := false, narrowed := true }
def FnRelSameUptoSaid : Prop := fnRelSameUptoRow.holds Try.pinned (OpenSpec.upto fnRelSameSpec)

/-- 'laws.FnRelOf', WHERE WHAT IT READS IS OF BULK AT MOST 1048576: true; the input reads as it did. -/
def fnRelOfUptoRow : OpenClaim := { program := "ytkdhdppngfadiaa", sum := "38b47d174effac1b06801ca86e80807683ac89f4d7d05a4c57aaaac09099e462", func := "loop.example/varve/laws.FnRelOf", spec := "fnRelOf", unfollowed := true, recurses := true, apart := false, narrowed := true }
def FnRelOfUptoSaid : Prop := fnRelOfUptoRow.holds Try.pinned (OpenSpec.upto fnRelOfSpec)

end Rows
end Go.Proofs.Ytkdhdppngfadiaa
