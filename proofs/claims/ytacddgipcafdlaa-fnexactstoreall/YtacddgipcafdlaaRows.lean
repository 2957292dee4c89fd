/-
  No cell of these rows narrows 'for every input' (looked for: loops, veiled, ifaces, maps, wideKeys, modest, calm, conditions, laid).
  DERIVED. THE GIVEN ROWS OF THIS SEAT. 12 by the template 'for every input the law returns true; each argument reads behind the call as it read before'; 0 by the template 'total and deterministic' (their statements: YtacddgipcafdlaaTotals.lean).
  GIVEN WITH THE SEED: the statements are not yours to turn. If you find one false, say at which input.
  Laid BY PROGRAM, IN A SANDBOX (cutbox-rows.mjs): the forced cells as the released guide's own fill.sh prints them over the translation ec039d831543e789… (all of the seat's roots in one cut). By AI agents, Wed Nov 11 2026. No macro, syntax, notation, axiom, sorry.
-/
import Derived.Test.YtacddgipcafdlaaChecked
import GoSem.Claim
import GoSem.ClaimJoined
import GoSem.ClaimMapViews
import Derived.JoinedTies
import Derived.KernelRfl
namespace Go.Proofs.Ytacddgipcafdlaa
/- THE CELL 'sum', in the pinned program and in every row, IS THE sha256 OF THE DUMP (.gsa) THAT YtacddgipcafdlaaProg.lean LOADS. Nothing in Lean hashes anything: it is a label: what it is worth is what the hold of that sum in a sandbox is worth. -/
noncomputable def Try.pinned : Pinned := { name := "ytacddgipcafdlaa", sum := "ec039d831543e789ba13557808216be88dd58574273df5e90ccca29c980875f2", checked := Try.checked }
namespace Rows
def none {H : Type} : Left H := { results := [], args := [] }

/-- 'laws.FnExactStoreAll': WHATEVER THE INPUT: true; the input reads as it did. -/
def fnExactStoreAllSpec : ChangeSpec := { name := "fnExactStoreAll", fn := fun _ => fun
  | [d] => { results := [.lit (.bool true)], args := [d] }
  | _ => none }
def fnExactStoreAllRow : OpenClaim := { program := "ytacddgipcafdlaa", sum := "ec039d831543e789ba13557808216be88dd58574273df5e90ccca29c980875f2", func := "loop.example/varve/laws.FnExactStoreAll", spec := "fnExactStoreAll", unfollowed := true, recurses := true, apart := false }
def FnExactStoreAllSaid : Prop := fnExactStoreAllRow.holds Try.pinned (OpenSpec.ofChange fnExactStoreAllSpec)

/-- ITS FALSE NEIGHBOUR: 'it returns false'. Refute it at one input. -/
def fnExactStoreAllWrong : ChangeSpec := { name := "fnExactStoreAll", fn := fun _ => fun
  | [d] => { results := [.lit (.bool false)], args := [d] }
  | _ => none }
def FnExactStoreAllWrongFalsely : Prop := fnExactStoreAllRow.holds Try.pinned (OpenSpec.ofChange fnExactStoreAllWrong)

/-- 'laws.FnExactStoreBack': WHATEVER THE INPUT: true; the input reads as it did. -/
def fnExactStoreBackSpec : ChangeSpec := { name := "fnExactStoreBack", fn := fun _ => fun
  | [d1, d2] => { results := [.lit (.bool true)], args := [d1, d2] }
  | _ => none }
def fnExactStoreBackRow : OpenClaim := { program := "ytacddgipcafdlaa", sum := "ec039d831543e789ba13557808216be88dd58574273df5e90ccca29c980875f2", func := "loop.example/varve/laws.FnExactStoreBack", spec := "fnExactStoreBack", unfollowed := true, recurses := true, apart := false }
def FnExactStoreBackSaid : Prop := fnExactStoreBackRow.holds Try.pinned (OpenSpec.ofChange fnExactStoreBackSpec)

/-- ITS FALSE NEIGHBOUR: 'it returns false'. Refute it at one input. -/
def fnExactStoreBackWrong : ChangeSpec := { name := "fnExactStoreBack", fn := fun _ => fun
  | [d1, d2] => { results := [.lit (.bool false)], args := [d1, d2] }
  | _ => none }
def FnExactStoreBackWrongFalsely : Prop := fnExactStoreBackRow.holds Try.pinned (OpenSpec.ofChange fnExactStoreBackWrong)

/-- 'laws.FnExactStorePrune': WHATEVER THE INPUT: true; the input reads as it did. -/
def fnExactStorePruneSpec : ChangeSpec := { name := "fnExactStorePrune", fn := fun _ => fun
  | [d1, d2] => { results := [.lit (.bool true)], args := [d1, d2] }
  | _ => none }
def fnExactStorePruneRow : OpenClaim := { program := "ytacddgipcafdlaa", sum := "ec039d831543e789ba13557808216be88dd58574273df5e90ccca29c980875f2", func := "loop.example/varve/laws.FnExactStorePrune", spec := "fnExactStorePrune", unfollowed := true, recurses := true, apart := false }
def FnExactStorePruneSaid : Prop := fnExactStorePruneRow.holds Try.pinned (OpenSpec.ofChange fnExactStorePruneSpec)

/-- ITS FALSE NEIGHBOUR: 'it returns false'. Refute it at one input. -/
def fnExactStorePruneWrong : ChangeSpec := { name := "fnExactStorePrune", fn := fun _ => fun
  | [d1, d2] => { results := [.lit (.bool false)], args := [d1, d2] }
  | _ => none }
def FnExactStorePruneWrongFalsely : Prop := fnExactStorePruneRow.holds Try.pinned (OpenSpec.ofChange fnExactStorePruneWrong)

/-- 'laws.FnExactStoreMany': WHATEVER THE INPUT: true; the input reads as it did. -/
def fnExactStoreManySpec : ChangeSpec := { name := "fnExactStoreMany", fn := fun _ => fun
  | [d] => { results := [.lit (.bool true)], args := [d] }
  | _ => none }
def fnExactStoreManyRow : OpenClaim := { program := "ytacddgipcafdlaa", sum := "ec039d831543e789ba13557808216be88dd58574273df5e90ccca29c980875f2", func := "loop.example/varve/laws.FnExactStoreMany", spec := "fnExactStoreMany", unfollowed := true, recurses := true, apart := false }
def FnExactStoreManySaid : Prop := fnExactStoreManyRow.holds Try.pinned (OpenSpec.ofChange fnExactStoreManySpec)

/-- ITS FALSE NEIGHBOUR: 'it returns false'. Refute it at one input. -/
def fnExactStoreManyWrong : ChangeSpec := { name := "fnExactStoreMany", fn := fun _ => fun
  | [d] => { results := [.lit (.bool false)], args := [d] }
  | _ => none }
def FnExactStoreManyWrongFalsely : Prop := fnExactStoreManyRow.holds Try.pinned (OpenSpec.ofChange fnExactStoreManyWrong)

/-- 'laws.FnExactTraceOf': WHATEVER THE INPUT: true; the input reads as it did. -/
def fnExactTraceOfSpec : ChangeSpec := { name := "fnExactTraceOf", fn := fun _ => fun
  | [d1, d2, d3] => { results := [.lit (.bool true)], args := [d1, d2, d3] }
  | _ => none }
def fnExactTraceOfRow : OpenClaim := { program := "ytacddgipcafdlaa", sum := "ec039d831543e789ba13557808216be88dd58574273df5e90ccca29c980875f2", func := "loop.example/varve/laws.FnExactTraceOf", spec := "fnExactTraceOf", unfollowed := true, recurses := true, apart := false }
def FnExactTraceOfSaid : Prop := fnExactTraceOfRow.holds Try.pinned (OpenSpec.ofChange fnExactTraceOfSpec)

/-- ITS FALSE NEIGHBOUR: 'it returns false'. Refute it at one input. -/
def fnExactTraceOfWrong : ChangeSpec := { name := "fnExactTraceOf", fn := fun _ => fun
  | [d1, d2, d3] => { results := [.lit (.bool false)], args := [d1, d2, d3] }
  | _ => none }
def FnExactTraceOfWrongFalsely : Prop := fnExactTraceOfRow.holds Try.pinned (OpenSpec.ofChange fnExactTraceOfWrong)

/-- 'laws.FnStoreLast': WHATEVER THE INPUT: true; the input reads as it did. -/
def fnStoreLastSpec : ChangeSpec := { name := "fnStoreLast", fn := fun _ => fun
  | [d] => { results := [.lit (.bool true)], args := [d] }
  | _ => none }
def fnStoreLastRow : OpenClaim := { program := "ytacddgipcafdlaa", sum := "ec039d831543e789ba13557808216be88dd58574273df5e90ccca29c980875f2", func := "loop.example/varve/laws.FnStoreLast", spec := "fnStoreLast", unfollowed := true, recurses := true, apart := false }
def FnStoreLastSaid : Prop := fnStoreLastRow.holds Try.pinned (OpenSpec.ofChange fnStoreLastSpec)

/-- ITS FALSE NEIGHBOUR: 'it returns false'. Refute it at one input. -/
def fnStoreLastWrong : ChangeSpec := { name := "fnStoreLast", fn := fun _ => fun
  | [d] => { results := [.lit (.bool false)], args := [d] }
  | _ => none }
def FnStoreLastWrongFalsely : Prop := fnStoreLastRow.holds Try.pinned (OpenSpec.ofChange fnStoreLastWrong)

/-- 'laws.FnStoreSet': WHATEVER THE INPUT: true; the input reads as it did. -/
def fnStoreSetSpec : ChangeSpec := { name := "fnStoreSet", fn := fun _ => fun
  | [d] => { results := [.lit (.bool true)], args := [d] }
  | _ => none }
def fnStoreSetRow : OpenClaim := { program := "ytacddgipcafdlaa", sum := "ec039d831543e789ba13557808216be88dd58574273df5e90ccca29c980875f2", func := "loop.example/varve/laws.FnStoreSet", spec := "fnStoreSet", unfollowed := true, recurses := true, apart := false }
def FnStoreSetSaid : Prop := fnStoreSetRow.holds Try.pinned (OpenSpec.ofChange fnStoreSetSpec)

/-- ITS FALSE NEIGHBOUR: 'it returns false'. Refute it at one input. -/
def fnStoreSetWrong : ChangeSpec := { name := "fnStoreSet", fn := fun _ => fun
  | [d] => { results := [.lit (.bool false)], args := [d] }
  | _ => none }
def FnStoreSetWrongFalsely : Prop := fnStoreSetRow.holds Try.pinned (OpenSpec.ofChange fnStoreSetWrong)

/-- 'laws.FnStoreAt': WHATEVER THE INPUT: true; the input reads as it did. -/
def fnStoreAtSpec : ChangeSpec := { name := "fnStoreAt", fn := fun _ => fun
  | [d] => { results := [.lit (.bool true)], args := [d] }
  | _ => none }
def fnStoreAtRow : OpenClaim := { program := "ytacddgipcafdlaa", sum := "ec039d831543e789ba13557808216be88dd58574273df5e90ccca29c980875f2", func := "loop.example/varve/laws.FnStoreAt", spec := "fnStoreAt", unfollowed := true, recurses := true, apart := false }
def FnStoreAtSaid : Prop := fnStoreAtRow.holds Try.pinned (OpenSpec.ofChange fnStoreAtSpec)

/-- ITS FALSE NEIGHBOUR: 'it returns false'. Refute it at one input. -/
def fnStoreAtWrong : ChangeSpec := { name := "fnStoreAt", fn := fun _ => fun
  | [d] => { results := [.lit (.bool false)], args := [d] }
  | _ => none }
def FnStoreAtWrongFalsely : Prop := fnStoreAtRow.holds Try.pinned (OpenSpec.ofChange fnStoreAtWrong)

/-- 'laws.FnStoreAll': WHATEVER THE INPUT: true; the input reads as it did. -/
def fnStoreAllSpec : ChangeSpec := { name := "fnStoreAll", fn := fun _ => fun
  | [d] => { results := [.lit (.bool true)], args := [d] }
  | _ => none }
def fnStoreAllRow : OpenClaim := { program := "ytacddgipcafdlaa", sum := "ec039d831543e789ba13557808216be88dd58574273df5e90ccca29c980875f2", func := "loop.example/varve/laws.FnStoreAll", spec := "fnStoreAll", unfollowed := true, recurses := true, apart := false }
def FnStoreAllSaid : Prop := fnStoreAllRow.holds Try.pinned (OpenSpec.ofChange fnStoreAllSpec)

/-- ITS FALSE NEIGHBOUR: 'it returns false'. Refute it at one input. -/
def fnStoreAllWrong : ChangeSpec := { name := "fnStoreAll", fn := fun _ => fun
  | [d] => { results := [.lit (.bool false)], args := [d] }
  | _ => none }
def FnStoreAllWrongFalsely : Prop := fnStoreAllRow.holds Try.pinned (OpenSpec.ofChange fnStoreAllWrong)

/-- 'laws.FnStoreBack': WHATEVER THE INPUT: true; the input reads as it did. -/
def fnStoreBackSpec : ChangeSpec := { name := "fnStoreBack", fn := fun _ => fun
  | [d] => { results := [.lit (.bool true)], args := [d] }
  | _ => none }
def fnStoreBackRow : OpenClaim := { program := "ytacddgipcafdlaa", sum := "ec039d831543e789ba13557808216be88dd58574273df5e90ccca29c980875f2", func := "loop.example/varve/laws.FnStoreBack", spec := "fnStoreBack", unfollowed := true, recurses := true, apart := false }
def FnStoreBackSaid : Prop := fnStoreBackRow.holds Try.pinned (OpenSpec.ofChange fnStoreBackSpec)

/-- ITS FALSE NEIGHBOUR: 'it returns false'. Refute it at one input. -/
def fnStoreBackWrong : ChangeSpec := { name := "fnStoreBack", fn := fun _ => fun
  | [d] => { results := [.lit (.bool false)], args := [d] }
  | _ => none }
def FnStoreBackWrongFalsely : Prop := fnStoreBackRow.holds Try.pinned (OpenSpec.ofChange fnStoreBackWrong)

/-- 'laws.FnStoreMany': WHATEVER THE INPUT: true; the input reads as it did. -/
def fnStoreManySpec : ChangeSpec := { name := "fnStoreMany", fn := fun _ => fun
  | [d] => { results := [.lit (.bool true)], args := [d] }
  | _ => none }
def fnStoreManyRow : OpenClaim := { program := "ytacddgipcafdlaa", sum := "ec039d831543e789ba13557808216be88dd58574273df5e90ccca29c980875f2", func := "loop.example/varve/laws.FnStoreMany", spec := "fnStoreMany", unfollowed := true, recurses := true, apart := false }
def FnStoreManySaid : Prop := fnStoreManyRow.holds Try.pinned (OpenSpec.ofChange fnStoreManySpec)

/-- ITS FALSE NEIGHBOUR: 'it returns false'. Refute it at one input. -/
def fnStoreManyWrong : ChangeSpec := { name := "fnStoreMany", fn := fun _ => fun
  | [d] => { results := [.lit (.bool false)], args := [d] }
  | _ => none }
def FnStoreManyWrongFalsely : Prop := fnStoreManyRow.holds Try.pinned (OpenSpec.ofChange fnStoreManyWrong)

/-- 'laws.FnStorePrune': WHATEVER THE INPUT: true; the input reads as it did. -/
def fnStorePruneSpec : ChangeSpec := { name := "fnStorePrune", fn := fun _ => fun
  | [d] => { results := [.lit (.bool true)], args := [d] }
  | _ => none }
def fnStorePruneRow : OpenClaim := { program := "ytacddgipcafdlaa", sum := "ec039d831543e789ba13557808216be88dd58574273df5e90ccca29c980875f2", func := "loop.example/varve/laws.FnStorePrune", spec := "fnStorePrune", unfollowed := true, recurses := true, apart := false }
def FnStorePruneSaid : Prop := fnStorePruneRow.holds Try.pinned (OpenSpec.ofChange fnStorePruneSpec)

/-- ITS FALSE NEIGHBOUR: 'it returns false'. Refute it at one input. -/
def fnStorePruneWrong : ChangeSpec := { name := "fnStorePrune", fn := fun _ => fun
  | [d] => { results := [.lit (.bool false)], args := [d] }
  | _ => none }
def FnStorePruneWrongFalsely : Prop := fnStorePruneRow.holds Try.pinned (OpenSpec.ofChange fnStorePruneWrong)

/- THE SECOND FORM. 'bulk': how many values and letters a reading holds, each counted each time it is reached (what is shared counts as often as it is met; a slice's spare places count too). A statement '..UptoSaid' is the law's where the arguments, and the package variables that the reading takes, are together of bulk at most 1048576: NARROWER than '..Said'. Prove '..Said' where nothing that the law and all that it calls make is longer than what came in: it says more and counts as full. Else prove '..UptoSaid'. A law counts once. -/
mutual
def uptoBulk {H : Type} : DataW H → Nat
  | .lit (.string bytes) => bytes.length + 1
  | .lit _ => 1
  | .nil => 1
  | .ptr d => uptoBulk d + 1
  | .slice elems spare => uptoBulkAll elems + uptoBulkAll spare + 1
  | .agg parts => uptoBulkAll parts + 1
  | .iface _ d => uptoBulk d + 1
  | .map entries => uptoBulkEntries entries + 1
  | .held _ => 1
def uptoBulkAll {H : Type} : List (DataW H) → Nat
  | [] => 0
  | d :: r => uptoBulk d + uptoBulkAll r
def uptoBulkEntries {H : Type} : List (Lit × DataW H) → Nat
  | [] => 0
  | x :: r => uptoBulkEntry x + uptoBulkEntries r
def uptoBulkEntry {H : Type} : Lit × DataW H → Nat
  | (.string bytes, d) => bytes.length + uptoBulk d + 1
  | (_, d) => uptoBulk d + 1
 end
def uptoSmall : (H : Type) → List (DataW H) → Bool := fun _ ds => decide (uptoBulkAll ds ≤ 1048576)
def OpenSpec.upto (s : _root_.Go.ChangeSpec) : _root_.Go.OpenSpec := { _root_.Go.OpenSpec.ofChange s with cond := some uptoSmall }

/-- 'laws.FnExactStoreAll', WHERE WHAT IT READS IS OF BULK AT MOST 1048576: true; the input reads as it did. -/
def fnExactStoreAllUptoRow : OpenClaim := { program := "ytacddgipcafdlaa", sum := "ec039d831543e789ba13557808216be88dd58574273df5e90ccca29c980875f2", func := "loop.example/varve/laws.FnExactStoreAll", spec := "fnExactStoreAll", unfollowed := true, recurses := true, apart := false, narrowed := true }
def FnExactStoreAllUptoSaid : Prop := fnExactStoreAllUptoRow.holds Try.pinned (OpenSpec.upto fnExactStoreAllSpec)

/-- 'laws.FnExactStoreBack', WHERE WHAT IT READS IS OF BULK AT MOST 1048576: true; the input reads as it did. -/
def fnExactStoreBackUptoRow : OpenClaim := { program := "ytacddgipcafdlaa", sum := "ec039d831543e789ba13557808216be88dd58574273df5e90ccca29c980875f2", func := "loop.example/varve/laws.FnExactStoreBack", spec := "fnExactStoreBack", unfollowed := true, recurses := true, apart := false, narrowed := true }
def FnExactStoreBackUptoSaid : Prop := fnExactStoreBackUptoRow.holds Try.pinned (OpenSpec.upto fnExactStoreBackSpec)

/-- 'laws.FnExactStorePrune', WHERE WHAT IT READS IS OF BULK AT MOST 1048576: true; the input reads as it did. -/
def fnExactStorePruneUptoRow : OpenClaim := { program := "ytacddgipcafdlaa", sum := "ec039d831543e789ba13557808216be88dd58574273df5e90ccca29c980875f2", func := "loop.example/varve/laws.FnExactStorePrune", spec := "fnExactStorePrune", unfollowed := true, recurses := true, apart := false, narrowed := true }
def FnExactStorePruneUptoSaid : Prop := fnExactStorePruneUptoRow.holds Try.pinned (OpenSpec.upto fnExactStorePruneSpec)

/-- 'laws.FnExactStoreMany', WHERE WHAT IT READS IS OF BULK AT MOST 1048576: true; the input reads as it did. -/
def fnExactStoreManyUptoRow : OpenClaim := { program := "ytacddgipcafdlaa", sum := "ec039d831543e789ba13557808216be88dd58574273df5e90ccca29c980875f2", func := "loop.example/varve/laws.FnExactStoreMany", spec := "fnExactStoreMany", unfollowed := true, recurses := true, apart := false, narrowed := true }
def FnExactStoreManyUptoSaid : Prop := fnExactStoreManyUptoRow.holds Try.pinned (OpenSpec.upto fnExactStoreManySpec)

/-- 'laws.FnExactTraceOf', WHERE WHAT IT READS IS OF BULK AT MOST 1048576: true; the input reads as it did. -/
def fnExactTraceOfUptoRow : OpenClaim := { program := "ytacddgipcafdlaa", sum := "ec039d831543e789ba13557808216be88dd58574273df5e90ccca29c980875f2", func := "loop.example/varve/laws.FnExactTraceOf", spec := "fnExactTraceOf", unfollowed := true, recurses := true, apart := false, narrowed := true }
def FnExactTraceOfUptoSaid : Prop := fnExactTraceOfUptoRow.holds Try.pinned (OpenSpec.upto fnExactTraceOfSpec)

/-- 'laws.FnStoreLast', WHERE WHAT IT READS IS OF BULK AT MOST 1048576: true; the input reads as it did. -/
def fnStoreLastUptoRow : OpenClaim := { program := "ytacddgipcafdlaa", sum := "ec039d831543e789ba13557808216be88dd58574273df5e90ccca29c980875f2", func := "loop.example/varve/laws.FnStoreLast", spec := "fnStoreLast", unfollowed := true, recurses := true, apart := false, narrowed := true }
def FnStoreLastUptoSaid : Prop := fnStoreLastUptoRow.holds Try.pinned (OpenSpec.upto fnStoreLastSpec)

/-- 'laws.FnStoreSet', WHERE WHAT IT READS IS OF BULK AT MOST 1048576: true; the input reads as it did. -/
def fnStoreSetUptoRow : OpenClaim := { program := "ytacddgipcafdlaa", sum := "ec039d831543e789ba13557808216be88dd58574273df5e90ccca29c980875f2", func := "loop.example/varve/laws.FnStoreSet", spec := "fnStoreSet", unfollowed := true, recurses := true, apart := false, narrowed := true }
def FnStoreSetUptoSaid : Prop := fnStoreSetUptoRow.holds Try.pinned (OpenSpec.upto fnStoreSetSpec)

/-- 'laws.FnStoreAt', WHERE WHAT IT READS IS OF BULK AT MOST 1048576: true; the input reads as it did. -/
def fnStoreAtUptoRow : OpenClaim := { program := "ytacddgipcafdlaa", sum := "ec039d831543e789ba13557808216be88dd58574273df5e90ccca29c980875f2", func := "loop.example/varve/laws.FnStoreAt", spec := "fnStoreAt", unfollowed := true, recurses := true, apart := false, narrowed := true }
def FnStoreAtUptoSaid : Prop := fnStoreAtUptoRow.holds Try.pinned (OpenSpec.upto fnStoreAtSpec)

/-- 'laws.FnStoreAll', WHERE WHAT IT READS IS OF BULK AT MOST 1048576: true; the input reads as it did. -/
def fnStoreAllUptoRow : OpenClaim := { program := "ytacddgipcafdlaa", sum := "ec039d831543e789ba13557808216be88dd58574273df5e90ccca29c980875f2", func := "loop.example/varve/laws.FnStoreAll", spec := "fnStoreAll", unfollowed := true, recurses := true, apart := false, narrowed := true }
def FnStoreAllUptoSaid : Prop := fnStoreAllUptoRow.holds Try.pinned (OpenSpec.upto fnStoreAllSpec)

/-- 'laws.FnStoreBack', WHERE WHAT IT READS IS OF BULK AT MOST 1048576: true; the input reads as it did. -/
def fnStoreBackUptoRow : OpenClaim := { program := "ytacddgipcafdlaa", sum := "ec039d831543e789ba13557808216be88dd58574273df5e90ccca29c980875f2", func := "loop.example/varve/laws.FnStoreBack", spec := "fnStoreBack", unfollowed := true, recurses := true, apart := false, narrowed := true }
def FnStoreBackUptoSaid : Prop := fnStoreBackUptoRow.holds Try.pinned (OpenSpec.upto fnStoreBackSpec)

/-- 'laws.FnStoreMany', WHERE WHAT IT READS IS OF BULK AT MOST 1048576: true; the input reads as it did. -/
def fnStoreManyUptoRow : OpenClaim := { program := "ytacddgipcafdlaa", sum := "ec039d831543e789ba13557808216be88dd58574273df5e90ccca29c980875f2", func := "loop.example/varve/laws.FnStoreMany", spec := "fnStoreMany", unfollowed := true, recurses := true, apart := false, narrowed := true }
def FnStoreManyUptoSaid : Prop := fnStoreManyUptoRow.holds Try.pinned (OpenSpec.upto fnStoreManySpec)

/-- 'laws.FnStorePrune', WHERE WHAT IT READS IS OF BULK AT MOST 1048576: true; the input reads as it did. -/
def fnStorePruneUptoRow : OpenClaim := { program := "ytacddgipcafdlaa", sum := "ec039d831543e789ba13557808216be88dd58574273df5e90ccca29c980875f2", func := "loop.example/varve/laws.FnStorePrune", spec := "fnStorePrune", unfollowed := true, recurses := true, apart := false, narrowed := true }
def FnStorePruneUptoSaid : Prop := fnStorePruneUptoRow.holds Try.pinned (OpenSpec.upto fnStorePruneSpec)

end Rows
end Go.Proofs.Ytacddgipcafdlaa
