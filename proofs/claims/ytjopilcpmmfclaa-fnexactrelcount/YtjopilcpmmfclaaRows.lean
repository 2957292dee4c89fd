/-
  No cell of these rows narrows 'for every input' (looked for: loops, veiled, ifaces, maps, wideKeys, modest, calm, conditions, laid).
  DERIVED. THE GIVEN ROWS OF THIS SEAT. 12 by the template 'for every input the law returns true; each argument reads behind the call as it read before'; 0 by the template 'total and deterministic' (their statements: YtjopilcpmmfclaaTotals.lean).
  GIVEN WITH THE SEED: the statements are not yours to turn. If you find one false, say at which input.
  Laid BY PROGRAM, IN A SANDBOX (cutbox-rows.mjs): the forced cells as the released guide's own fill.sh prints them over the translation 5a533c181e447029… (all of the seat's roots in one cut). By AI agents, Wed Nov 11 2026. No macro, syntax, notation, axiom, sorry.
-/
import Derived.Test.YtjopilcpmmfclaaChecked
import GoSem.Claim
import GoSem.ClaimJoined
import GoSem.ClaimMapViews
import Derived.JoinedTies
import Derived.KernelRfl
namespace Go.Proofs.Ytjopilcpmmfclaa
/- THE CELL 'sum', in the pinned program and in every row, IS THE sha256 OF THE DUMP (.gsa) THAT YtjopilcpmmfclaaProg.lean LOADS. Nothing in Lean hashes anything: it is a label: what it is worth is what the hold of that sum in a sandbox is worth. -/
noncomputable def Try.pinned : Pinned := { name := "ytjopilcpmmfclaa", sum := "5a533c181e44702988ab57bcc48e580937091a6bc79292079aafffe97c827942", checked := Try.checked }
namespace Rows
def none {H : Type} : Left H := { results := [], args := [] }

/-- 'laws.FnExactRelJoin': WHATEVER THE INPUT: true; the input reads as it did. -/
def fnExactRelJoinSpec : ChangeSpec := { name := "fnExactRelJoin", fn := fun _ => fun
  | [d1, d2] => { results := [.lit (.bool true)], args := [d1, d2] }
  | _ => none }
def fnExactRelJoinRow : OpenClaim := { program := "ytjopilcpmmfclaa", sum := "5a533c181e44702988ab57bcc48e580937091a6bc79292079aafffe97c827942", func := "loop.example/varve/laws.FnExactRelJoin", spec := "fnExactRelJoin", unfollowed := true, recurses := true, apart := false }
def FnExactRelJoinSaid : Prop := fnExactRelJoinRow.holds Try.pinned (OpenSpec.ofChange fnExactRelJoinSpec)

/-- ITS FALSE NEIGHBOUR: 'it returns false'. Refute it at one input. -/
def fnExactRelJoinWrong : ChangeSpec := { name := "fnExactRelJoin", fn := fun _ => fun
  | [d1, d2] => { results := [.lit (.bool false)], args := [d1, d2] }
  | _ => none }
def FnExactRelJoinWrongFalsely : Prop := fnExactRelJoinRow.holds Try.pinned (OpenSpec.ofChange fnExactRelJoinWrong)

/-- 'laws.FnExactRelLess': WHATEVER THE INPUT: true; the input reads as it did. -/
def fnExactRelLessSpec : ChangeSpec := { name := "fnExactRelLess", fn := fun _ => fun
  | [d1, d2] => { results := [.lit (.bool true)], args := [d1, d2] }
  | _ => none }
def fnExactRelLessRow : OpenClaim := { program := "ytjopilcpmmfclaa", sum := "5a533c181e44702988ab57bcc48e580937091a6bc79292079aafffe97c827942", func := "loop.example/varve/laws.FnExactRelLess", spec := "fnExactRelLess", unfollowed := true, recurses := true, apart := false }
def FnExactRelLessSaid : Prop := fnExactRelLessRow.holds Try.pinned (OpenSpec.ofChange fnExactRelLessSpec)

/-- ITS FALSE NEIGHBOUR: 'it returns false'. Refute it at one input. -/
def fnExactRelLessWrong : ChangeSpec := { name := "fnExactRelLess", fn := fun _ => fun
  | [d1, d2] => { results := [.lit (.bool false)], args := [d1, d2] }
  | _ => none }
def FnExactRelLessWrongFalsely : Prop := fnExactRelLessRow.holds Try.pinned (OpenSpec.ofChange fnExactRelLessWrong)

/-- 'laws.FnExactRelBoth': WHATEVER THE INPUT: true; the input reads as it did. -/
def fnExactRelBothSpec : ChangeSpec := { name := "fnExactRelBoth", fn := fun _ => fun
  | [d1, d2] => { results := [.lit (.bool true)], args := [d1, d2] }
  | _ => none }
def fnExactRelBothRow : OpenClaim := { program := "ytjopilcpmmfclaa", sum := "5a533c181e44702988ab57bcc48e580937091a6bc79292079aafffe97c827942", func := "loop.example/varve/laws.FnExactRelBoth", spec := "fnExactRelBoth", unfollowed := true, recurses := true, apart := false }
def FnExactRelBothSaid : Prop := fnExactRelBothRow.holds Try.pinned (OpenSpec.ofChange fnExactRelBothSpec)

/-- ITS FALSE NEIGHBOUR: 'it returns false'. Refute it at one input. -/
def fnExactRelBothWrong : ChangeSpec := { name := "fnExactRelBoth", fn := fun _ => fun
  | [d1, d2] => { results := [.lit (.bool false)], args := [d1, d2] }
  | _ => none }
def FnExactRelBothWrongFalsely : Prop := fnExactRelBothRow.holds Try.pinned (OpenSpec.ofChange fnExactRelBothWrong)

/-- 'laws.FnExactRelEither': WHATEVER THE INPUT: true; the input reads as it did. -/
def fnExactRelEitherSpec : ChangeSpec := { name := "fnExactRelEither", fn := fun _ => fun
  | [d1, d2] => { results := [.lit (.bool true)], args := [d1, d2] }
  | _ => none }
def fnExactRelEitherRow : OpenClaim := { program := "ytjopilcpmmfclaa", sum := "5a533c181e44702988ab57bcc48e580937091a6bc79292079aafffe97c827942", func := "loop.example/varve/laws.FnExactRelEither", spec := "fnExactRelEither", unfollowed := true, recurses := true, apart := false }
def FnExactRelEitherSaid : Prop := fnExactRelEitherRow.holds Try.pinned (OpenSpec.ofChange fnExactRelEitherSpec)

/-- ITS FALSE NEIGHBOUR: 'it returns false'. Refute it at one input. -/
def fnExactRelEitherWrong : ChangeSpec := { name := "fnExactRelEither", fn := fun _ => fun
  | [d1, d2] => { results := [.lit (.bool false)], args := [d1, d2] }
  | _ => none }
def FnExactRelEitherWrongFalsely : Prop := fnExactRelEitherRow.holds Try.pinned (OpenSpec.ofChange fnExactRelEitherWrong)

/-- 'laws.FnExactRelPick': WHATEVER THE INPUT: true; the input reads as it did. -/
def fnExactRelPickSpec : ChangeSpec := { name := "fnExactRelPick", fn := fun _ => fun
  | [d1, d2] => { results := [.lit (.bool true)], args := [d1, d2] }
  | _ => none }
def fnExactRelPickRow : OpenClaim := { program := "ytjopilcpmmfclaa", sum := "5a533c181e44702988ab57bcc48e580937091a6bc79292079aafffe97c827942", func := "loop.example/varve/laws.FnExactRelPick", spec := "fnExactRelPick", unfollowed := true, recurses := true, apart := false }
def FnExactRelPickSaid : Prop := fnExactRelPickRow.holds Try.pinned (OpenSpec.ofChange fnExactRelPickSpec)

/-- ITS FALSE NEIGHBOUR: 'it returns false'. Refute it at one input. -/
def fnExactRelPickWrong : ChangeSpec := { name := "fnExactRelPick", fn := fun _ => fun
  | [d1, d2] => { results := [.lit (.bool false)], args := [d1, d2] }
  | _ => none }
def FnExactRelPickWrongFalsely : Prop := fnExactRelPickRow.holds Try.pinned (OpenSpec.ofChange fnExactRelPickWrong)

/-- 'laws.FnExactRelCount': WHATEVER THE INPUT: true; the input reads as it did. -/
def fnExactRelCountSpec : ChangeSpec := { name := "fnExactRelCount", fn := fun _ => fun
  | [d] => { results := [.lit (.bool true)], args := [d] }
  | _ => none }
def fnExactRelCountRow : OpenClaim := { program := "ytjopilcpmmfclaa", sum := "5a533c181e44702988ab57bcc48e580937091a6bc79292079aafffe97c827942", func := "loop.example/varve/laws.FnExactRelCount", spec := "fnExactRelCount", unfollowed := true, recurses := true, apart := false }
def FnExactRelCountSaid : Prop := fnExactRelCountRow.holds Try.pinned (OpenSpec.ofChange fnExactRelCountSpec)

/-- ITS FALSE NEIGHBOUR: 'it returns false'. Refute it at one input. -/
def fnExactRelCountWrong : ChangeSpec := { name := "fnExactRelCount", fn := fun _ => fun
  | [d] => { results := [.lit (.bool false)], args := [d] }
  | _ => none }
def FnExactRelCountWrongFalsely : Prop := fnExactRelCountRow.holds Try.pinned (OpenSpec.ofChange fnExactRelCountWrong)

/-- 'laws.FnExactRelBad': WHATEVER THE INPUT: true; the input reads as it did. -/
def fnExactRelBadSpec : ChangeSpec := { name := "fnExactRelBad", fn := fun _ => fun
  | [d1, d2] => { results := [.lit (.bool true)], args := [d1, d2] }
  | _ => none }
def fnExactRelBadRow : OpenClaim := { program := "ytjopilcpmmfclaa", sum := "5a533c181e44702988ab57bcc48e580937091a6bc79292079aafffe97c827942", func := "loop.example/varve/laws.FnExactRelBad", spec := "fnExactRelBad", unfollowed := true, recurses := true, apart := false }
def FnExactRelBadSaid : Prop := fnExactRelBadRow.holds Try.pinned (OpenSpec.ofChange fnExactRelBadSpec)

/-- ITS FALSE NEIGHBOUR: 'it returns false'. Refute it at one input. -/
def fnExactRelBadWrong : ChangeSpec := { name := "fnExactRelBad", fn := fun _ => fun
  | [d1, d2] => { results := [.lit (.bool false)], args := [d1, d2] }
  | _ => none }
def FnExactRelBadWrongFalsely : Prop := fnExactRelBadRow.holds Try.pinned (OpenSpec.ofChange fnExactRelBadWrong)

/-- 'laws.FnPick': WHATEVER THE INPUT: true; the input reads as it did. -/
def fnPickSpec : ChangeSpec := { name := "fnPick", fn := fun _ => fun
  | [d] => { results := [.lit (.bool true)], args := [d] }
  | _ => none }
def fnPickRow : OpenClaim := { program := "ytjopilcpmmfclaa", sum := "5a533c181e44702988ab57bcc48e580937091a6bc79292079aafffe97c827942", func := "loop.example/varve/laws.FnPick", spec := "fnPick", unfollowed := true, recurses := true, apart := false }
def FnPickSaid : Prop := fnPickRow.holds Try.pinned (OpenSpec.ofChange fnPickSpec)

/-- ITS FALSE NEIGHBOUR: 'it returns false'. Refute it at one input. -/
def fnPickWrong : ChangeSpec := { name := "fnPick", fn := fun _ => fun
  | [d] => { results := [.lit (.bool false)], args := [d] }
  | _ => none }
def FnPickWrongFalsely : Prop := fnPickRow.holds Try.pinned (OpenSpec.ofChange fnPickWrong)

/-- 'laws.FnLess': WHATEVER THE INPUT: true; the input reads as it did. -/
def fnLessSpec : ChangeSpec := { name := "fnLess", fn := fun _ => fun
  | [d] => { results := [.lit (.bool true)], args := [d] }
  | _ => none }
def fnLessRow : OpenClaim := { program := "ytjopilcpmmfclaa", sum := "5a533c181e44702988ab57bcc48e580937091a6bc79292079aafffe97c827942", func := "loop.example/varve/laws.FnLess", spec := "fnLess", unfollowed := true, recurses := true, apart := false }
def FnLessSaid : Prop := fnLessRow.holds Try.pinned (OpenSpec.ofChange fnLessSpec)

/-- ITS FALSE NEIGHBOUR: 'it returns false'. Refute it at one input. -/
def fnLessWrong : ChangeSpec := { name := "fnLess", fn := fun _ => fun
  | [d] => { results := [.lit (.bool false)], args := [d] }
  | _ => none }
def FnLessWrongFalsely : Prop := fnLessRow.holds Try.pinned (OpenSpec.ofChange fnLessWrong)

/-- 'laws.FnBoth': WHATEVER THE INPUT: true; the input reads as it did. -/
def fnBothSpec : ChangeSpec := { name := "fnBoth", fn := fun _ => fun
  | [d] => { results := [.lit (.bool true)], args := [d] }
  | _ => none }
def fnBothRow : OpenClaim := { program := "ytjopilcpmmfclaa", sum := "5a533c181e44702988ab57bcc48e580937091a6bc79292079aafffe97c827942", func := "loop.example/varve/laws.FnBoth", spec := "fnBoth", unfollowed := true, recurses := true, apart := false }
def FnBothSaid : Prop := fnBothRow.holds Try.pinned (OpenSpec.ofChange fnBothSpec)

/-- ITS FALSE NEIGHBOUR: 'it returns false'. Refute it at one input. -/
def fnBothWrong : ChangeSpec := { name := "fnBoth", fn := fun _ => fun
  | [d] => { results := [.lit (.bool false)], args := [d] }
  | _ => none }
def FnBothWrongFalsely : Prop := fnBothRow.holds Try.pinned (OpenSpec.ofChange fnBothWrong)

/-- 'laws.FnEither': WHATEVER THE INPUT: true; the input reads as it did. -/
def fnEitherSpec : ChangeSpec := { name := "fnEither", fn := fun _ => fun
  | [d] => { results := [.lit (.bool true)], args := [d] }
  | _ => none }
def fnEitherRow : OpenClaim := { program := "ytjopilcpmmfclaa", sum := "5a533c181e44702988ab57bcc48e580937091a6bc79292079aafffe97c827942", func := "loop.example/varve/laws.FnEither", spec := "fnEither", unfollowed := true, recurses := true, apart := false }
def FnEitherSaid : Prop := fnEitherRow.holds Try.pinned (OpenSpec.ofChange fnEitherSpec)

/-- ITS FALSE NEIGHBOUR: 'it returns false'. Refute it at one input. -/
def fnEitherWrong : ChangeSpec := { name := "fnEither", fn := fun _ => fun
  | [d] => { results := [.lit (.bool false)], args := [d] }
  | _ => none }
def FnEitherWrongFalsely : Prop := fnEitherRow.holds Try.pinned (OpenSpec.ofChange fnEitherWrong)

/-- 'laws.FnJoin': WHATEVER THE INPUT: true; the input reads as it did. -/
def fnJoinSpec : ChangeSpec := { name := "fnJoin", fn := fun _ => fun
  | [d] => { results := [.lit (.bool true)], args := [d] }
  | _ => none }
def fnJoinRow : OpenClaim := { program := "ytjopilcpmmfclaa", sum := "5a533c181e44702988ab57bcc48e580937091a6bc79292079aafffe97c827942", func := "loop.example/varve/laws.FnJoin", spec := "fnJoin", unfollowed := true, recurses := true, apart := false }
def FnJoinSaid : Prop := fnJoinRow.holds Try.pinned (OpenSpec.ofChange fnJoinSpec)

/-- ITS FALSE NEIGHBOUR: 'it returns false'. Refute it at one input. -/
def fnJoinWrong : ChangeSpec := { name := "fnJoin", fn := fun _ => fun
  | [d] => { results := [.lit (.bool false)], args := [d] }
  | _ => none }
def FnJoinWrongFalsely : Prop := fnJoinRow.holds Try.pinned (OpenSpec.ofChange fnJoinWrong)

/- THE SECOND FORM. 'bulk': how many values and letters a reading holds, each counted each time it is reached (what is shared counts as often as it is met; a slice's spare places count too). A statement '..UptoSaid' is the law's where the arguments, and the package variables that the reading takes, are together of bulk at most 1048576: NARROWER than '..Said'. Prove '..Said' where nothing that the law and all that it calls make is longer than what came in: it says more and counts as full. Else prove '..UptoSaid'. A law counts once. -/
mutual
def uptoBulk {H : Type} : DataW H → Nat
  | .lit (.string bytes) => bytes.length + 1
  | .lit _ => 1
  | .nil => 1
  | .ptr d => uptoBulk d + 1
  | .slice elems spare => uptoBulkAll elems + uptoBulkAll spare + 1
  | .agg parts => uptoBulkAll parts + 1
  | .iface _ d => uptoBulk d + 1
  | .map entries => uptoBulkEntries entries + 1
  | .held _ => 1
def uptoBulkAll {H : Type} : List (DataW H) → Nat
  | [] => 0
  | d :: r => uptoBulk d + uptoBulkAll r
def uptoBulkEntries {H : Type} : List (Lit × DataW H) → Nat
  | [] => 0
  | x :: r => uptoBulkEntry x + uptoBulkEntries r
def uptoBulkEntry {H : Type} : Lit × DataW H → Nat
  | (.string bytes, d) => bytes.length + uptoBulk d + 1
  | (_, d) => uptoBulk d + 1
 end
def uptoSmall : (H : Type) → List (DataW H) → Bool := fun _ ds => decide (uptoBulkAll ds ≤ 1048576)
def OpenSpec.upto (s : _root_.Go.ChangeSpec) : _root_.Go.OpenSpec := { _root_.Go.OpenSpec.ofChange s with cond := some uptoSmall }

/-- 'laws.FnExactRelJoin', WHERE WHAT IT READS IS OF BULK AT MOST 1048576: true; the input reads as it did. -/
def fnExactRelJoinUptoRow : OpenClaim := { program := "ytjopilcpmmfclaa", sum := "5a533c181e44702988ab57bcc48e580937091a6bc79292079aafffe97c827942", func := "loop.example/varve/laws.FnExactRelJoin", spec := "fnExactRelJoin", unfollowed := true, recurses := true, apart := false, narrowed := true }
def FnExactRelJoinUptoSaid : Prop := fnExactRelJoinUptoRow.holds Try.pinned (OpenSpec.upto fnExactRelJoinSpec)

/-- 'laws.FnExactRelLess', WHERE WHAT IT READS IS OF BULK AT MOST 1048576: true; the input reads as it did. -/
def fnExactRelLessUptoRow : OpenClaim := { program := "ytjopilcpmmfclaa", sum := "5a533c181e44702988ab57bcc48e580937091a6bc79292079aafffe97c827942", func := "loop.example/varve/laws.FnExactRelLess", spec := "fnExactRelLess", unfollowed := true, recurses := true, apart := false, narrowed := true }
def FnExactRelLessUptoSaid : Prop := fnExactRelLessUptoRow.holds Try.pinned (OpenSpec.upto fnExactRelLessSpec)

/-- 'laws.FnExactRelBoth', WHERE WHAT IT READS IS OF BULK AT MOST 1048576: true; the input reads as it did. -/
def fnExactRelBothUptoRow : OpenClaim := { program := "ytjopilcpmmfclaa", sum := "5a533c181e44702988ab57bcc48e580937091a6bc79292079aafffe97c827942", func := "loop.example/varve/laws.FnExactRelBoth", spec := "fnExactRelBoth", unfollowed := true, recurses := true, apart := false, narrowed := true }
def FnExactRelBothUptoSaid : Prop := fnExactRelBothUptoRow.holds Try.pinned (OpenSpec.upto fnExactRelBothSpec)

/-- 'laws.FnExactRelEither', WHERE WHAT IT READS IS OF BULK AT MOST 1048576: true; the input reads as it did. -/
def fnExactRelEitherUptoRow : OpenClaim := { program := "ytjopilcpmmfclaa", sum := "5a533c181e44702988ab57bcc48e580937091a6bc79292079aafffe97c827942", func := "loop.example/varve/laws.FnExactRelEither", spec := "fnExactRelEither", unfollowed := true, recurses := true, apart := false, narrowed := true }
def FnExactRelEitherUptoSaid : Prop := fnExactRelEitherUptoRow.holds Try.pinned (OpenSpec.upto fnExactRelEitherSpec)

/-- 'laws.FnExactRelPick', WHERE WHAT IT READS IS OF BULK AT MOST 1048576: true; the input reads as it did. -/
def fnExactRelPickUptoRow : OpenClaim := { program := "ytjopilcpmmfclaa", sum := "5a533c181e44702988ab57bcc48e580937091a6bc79292079aafffe97c827942", func := "loop.example/varve/laws.FnExactRelPick", spec := "fnExactRelPick", unfollowed := true, recurses := true, apart := false, narrowed := true }
def FnExactRelPickUptoSaid : Prop := fnExactRelPickUptoRow.holds Try.pinned (OpenSpec.upto fnExactRelPickSpec)

/-- 'laws.FnExactRelCount', WHERE WHAT IT READS IS OF BULK AT MOST 1048576: true; the input reads as it did. -/
def fnExactRelCountUptoRow : OpenClaim := { program := "ytjopilcpmmfclaa", sum := "5a533c181e44702988ab57bcc48e580937091a6bc79292079aafffe97c827942", func := "loop.example/varve/laws.FnExactRelCount", spec := "fnExactRelCount", unfollowed := true, recurses := true, apart := false, narrowed := true }
def FnExactRelCountUptoSaid : Prop := fnExactRelCountUptoRow.holds Try.pinned (OpenSpec.upto fnExactRelCountSpec)

/-- 'laws.FnExactRelBad', WHERE WHAT IT READS IS OF BULK AT MOST 1048576: true; the input reads as it did. -/
def fnExactRelBadUptoRow : OpenClaim := { program := "ytjopilcpmmfclaa", sum := "5a533c181e44702988ab57bcc48e580937091a6bc79292079aafffe97c827942", func := "loop.example/varve/laws.FnExactRelBad", spec := "fnExactRelBad", unfollowed := true, recurses := true, apart := false, narrowed := true }
def FnExactRelBadUptoSaid : Prop := fnExactRelBadUptoRow.holds Try.pinned (OpenSpec.upto fnExactRelBadSpec)

/-- 'laws.FnPick', WHERE WHAT IT READS IS OF BULK AT MOST 1048576: true; the input reads as it did. -/
def fnPickUptoRow : OpenClaim := { program := "ytjopilcpmmfclaa", sum := "5a533c181e44702988ab57bcc48e580937091a6bc79292079aafffe97c827942", func := "loop.example/varve/laws.FnPick", spec := "fnPick", unfollowed := true, recurses := true, apart := false, narrowed := true }
def FnPickUptoSaid : Prop := fnPickUptoRow.holds Try.pinned (OpenSpec.upto fnPickSpec)

/-- 'laws.FnLess', WHERE WHAT IT READS IS OF BULK AT MOST 1048576: true; the input reads as it did. -/
def fnLessUptoRow : OpenClaim := { program := "ytjopilcpmmfclaa", sum := "5a533c181e44702988ab57bcc48e580937091a6bc79292079aafffe97c827942", func := "loop.example/varve/laws.FnLess", spec := "fnLess", unfollowed := true, recurses := true, apart := false, narrowed := true }
def FnLessUptoSaid : Prop := fnLessUptoRow.holds Try.pinned (OpenSpec.upto fnLessSpec)

/-- 'laws.FnBoth', WHERE WHAT IT READS IS OF BULK AT MOST 1048576: true; the input reads as it did. -/
def fnBothUptoRow : OpenClaim := { program := "ytjopilcpmmfclaa", sum := "5a533c181e44702988ab57bcc48e580937091a6bc79292079aafffe97c827942", func := "loop.example/varve/laws.FnBoth", spec := "fnBoth", unfollowed := true, recurses := true, apart := false, narrowed := true }
def FnBothUptoSaid : Prop := fnBothUptoRow.holds Try.pinned (OpenSpec.upto fnBothSpec)

/-- 'laws.FnEither', WHERE WHAT IT READS IS OF BULK AT MOST 1048576: true; the input reads as it did. -/
def fnEitherUptoRow : OpenClaim := { program := "ytjopilcpmmfclaa", sum := "5a533c181e44702988ab57bcc48e580937091a6bc79292079aafffe97c827942", func := "loop.example/varve/laws.FnEither", spec := "fnEither", unfollowed := true, recurses := true, apart := false, narrowed := true }
def FnEitherUptoSaid : Prop := fnEitherUptoRow.holds Try.pinned (OpenSpec.upto fnEitherSpec)

/-- 'laws.FnJoin', WHERE WHAT IT READS IS OF BULK AT MOST 1048576: true; the input reads as it did. -/
def fnJoinUptoRow : OpenClaim := { program := "ytjopilcpmmfclaa", sum := "5a533c181e44702988ab57bcc48e580937091a6bc79292079aafffe97c827942", func := "loop.example/varve/laws.FnJoin", spec := "fnJoin", unfollowed := true, recurses := true, apart := false, narrowed := true }
def FnJoinUptoSaid : Prop := fnJoinUptoRow.holds Try.pinned (OpenSpec.upto fnJoinSpec)

end Rows
end Go.Proofs.Ytjopilcpmmfclaa
