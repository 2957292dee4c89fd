/-
  Walks: what is common to two iterators of spans, the second one by the wider word.
-/
import Derived.Test.YtkdhdppngfadiaaCommon
import Derived.Test.YtkdhdppngfadiaaAllN
namespace Go.Proofs.Ytkdhdppngfadiaa
open Go.RowKit Go.Shelf

attribute [local go_sem] Oper.semAt_some

/-- A round of the wide fence, met within a round. -/
theorem round_deep1 {P : Program} {l l1 m m' : Nat} {f : FuncId} {tmps : Array Value} {assign body : Code} {w : World} {R : Ending → World → Prop} (h : RoundIn Fence.wide m P l f tmps assign body w R) : RoundIn (Fence.wide.inRound l1) m' P l f tmps assign body w R :=
  ⟨h.1, fun c cs _ => h.2 c cs (room_wide _)⟩

end Go.Proofs.Ytkdhdppngfadiaa
