/-
  Walks: slices.AppendSeq and slices.Collect over whatever iterator of spans has its contract.
-/
import Derived.Test.YtphinkcfmdnpfaaLies
import Derived.Test.YtphinkcfmdnpfaaAddL
import Derived.Maps.AppendAt
namespace Go.Proofs.Ytphinkcfmdnpfaa
open Go.RowKit Go.Shelf

attribute [local go_sem] Oper.semAt_some

/-- A block that holds a span. -/
def Boxed2 (W : World) (B : Nat) (x : Int × Int) : Prop := W.heap[B]? = some (.cells #[.int .i64 x.1, .int .i64 x.2] 29 (0, 0))
theorem Boxed2.lt {W : World} {B : Nat} {x : Int × Int} (h : Boxed2 W B x) : B < W.heap.size := (Array.getElem?_eq_some_iff.1 h).1
theorem Boxed2.cell0 {W : World} {B : Nat} {x : Int × Int} (h : Boxed2 W B x) : W.cell? ⟨B, 0, none⟩ = some (.int .i64 x.1) := by simp [World.cell?, show W.heap[B]? = _ from h]
theorem Boxed2.cell1 {W : World} {B : Nat} {x : Int × Int} (h : Boxed2 W B x) : W.cell? ⟨B, 1, none⟩ = some (.int .i64 x.2) := by simp [World.cell?, show W.heap[B]? = _ from h]
theorem Boxed2.new (W : World) (x : Int × Int) : Boxed2 (W.alloc (.cells #[.int .i64 x.1, .int .i64 x.2] 29)) W.heap.size x := World.alloc_heap_new W _
theorem Boxed2.kept {W W' : World} {row : Option Nat} {B : Nat} {x : Int × Int} (h : Boxed2 W B x) (hg : W.grownBy W' row) (hr : ∀ r, row = some r → ∃ o : Obj, W.heap[r]? = some o ∧ o.isCells = false) : Boxed2 W' B x :=
  (hg.block B h.lt (fun e => by
    obtain ⟨o, ho, hc⟩ := hr B e.symm
    rw [show W.heap[B]? = _ from h] at ho
    cases ho
    cases hc)).trans h
theorem Boxed2.alloc {W : World} {B : Nat} {x : Int × Int} (h : Boxed2 W B x) (o : Obj) : Boxed2 (W.alloc o) B x := h.kept (World.grownBy_alloc W o none) (fun r e => by cases e)

def Coll (w : World) (zs : List (Int × Int)) (e : Ending) (W' : World) : Prop :=
  ∃ v, e = .returned v ∧ W'.ownsRow w.heap.size 29 2 v zs.length (flat zs) ∧ (v = .slice none 0 0 ↔ zs = []) ∧ Below w.heap.size w W'

end Go.Proofs.Ytphinkcfmdnpfaa
