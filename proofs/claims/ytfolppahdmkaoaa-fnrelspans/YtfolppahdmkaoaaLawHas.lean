/-
  The walks of FnSetHas.
-/
import Derived.Test.YtfolppahdmkaoaaDrawS
import Derived.Test.YtfolppahdmkaoaaLawMeet
namespace Go.Proofs.Ytfolppahdmkaoaa
open Go.RowKit

/-- A drawn list of spans and a number. -/
def DrawnHas (w : World) (e : Ending) (w' : World) : Prop :=
  ∃ zs g cap c, e = .returned (.tuple #[.slice (some ⟨g, 0, none⟩) zs.length cap, .int .i64 c]) ∧ zs.length ≤ 64 ∧ w'.ownsRow w.heap.size 43 2 (.slice (some ⟨g, 0, none⟩) zs.length cap) zs.length (flat zs) ∧ Below w.heap.size w w'
def DrawnOne (w : World) (e : Ending) (w' : World) : Prop :=
  ∃ zs g cap, e = .returned (.slice (some ⟨g, 0, none⟩) zs.length cap) ∧ zs.length ≤ 64 ∧ w'.ownsRow w.heap.size 43 2 (.slice (some ⟨g, 0, none⟩) zs.length cap) zs.length (flat zs) ∧ Below w.heap.size w w'

theorem has_any_ok {zs : List (Int × Int)} {c : Int} (h : setOk zs = true) : anyIn zs c = setHas zs c := by simp [setHas, h, anyIn]

end Go.Proofs.Ytfolppahdmkaoaa
