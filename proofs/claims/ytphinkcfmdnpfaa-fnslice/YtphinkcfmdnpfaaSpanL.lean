/-
  Walks: what is left of a span.
-/
import Derived.Test.YtphinkcfmdnpfaaLess
import Derived.Test.YtphinkcfmdnpfaaSpanK
namespace Go.Proofs.Ytphinkcfmdnpfaa
open Go.RowKit Go.Shelf

theorem spans_one {w : World} {g : Nat} {a b : Int} (h0 : w.cell? ⟨g, 0, none⟩ = some (.int .i64 a)) (h1 : w.cell? ⟨g, 1, none⟩ = some (.int .i64 b)) : Spans w (some ⟨g, 0, none⟩) [(a, b)] := fun _ =>
  ⟨g, 0, rfl, fun i hi => by
    obtain rfl : i = 0 := by simp at hi; omega
    exact ⟨by simpa using h0, by simpa using h1⟩⟩

end Go.Proofs.Ytphinkcfmdnpfaa
