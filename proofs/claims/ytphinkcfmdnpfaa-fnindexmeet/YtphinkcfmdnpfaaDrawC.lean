/-
  Walks: two drawn spans.
-/
import Derived.Test.YtphinkcfmdnpfaaDrawB
import Derived.Test.YtphinkcfmdnpfaaMeet
namespace Go.Proofs.Ytphinkcfmdnpfaa
open Go.RowKit

def DrawnTwo (w : World) (e : Ending) (w' : World) : Prop :=
  ∃ a b c d, e = .returned (.tuple #[.agg #[.int .i64 a, .int .i64 b], .agg #[.int .i64 c, .int .i64 d]]) ∧ (-1 ≤ a ∧ a ≤ 101 ∧ -1 ≤ b ∧ b ≤ 101) ∧ (-1 ≤ c ∧ c ≤ 101 ∧ -1 ≤ d ∧ d ≤ 101) ∧ Below w.heap.size w w'

theorem bytes_below {w w' : World} {B : Nat} {A : Option Addr} {zs : List Int} (h : Bytes w w.heap.size A zs) (hb : Below w.heap.size w w') (hB : w.heap.size ≤ B) : Bytes w' B A zs :=
  ⟨h.1, fun hn => by
    obtain ⟨b, off, e, hlt, hc⟩ := h.2 hn
    exact ⟨b, off, e, by omega, fun i hi => (hb.cell (p := ⟨b, off + i, none⟩) hlt).trans (hc i hi)⟩⟩

end Go.Proofs.Ytphinkcfmdnpfaa
