/-
  Walk: what is drawn of a code: a table.
-/
import Derived.Test.YtphinkcfmdnpfaaLawRM
import Derived.Test.YtphinkcfmdnpfaaDrawB
import Derived.Test.YtphinkcfmdnpfaaMeet
namespace Go.Proofs.Ytphinkcfmdnpfaa
open Go.Shelf Go.RowKit Go.Lib Go.Sort

/-- A drawn table. -/
def DrawnR1 (w : World) (e : Ending) (w' : World) : Prop :=
  ∃ (zs : List RowV) (A : Option Addr) (cap : Nat), e = .returned (.slice A zs.length cap) ∧ zs.length ≤ 25 ∧ Short zs ∧ w'.ownsRow w.heap.size 70 4 (.slice A zs.length cap) zs.length (flatOf rowC zs) ∧ Below w.heap.size w w'

set_option maxRecDepth 100000 in
set_option maxHeartbeats 2000000 in
theorem DrawRelCount_any (A : Option Addr) (cap : Nat) (bs : List Int) (w : World) (h : Bytes w w.heap.size A bs) (hc : bs.length ≤ cap) (hm : cap ≤ maxLen) :
    Calls Try.prog 14 #[.slice A bs.length cap] w (DrawnR1 w) := by
  go_enter Try.func14, Try.ntmps14
  go_wp2_with fail
  refine (l20Open_any A cap bs _ h hc hm).mono ?_
  rintro e w1 ⟨zs0, rfl, hrd1, hb1⟩
  have hl1 := hrd1.lt
  clear h
  go_wp2_with fail
  refine (l20AnyRel_any _ zs0 0 _ hrd1 (by omega) (by omega)).mono ?_
  rintro e w2 ⟨zs, A2, c2, rfl, hll, hsh, hol, p', hpa, hpb, hrd2, hgr2⟩
  have O2 := Lib.hid hol
  have HS := Lib.hid hsh
  have HB := Lib.hid (grown_below hb1 hgr2 (Nat.le_refl _))
  have hs1 := hb1.size
  clear hol hsh hrd1 hrd2 hgr2 hb1
  go_wp2
  go_ret
  exact ⟨zs, A2, c2, rfl, hll, HS.out, owns_baseE O2.out hs1, HB.out⟩
end Go.Proofs.Ytphinkcfmdnpfaa
namespace Go.Proofs.Ytphinkcfmdnpfaa
open Go.RowKit

def DrawnTwo (w : World) (e : Ending) (w' : World) : Prop :=
  ∃ a b c d, e = .returned (.tuple #[.agg #[.int .i64 a, .int .i64 b], .agg #[.int .i64 c, .int .i64 d]]) ∧ (-1 ≤ a ∧ a ≤ 101 ∧ -1 ≤ b ∧ b ≤ 101) ∧ (-1 ≤ c ∧ c ≤ 101 ∧ -1 ≤ d ∧ d ≤ 101) ∧ Below w.heap.size w w'

theorem bytes_below {w w' : World} {B : Nat} {A : Option Addr} {zs : List Int} (h : Bytes w w.heap.size A zs) (hb : Below w.heap.size w w') (hB : w.heap.size ≤ B) : Bytes w' B A zs :=
  ⟨h.1, fun hn => by
    obtain ⟨b, off, e, hlt, hc⟩ := h.2 hn
    exact ⟨b, off, e, by omega, fun i hi => (hb.cell (p := ⟨b, off + i, none⟩) hlt).trans (hc i hi)⟩⟩

end Go.Proofs.Ytphinkcfmdnpfaa
