/-
  Walk: what is drawn of a code: a table.
-/
import Derived.Test.YtphinkcfmdnpfaaLawRM
namespace Go.Proofs.Ytphinkcfmdnpfaa
open Go.Shelf Go.RowKit Go.Lib Go.Sort

/-- A drawn table. -/
def DrawnR1 (w : World) (e : Ending) (w' : World) : Prop :=
  ∃ (zs : List RowV) (A : Option Addr) (cap : Nat), e = .returned (.slice A zs.length cap) ∧ zs.length ≤ 25 ∧ Short zs ∧ w'.ownsRow w.heap.size 70 4 (.slice A zs.length cap) zs.length (flatOf rowC zs) ∧ Below w.heap.size w w'

set_option maxRecDepth 100000 in
set_option maxHeartbeats 2000000 in
theorem DrawIndexOf_any (A : Option Addr) (cap : Nat) (bs : List Int) (w : World) (h : Bytes w w.heap.size A bs) (hc : bs.length ≤ cap) (hm : cap ≤ maxLen) :
    Calls Try.prog 49 #[.slice A bs.length cap] w (DrawnR1 w) := by
  go_enter Try.func49, Try.ntmps49
  go_wp2_with fail
  refine (l20Open_any A cap bs _ h hc hm).mono ?_
  rintro e w1 ⟨zs0, rfl, hrd1, hb1⟩
  have hl1 := hrd1.lt
  clear h
  go_wp2_with fail
  refine (l20AnyRel_any _ zs0 0 _ hrd1 (by omega) (by omega)).mono ?_
  rintro e w2 ⟨zs, A2, c2, rfl, hll, hsh, hol, p', hpa, hpb, hrd2, hgr2⟩
  have O2 := Lib.hid hol
  have HS := Lib.hid hsh
  have HB := Lib.hid (grown_below hb1 hgr2 (Nat.le_refl _))
  have hs1 := hb1.size
  clear hol hsh hrd1 hrd2 hgr2 hb1
  go_wp2
  go_ret
  exact ⟨zs, A2, c2, rfl, hll, HS.out, owns_baseE O2.out hs1, HB.out⟩
end Go.Proofs.Ytphinkcfmdnpfaa
