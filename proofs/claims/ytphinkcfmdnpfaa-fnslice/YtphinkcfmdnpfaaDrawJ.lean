/-
  Walks: what is drawn of a code: two tables.
-/
import Derived.Test.YtphinkcfmdnpfaaLawRM
import Derived.Test.YtphinkcfmdnpfaaDrawB
import Derived.Test.YtphinkcfmdnpfaaMeet
namespace Go.Proofs.Ytphinkcfmdnpfaa
open Go.Shelf Go.RowKit Go.Lib Go.Sort

set_option maxRecDepth 100000 in
set_option maxHeartbeats 2000000 in
theorem DrawRelBoth_any (A : Option Addr) (cap : Nat) (bs : List Int) (w : World) (h : Bytes w w.heap.size A bs) (hc : bs.length ≤ cap) (hm : cap ≤ maxLen) :
    Calls Try.prog 26 #[.slice A bs.length cap] w (DrawnTables w) := by
  go_enter Try.func26, Try.ntmps26
  go_wp2_with fail
  refine (l20Two_any A cap bs _ h hc hm).mono ?_
  rintro e w3 ⟨za, zb, A2, A3, c2, c3, rfl, hla, hlb, hsa, hsb, ho, ho2, hb⟩
  have O2 := Lib.hid ho
  have O3 := Lib.hid ho2
  have HB := Lib.hid hb
  have HSA := Lib.hid hsa
  have HSB := Lib.hid hsb
  clear ho ho2 hb hsa hsb h
  go_wp2
  refine bodyPost_ret (v := .tuple #[.slice A2 za.length c2, .slice A3 zb.length c3]) (by simp [results, Try.results26, go_sem]) rfl ?_
  exact ⟨za, zb, A2, A3, c2, c3, rfl, hla, hlb, HSA.out, HSB.out, O2.out, O3.out, HB.out⟩

set_option maxRecDepth 100000 in
set_option maxHeartbeats 2000000 in
theorem DrawRelBad_any (A : Option Addr) (cap : Nat) (bs : List Int) (w : World) (h : Bytes w w.heap.size A bs) (hc : bs.length ≤ cap) (hm : cap ≤ maxLen) :
    Calls Try.prog 20 #[.slice A bs.length cap] w (DrawnTables w) := by
  go_enter Try.func20, Try.ntmps20
  go_wp2_with fail
  refine (l20Two_any A cap bs _ h hc hm).mono ?_
  rintro e w3 ⟨za, zb, A2, A3, c2, c3, rfl, hla, hlb, hsa, hsb, ho, ho2, hb⟩
  have O2 := Lib.hid ho
  have O3 := Lib.hid ho2
  have HB := Lib.hid hb
  have HSA := Lib.hid hsa
  have HSB := Lib.hid hsb
  clear ho ho2 hb hsa hsb h
  go_wp2
  refine bodyPost_ret (v := .tuple #[.slice A2 za.length c2, .slice A3 zb.length c3]) (by simp [results, Try.results20, go_sem]) rfl ?_
  exact ⟨za, zb, A2, A3, c2, c3, rfl, hla, hlb, HSA.out, HSB.out, O2.out, O3.out, HB.out⟩
end Go.Proofs.Ytphinkcfmdnpfaa
namespace Go.Proofs.Ytphinkcfmdnpfaa
open Go.RowKit

def DrawnTwo (w : World) (e : Ending) (w' : World) : Prop :=
  ∃ a b c d, e = .returned (.tuple #[.agg #[.int .i64 a, .int .i64 b], .agg #[.int .i64 c, .int .i64 d]]) ∧ (-1 ≤ a ∧ a ≤ 101 ∧ -1 ≤ b ∧ b ≤ 101) ∧ (-1 ≤ c ∧ c ≤ 101 ∧ -1 ≤ d ∧ d ≤ 101) ∧ Below w.heap.size w w'

theorem bytes_below {w w' : World} {B : Nat} {A : Option Addr} {zs : List Int} (h : Bytes w w.heap.size A zs) (hb : Below w.heap.size w w') (hB : w.heap.size ≤ B) : Bytes w' B A zs :=
  ⟨h.1, fun hn => by
    obtain ⟨b, off, e, hlt, hc⟩ := h.2 hn
    exact ⟨b, off, e, by omega, fun i hi => (hb.cell (p := ⟨b, off + i, none⟩) hlt).trans (hc i hi)⟩⟩

end Go.Proofs.Ytphinkcfmdnpfaa
