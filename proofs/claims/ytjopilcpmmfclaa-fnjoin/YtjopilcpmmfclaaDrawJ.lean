/-
  Walks: what is drawn of a code: two tables.
-/
import Derived.Test.YtjopilcpmmfclaaLawRM
namespace Go.Proofs.Ytjopilcpmmfclaa
open Go.Shelf Go.RowKit Go.Lib Go.Sort

set_option maxRecDepth 100000 in
set_option maxHeartbeats 2000000 in
theorem DrawRelBoth_any (A : Option Addr) (cap : Nat) (bs : List Int) (w : World) (h : Bytes w w.heap.size A bs) (hc : bs.length ≤ cap) (hm : cap ≤ maxLen) :
    Calls Try.prog 44 #[.slice A bs.length cap] w (DrawnTables w) := by
  go_enter Try.func44, Try.ntmps44
  go_wp2_with fail
  refine (l20Two_any A cap bs _ h hc hm).mono ?_
  rintro e w3 ⟨za, zb, A2, A3, c2, c3, rfl, hla, hlb, hsa, hsb, ho, ho2, hb⟩
  have O2 := Lib.hid ho
  have O3 := Lib.hid ho2
  have HB := Lib.hid hb
  have HSA := Lib.hid hsa
  have HSB := Lib.hid hsb
  clear ho ho2 hb hsa hsb h
  go_wp2
  refine bodyPost_ret (v := .tuple #[.slice A2 za.length c2, .slice A3 zb.length c3]) (by simp [results, Try.results44, go_sem]) rfl ?_
  exact ⟨za, zb, A2, A3, c2, c3, rfl, hla, hlb, HSA.out, HSB.out, O2.out, O3.out, HB.out⟩

set_option maxRecDepth 100000 in
set_option maxHeartbeats 2000000 in
theorem DrawRelEither_any (A : Option Addr) (cap : Nat) (bs : List Int) (w : World) (h : Bytes w w.heap.size A bs) (hc : bs.length ≤ cap) (hm : cap ≤ maxLen) :
    Calls Try.prog 45 #[.slice A bs.length cap] w (DrawnTables w) := by
  go_enter Try.func45, Try.ntmps45
  go_wp2_with fail
  refine (l20Two_any A cap bs _ h hc hm).mono ?_
  rintro e w3 ⟨za, zb, A2, A3, c2, c3, rfl, hla, hlb, hsa, hsb, ho, ho2, hb⟩
  have O2 := Lib.hid ho
  have O3 := Lib.hid ho2
  have HB := Lib.hid hb
  have HSA := Lib.hid hsa
  have HSB := Lib.hid hsb
  clear ho ho2 hb hsa hsb h
  go_wp2
  refine bodyPost_ret (v := .tuple #[.slice A2 za.length c2, .slice A3 zb.length c3]) (by simp [results, Try.results45, go_sem]) rfl ?_
  exact ⟨za, zb, A2, A3, c2, c3, rfl, hla, hlb, HSA.out, HSB.out, O2.out, O3.out, HB.out⟩

set_option maxRecDepth 100000 in
set_option maxHeartbeats 2000000 in
theorem DrawRelJoin_any (A : Option Addr) (cap : Nat) (bs : List Int) (w : World) (h : Bytes w w.heap.size A bs) (hc : bs.length ≤ cap) (hm : cap ≤ maxLen) :
    Calls Try.prog 46 #[.slice A bs.length cap] w (DrawnTables w) := by
  go_enter Try.func46, Try.ntmps46
  go_wp2_with fail
  refine (l20Two_any A cap bs _ h hc hm).mono ?_
  rintro e w3 ⟨za, zb, A2, A3, c2, c3, rfl, hla, hlb, hsa, hsb, ho, ho2, hb⟩
  have O2 := Lib.hid ho
  have O3 := Lib.hid ho2
  have HB := Lib.hid hb
  have HSA := Lib.hid hsa
  have HSB := Lib.hid hsb
  clear ho ho2 hb hsa hsb h
  go_wp2
  refine bodyPost_ret (v := .tuple #[.slice A2 za.length c2, .slice A3 zb.length c3]) (by simp [results, Try.results46, go_sem]) rfl ?_
  exact ⟨za, zb, A2, A3, c2, c3, rfl, hla, hlb, HSA.out, HSB.out, O2.out, O3.out, HB.out⟩

end Go.Proofs.Ytjopilcpmmfclaa
