/-
  Walks: what is drawn of a code: what was known, and a stamp.
-/
import Derived.Test.YtkalanjgjeijbaaDrawSb
import Derived.Test.YtkalanjgjeijbaaDrawC
import Derived.Test.YtkalanjgjeijbaaTrcF
import Derived.Test.YtkalanjgjeijbaaTrcP
namespace Go.Proofs.Ytkalanjgjeijbaa
open Go.Shelf Go.RowKit Go.Lib Go.Sort

def DrawnTr (w : World) (e : Ending) (w' : World) : Prop :=
  ∃ (f : Nat → ByteArray) (n : Nat) (A : Option Addr) (cap : Nat) (v : Int), e = .returned (.tuple #[.slice A (trUp f n).length cap, .int .i64 v]) ∧ n ≤ 30 ∧ (0 ≤ v ∧ v ≤ 7) ∧ w'.ownsRow w.heap.size 40 2 (.slice A (trUp f n).length cap) (trUp f n).length (flatOf traC (trUp f n)) ∧ Below w.heap.size w w'

set_option maxRecDepth 100000 in
set_option maxHeartbeats 4000000 in
theorem DrawTraceAt_any (A : Option Addr) (cap : Nat) (bs : List Int) (w : World) (h : Bytes w w.heap.size A bs) (hc : bs.length ≤ cap) (hm : cap ≤ maxLen) :
    Calls Try.prog 17 #[.slice A bs.length cap] w (DrawnTr w) := by
  go_enter Try.func17, Try.ntmps17
  go_wp2_with fail
  refine (l20Open_any A cap bs _ h hc hm).mono ?_
  rintro e w1 ⟨zs0, rfl, hrd1, hb1⟩
  have hl1 := hrd1.lt
  obtain ⟨RD, hRD⟩ : ∃ R, w.heap.size = R := ⟨_, rfl⟩
  have hwR : w.heap.size ≤ RD := Nat.le_of_eq hRD
  rw [hRD] at hrd1 hl1 ⊢
  clear h hRD
  go_wp2_with fail
  refine (l20Store_any RD zs0 0 w1 hrd1 (by omega) (by omega)).mono ?_
  rintro e w2 ⟨zs, now, A2, c2, rfl, hsb, ho, p2, hp2a, hp2b, hrd2, hgr2⟩
  have HSB := Lib.hid hsb
  have hzl : zs.length ≤ 120 := versB_len (storeB_iff.1 hsb).2.1
  have hn30 := (storeB_iff.1 hsb).1
  have B2 := Lib.hid (grown_below hb1 hgr2 hwR)
  have z2 := hgr2.size
  clear hsb
  go_wp2_with fail
  refine (l20Key_any RD zs0 p2 w2 hrd2 (by omega) (by omega)).mono ?_
  rintro e w3 ⟨key, rfl, hkey, hrd3, hgr3⟩
  have O3 := Lib.hid (ho.kept hgr3 (.inr fun e => by have := (ho.lt _ e).1; omega))
  have B3 := Lib.hid (grown_below B2.out hgr3 hwR)
  have z3 := hgr3.size
  clear ho
  go_wp2_with fail
  refine (pick_any RD zs0 _ 25 w3 hrd3 (by omega) (by omega) (by omega) (by omega)).mono ?_
  rintro e w4 ⟨u, rfl, u0, u1, hrd4, hgr4⟩
  have O4 := Lib.hid (O3.out.kept hgr4 (.inr fun e => by have := (O3.out.lt _ e).1; omega))
  have B4 := Lib.hid (grown_below B3.out hgr4 hwR)
  have z4 := hgr4.size
  clear O3 hgr2 hgr3 hgr4 hrd1 hrd2 hrd3
  go_wp2_with fail
  refine (l11Of_any A2 c2 zs now key u w4 (el_of_owns verC_len O4.out) (by omega) HSB.out).mono ?_
  rintro e w5 ⟨A5, c5, rfl, ho5, hb5⟩
  have hrd5 := hrd4.kept hb5
  have B5 := Lib.hid (B4.out.trans (hb5.mono (by omega)))
  have O5 := Lib.hid ho5
  have z5 := hb5.size
  clear ho5 hb5 hrd4 O4
  go_wp2_with fail
  refine (pick_any RD zs0 _ 8 w5 hrd5 (by omega) (by omega) (by omega) (by omega)).mono ?_
  rintro e w6 ⟨v, rfl, v0, v1, hrd6, hgr6⟩
  have O6 := Lib.hid (O5.out.kept hgr6 (.inr fun e => by have := (O5.out.lt _ e).1; omega))
  have B6 := Lib.hid (grown_below B5.out hgr6 hwR)
  clear hrd5 hrd6 hgr6 O5
  go_wp2
  refine bodyPost_ret (v := .tuple #[.slice A5 (trUp (fun n => getT n key u zs) now.toNat).length c5, .int .i64 v]) (by simp [results, Try.results17, go_sem]) rfl ?_
  exact ⟨fun n => getT n key u zs, now.toNat, A5, c5, v, rfl, by omega, by omega, ownsBase O6.out (by omega), B6.out⟩
end Go.Proofs.Ytkalanjgjeijbaa
