/-
  Walk: what is drawn of a code: a table and a text.
-/
import Derived.Test.YtjopilcpmmfclaaLawRM
namespace Go.Proofs.Ytjopilcpmmfclaa
open Go.Shelf Go.RowKit Go.Lib Go.Sort

/-- A drawn table and a text. -/
def DrawnRT (w : World) (e : Ending) (w' : World) : Prop :=
  ∃ (zs : List RowV) (A : Option Addr) (cap : Nat) (key : ByteArray), e = .returned (.tuple #[.slice A zs.length cap, .string key]) ∧ zs.length ≤ 25 ∧ Short zs ∧ key.size ≤ 20 ∧ w'.ownsRow w.heap.size 60 4 (.slice A zs.length cap) zs.length (flatOf rowC zs) ∧ Below w.heap.size w w'

set_option maxRecDepth 100000 in
set_option maxHeartbeats 2000000 in
theorem DrawRelPick_any (A : Option Addr) (cap : Nat) (bs : List Int) (w : World) (h : Bytes w w.heap.size A bs) (hc : bs.length ≤ cap) (hm : cap ≤ maxLen) :
    Calls Try.prog 37 #[.slice A bs.length cap] w (DrawnRT w) := by
  go_enter Try.func37, Try.ntmps37
  go_wp2_with fail
  refine (l20Open_any A cap bs _ h hc hm).mono ?_
  rintro e w1 ⟨zs0, rfl, hrd1, hb1⟩
  have hl1 := hrd1.lt
  clear h
  go_wp2_with fail
  refine (l20AnyRel_any _ zs0 0 _ hrd1 (by omega) (by omega)).mono ?_
  rintro e w2 ⟨zs, A2, c2, rfl, hll, hsh, hol, p', hpa, hpb, hrd2, hgr2⟩
  have O2 := Lib.hid hol
  have HS := Lib.hid hsh
  have hs2 := hgr2.size
  clear hol hsh
  go_wp2_with fail
  refine (of_any _ w2.heap.size 4 zs0 [⟨#[120]⟩, ⟨#[121]⟩, ⟨#[113]⟩, ⟨#[]⟩] p' _ (rd_alloc hrd2 _) (by omega) (by omega) (by simp) (by simp) (by have := hrd2.lt; omega) (by decide) (by
    intro i hi
    match i, hi with
    | 0, _ => first | (simp; done) | (simp [go_sem]; done)
    | 1, _ => first | (simp; done) | (simp [go_sem]; done)
    | 2, _ => first | (simp; done) | (simp [go_sem]; done)
    | 3, _ => first | (simp; done) | (simp [go_sem]; done))).mono ?_
  rintro e w3 ⟨key, rfl, hk, hrd3, hgr3⟩
  have O2a := Lib.hid (O2.out.alloc (.cells #[.string ⟨#[120]⟩, .string ⟨#[121]⟩, .string ⟨#[113]⟩, .string ⟨#[]⟩] 9))
  have O3 := Lib.hid (O2a.out.kept hgr3 (owns_notR O2a.out hl1))
  have HK := Lib.hid hk
  have HB := Lib.hid (grown_below hb1 (grown_trans hgr2 (grown_trans (grown_alloc (grown_refl w2 _) _) hgr3)) (Nat.le_refl _))
  have hs1 := hb1.size
  clear hgr2 hgr3 hrd1 hrd2 hrd3 O2 O2a hb1 hk
  go_wp2
  refine bodyPost_ret (v := .tuple #[.slice A2 zs.length c2, .string key]) (by simp [results, Try.results37, go_sem]) rfl ?_
  exact ⟨zs, A2, c2, key, rfl, hll, HS.out, HK.out, owns_baseE O3.out hs1, HB.out⟩
end Go.Proofs.Ytjopilcpmmfclaa
