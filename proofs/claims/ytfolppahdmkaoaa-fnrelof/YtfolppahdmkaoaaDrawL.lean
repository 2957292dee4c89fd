/-
  Walks: a drawn table and what is asked of it.
-/
import Derived.Test.YtfolppahdmkaoaaDrawT
import Derived.Test.YtfolppahdmkaoaaRelGet
namespace Go.Proofs.Ytfolppahdmkaoaa
open Go.Shelf Go.RowKit Go.Lib Go.Sort

/-- A drawn table, a key and a point. -/
def DrawnRG (w : World) (e : Ending) (w' : World) : Prop :=
  ∃ (zs : List RowV) (A : Option Addr) (cap : Nat) (key : ByteArray) (c : Int), e = .returned (.tuple #[.slice A zs.length cap, .string key, .int .i64 c]) ∧ zs.length ≤ 25 ∧ Short zs ∧ key.size ≤ 20 ∧ w'.ownsRow w.heap.size 45 4 (.slice A zs.length cap) zs.length (flatOf rowC zs) ∧ Below w.heap.size w w'

set_option maxRecDepth 100000 in
set_option maxHeartbeats 2000000 in
theorem DrawRelGet_any (A : Option Addr) (cap : Nat) (bs : List Int) (w : World) (h : Bytes w w.heap.size A bs) (hc : bs.length ≤ cap) (hm : cap ≤ maxLen) :
    Calls Try.prog 11 #[.slice A bs.length cap] w (DrawnRG w) := by
  go_enter Try.func11, Try.ntmps11
  go_wp2_with fail
  refine (l20Open_any A cap bs _ h hc hm).mono ?_
  rintro e w1 ⟨zs0, rfl, hrd1, hb1⟩
  have hl1 := hrd1.lt
  clear h
  go_wp2_with fail
  refine (l20AnyRel_any _ zs0 0 _ hrd1 (by omega) (by omega)).mono ?_
  rintro e w2 ⟨zs, A2, c2, rfl, hll, hsh, hol, p', hpa, hpb, hrd2, hgr2⟩
  have O2 := Lib.hid hol
  have HS := Lib.hid hsh
  clear hol hsh
  go_wp2_with fail
  refine (l20Key_any _ zs0 p' _ hrd2 (by omega) (by omega)).mono ?_
  rintro e w3 ⟨key, rfl, hk, hrd3, hgr3⟩
  have O3 := Lib.hid (O2.out.kept hgr3 (owns_notR O2.out hl1))
  have HK := Lib.hid hk
  clear hk O2
  go_wp2_with fail
  refine (pick_any _ zs0 (p' + 1) _ _ hrd3 (by omega) (by omega) (by omega) (by omega)).mono ?_
  rintro e w4 ⟨v, rfl, v0, v1, hrd4, hgr4⟩
  have O4 := Lib.hid (O3.out.kept hgr4 (owns_notR O3.out hl1))
  have HB := Lib.hid (grown_below hb1 (grown_trans hgr2 (grown_trans hgr3 hgr4)) (Nat.le_refl _))
  have hs1 := hb1.size
  clear hgr2 hgr3 hgr4 hrd1 hrd2 hrd3 hrd4 O3 hb1
  go_wp2
  refine bodyPost_ret (v := .tuple #[.slice A2 zs.length c2, .string key, .int .i64 v]) (by simp [results, Try.results11, go_sem]) rfl ?_
  exact ⟨zs, A2, c2, key, v, rfl, hll, HS.out, HK.out, owns_baseE O4.out hs1, HB.out⟩

set_option maxRecDepth 100000 in
set_option maxHeartbeats 2000000 in
theorem vaText_any (A : Option Addr) (cap : Nat) (ps : List PairV) (key : ByteArray) (w : World) (hz : PairsA w A ps) (hpl : ps.length ≤ 1048577) :
    Calls Try.prog 16 #[.slice A ps.length cap, .string key] w fun e w' => e = .returned (.string (getP key ps)) ∧ w = w' := by
  have HA := Lib.hid hz
  clear hz
  go_enter Try.func16, Try.ntmps16
  go_wp2
  go_loopw [5] (fun i wr => ∃ k : Nat, k ≤ ps.length ∧ i = .int .i64 k ∧ getP key (ps.drop k) = getP key ps ∧ w = wr) (fun i _ => ps.length - (intOf i).toNat)
  case atStart => exact ⟨0, Nat.zero_le _, rfl, rfl, rfl⟩
  case round =>
    obtain ⟨k, hk, rfl, hg, rfl⟩ := hrel
    have HG := Lib.hid hg
    clear hg
    by_cases hlt : k < ps.length
    · obtain ⟨b, off, x, rfl, hb, hx, c0, c1⟩ := HA.out.at_ hlt
      have HD := Lib.hid (drop_at hx)
      clear hx
      cases hkey : (x.k.toList == key.toList)
      · have HK := Lib.hid (show getP key (ps.drop (k + 1)) = getP key ps from by rw [← HG.out, HD.out, getP, if_neg (by rw [hkey]; simp)])
        go_wp2
        go_roundw
        case rel => exact ⟨k + 1, by omega, by go_num, HK.out, by first | rfl | trivial⟩
        case measure => simp [intOf]; omega
      · have HK := Lib.hid (show getP key ps = x.t from by rw [← HG.out, HD.out, getP, if_pos hkey])
        go_wp2
        go_ret
        exact ⟨ret_text HK.out.symm, rfl⟩
    · obtain rfl : k = ps.length := by omega
      have HK := Lib.hid (show getP key ps = ⟨#[]⟩ from by rw [← HG.out, List.drop_length]; rfl)
      go_wp2
      go_ret
      exact ⟨ret_text HK.out.symm, rfl⟩
end Go.Proofs.Ytfolppahdmkaoaa
