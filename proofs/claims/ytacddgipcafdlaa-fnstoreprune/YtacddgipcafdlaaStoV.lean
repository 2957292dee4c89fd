/-
  Plain: a store with another table, at a stamp; and whether a store is ok, named.
-/
import Derived.Test.YtacddgipcafdlaaStoreP
import Derived.Test.YtacddgipcafdlaaStoSe
namespace Go.Proofs.Ytacddgipcafdlaa
open Go.Shelf Go.RowKit Go.Lib Go.Sort

theorem set_at {zs : List VerV} {now st : Int} {t : List RowV} (h : storeB zs now = true) (hg : goesB zs now t) (hs : st ≤ now) : storeAtL (setL zs now t) (now + 1) st = storeAtL zs now st := by
  have hn := (storeB_iff.1 h).1
  rw [storeAtL, storeAtL, if_pos (set_ok h hg), if_pos h, show min st (now + 1) = st from by omega, show min st now = st from by omega]
  exact liveS_old hs hn.2
theorem set_new {zs : List VerV} {now st : Int} {t : List RowV} (h : storeB zs now = true) (hg : goesB zs now t) (hs : now + 1 ≤ st) : storeAtL (setL zs now t) (now + 1) st = t := by
  have hn := (storeB_iff.1 h).1
  rw [storeAtL, if_pos (set_ok h hg), show min st (now + 1) = now + 1 from by omega]
  exact liveS_new h (by have := hg.2.1; omega) hg.1

theorem StoreOkV (A : Option Addr) (cap : Nat) (zs : List VerV) (now : Int) (w : World) (v : Bool) (hz : VersA w A zs) (hl : zs.length ≤ 1048576) (hs : ShortV zs) (h : storeB zs now = v) :
    Calls Try.prog 50 #[.agg #[.int .i64 now, .slice A zs.length cap]] w fun e w' => e = .returned (.bool v) ∧ Below w.heap.size w w' := by
  subst h; exact StoreOk_any A cap zs now w hz (by omega) hs
theorem sStoreOkV (A : Option Addr) (cap : Nat) (zs : List VerV) (now : Int) (w : World) (v : Bool) (hz : VersA w A zs) (hl : zs.length ≤ 1048576) (hs : ShortV zs) (h : storeB zs now = v) :
    Calls Try.prog 51 #[.agg #[.int .i64 now, .slice A zs.length cap]] w fun e w' => e = .returned (.bool v) ∧ Below w.heap.size w w' := by
  subst h; exact sStoreOk_any A cap zs now w hz hl hs
theorem store_shortV {zs : List VerV} {now : Int} (h : storeB zs now = true) : ShortV zs := fun x hx => by
  have h1 := rowOk_iff.1 (ver_out h hx).1
  have h2 := h1.1
  have h3 := h1.2.1
  simp only [wordB, Bool.and_eq_true, decide_eq_true_eq] at h2 h3
  unfold maxLen
  omega
end Go.Proofs.Ytacddgipcafdlaa
