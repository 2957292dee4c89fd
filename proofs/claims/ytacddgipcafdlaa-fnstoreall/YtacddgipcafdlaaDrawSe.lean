/-
  Walks: what is drawn of a code: tables for a store.
-/
import Derived.Test.YtacddgipcafdlaaDrawSd
namespace Go.Proofs.Ytacddgipcafdlaa
open Go.Shelf Go.RowKit Go.Lib Go.Sort

/-- Drawn tables. -/
def DrawnTW (w : World) (e : Ending) (w' : World) : Prop :=
  ∃ (tts : List (List RowV)) (A : Option Addr) (cap : Nat), e = .returned (.slice A tts.length cap) ∧ tts.length ≤ 6 ∧ (∀ t ∈ tts, t.length ≤ 25 ∧ Short t) ∧ TabsA w' A tts ∧ Below w.heap.size w w'

set_option maxRecDepth 100000 in
set_option maxHeartbeats 4000000 in
theorem DrawStoreAll_any (A : Option Addr) (cap : Nat) (bs : List Int) (w : World) (h : Bytes w w.heap.size A bs) (hc : bs.length ≤ cap) (hm : cap ≤ maxLen) :
    Calls Try.prog 55 #[.slice A bs.length cap] w (DrawnTW w) := by
  obtain ⟨j0, hi, hz0, hz1, hz2⟩ := info_parts Try.infoTT
  have Ji := Lib.hid hi
  have Jz0 := Lib.hid hz0
  have Jz1 := Lib.hid hz1
  have Jz2 := Lib.hid hz2
  clear hi hz0 hz1 hz2
  go_enter Try.func55, Try.ntmps55
  go_wp2_with fail
  refine (l20Open_any A cap bs _ h hc hm).mono ?_
  rintro e w1 ⟨zs0, rfl, hrd1, hb1⟩
  have hR := hrd1.lt
  clear h
  go_wp2_with fail
  refine (l20Rels_any _ zs0 0 _ hrd1 (by omega) (by omega)).mono ?_
  rintro e w2 ⟨tts, A2, c2, rfl, htl, hall, hT, p2, hp2a, hp2b, hrd2, hgr2⟩
  have HAll := Lib.hid hall
  have z2 := hgr2.size
  clear hall
  go_wp2_with fail
  refine (pick_any _ zs0 p2 8 _ hrd2 (by omega) (by omega) (by omega) (by omega)).mono ?_
  rintro e w3 ⟨v, rfl, v0, v1, hrd3, hgr3⟩
  have T3 := Lib.hid (hT.grown hgr3 (.inl hR))
  have g3 := grown_trans hgr2 hgr3
  have z3 := g3.size
  clear hT hgr2 hgr3 hrd2 hrd1
  by_cases e0 : v = 0
  · subst e0
    go_wp2_with fail
    refine (l20AnyRel_any _ zs0 (p2 + 1) _ hrd3 (by omega) (by omega)).mono ?_
    rintro e w4 ⟨xs, A4, c4, rfl, hxl, hxs, ho4, p4, hp4a, hp4b, hrd4, hgr4⟩
    have F4 := Lib.hid (tabs_far T3.out z3 ho4)
    have RA4 := Lib.hid (rowsA_own ho4 rfl)
    have T4 := Lib.hid ((T3.out.grown hgr4 (.inl hR)).below ((Below.refl _ _).alloc (Nat.le_refl _) (.cells #[.slice A4 xs.length c4] 58)))
    obtain ⟨sl, hsl, hso, hst⟩ := T4.out
    have HSL := Lib.hid hsl
    have HSO := Lib.hid hso
    have HST := Lib.hid hst
    have HX := Lib.hid hxs
    have g4 := grown_trans g3 hgr4
    have z4 := g4.size
    have G4 := Lib.hid g4
    clear hsl hso hst T4 T3 ho4 hgr4 g3 hrd4 hrd3 hxs g4
    go_wp2_with (at_builtin; refine wpList_append_own_at _ rfl _ _ 29 rfl w1.heap.size 58 j0 _ 1 24 Try.underlying29 Ji.out Jz0.out Jz1.out Jz2.out rfl (by decide) (.slice A2 tts.length c2) tts.length sl rfl HSO.out ⟨w4.heap.size, 0, none⟩ 1 1 [.slice A4 xs.length c4] rfl rfl (news1T (by simp)) (by simp [Value.oneCell']) (by unfold maxLen; omega) (by omega) (by simp; omega) ?_; intro v' w8 hown' hg8 hnil hat; have H8 := Lib.hid hown'; have G8 := Lib.hid hg8; have AT8 := Lib.hid hat; clear hown' hg8 hnil hat)
    have B10 := (Below.refl w4.heap.size w4).alloc (Nat.le_refl _) (.cells #[.slice A4 xs.length c4] 58)
    have hlt10 : w4.heap.size < (w4.alloc (Obj.cells #[Value.slice A4 xs.length c4] 58)).heap.size := by simp
    have T8 := TabsO.snoc HSL.out HST.out H8.out G8.out AT8.out (RA4.out.below B10) (fun b off e => ⟨(F4.out b off e).1, by have := (F4.out b off e).2.1; omega, (F4.out b off e).2.2⟩)
    have hlt3 : ∀ k, (Value.slice A2 tts.length c2).ownBlock = some k → w1.heap.size ≤ k := fun k e => (HSO.out.lt k e).1
    have W8 := grown_new3 (grown_alloc G4.out (.cells #[.slice A4 xs.length c4] 58)) G8.out hlt3
    obtain ⟨A', c', rfl⟩ := T8.form
    have HT8 := Lib.hid T8.tabs
    have HB8 := Lib.hid (grown_below hb1 W8 (Nat.le_refl _))
    have AL8 := Lib.hid (show ∀ t ∈ tts ++ [xs], t.length ≤ 25 ∧ Short t from fun t ht => by
      rcases List.mem_append.1 ht with ht | ht
      · exact ⟨by have := (HAll.out t ht).1; omega, (HAll.out t ht).2⟩
      · rw [List.mem_singleton.1 ht]; exact ⟨hxl, HX.out⟩)
    have hln : (tts ++ [xs]).length ≤ 6 := by rw [List.length_append, List.length_singleton]; omega
    clear T8 W8 hlt3 H8 G8 AT8 HSL HSO HST F4 RA4
    generalize tts ++ [xs] = tt8 at *
    go_wp2
    go_ret
    exact ⟨tt8, A', c', rfl, hln, AL8.out, HT8.out, HB8.out⟩
  · have e0' : (v == 0) = false := by simpa using e0
    have HT3 := Lib.hid T3.out.tabs
    have HB3 := Lib.hid (grown_below hb1 g3 (Nat.le_refl _))
    clear e0
    go_wp2
    go_ret
    exact ⟨tts, A2, c2, rfl, by omega, fun t ht => ⟨by have := (HAll.out t ht).1; omega, (HAll.out t ht).2⟩, HT3.out, HB3.out⟩

end Go.Proofs.Ytacddgipcafdlaa
