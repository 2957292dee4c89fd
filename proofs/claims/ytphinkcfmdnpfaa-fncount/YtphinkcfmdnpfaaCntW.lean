/-
  Walk: how many keys hold, as the program finds it.
-/
import Derived.Test.YtphinkcfmdnpfaaFoldSt
import Derived.Test.YtphinkcfmdnpfaaCombW
namespace Go.Proofs.Ytphinkcfmdnpfaa
open Go.Shelf Go.RowKit Go.Lib Go.Sort

set_option maxHeartbeats 1000000 in
theorem count2_one (w : World) : OneT 61 #[] countOne w := by
  intro W p q A B ca cc ps qs hW hp hq hA hB hlp hlq hsp hsq
  clear hW hp hq hA hB hsp hsq
  by_cases h0 : ps.length = 0
  · have HE := Lib.hid (show countOne (p, q) ps qs = [] from if_pos h0)
    have hz : (ps.length : Int) = 0 := by omega
    rw [HE.out]
    have e0 : ((ps.length : Int) == 0) = true := by simp [hz]
    clear hz
    go_enter Try.func61, Try.ntmps61
    go_wp2
    go_ret
    exact getsE_nil _ _ _ ((Below.refl _ _).alloc (Nat.le_refl _) _)
  · have HE := Lib.hid (show countOne (p, q) ps qs = [⟨ps.length, p, q⟩] from if_neg h0)
    have e0 : ((ps.length : Int) == 0) = false := by rw [beq_eq_false_iff_ne]; omega
    have OL := Lib.hid (World.ownsRow_lit (base := W.heap.size) (e := 31) (size := 3) (W.alloc (.cells #[.int .i64 p, .int .i64 q] 29)) #[.int .i64 ps.length, .int .i64 p, .int .i64 q] 1 (by simp) (by simp [maxLen]) (by simp))
    rw [HE.out]
    clear h0
    go_enter Try.func61, Try.ntmps61
    go_wp2
    go_ret
    refine ⟨some ⟨W.heap.size + 1, 0, none⟩, 1, rfl, ?_, by repeat (first | exact Below.refl _ _ | refine Below.alloc ?_ (by simp) _)⟩
    have := OL.out
    simpa [flatOf, stepC] using this

set_option maxRecDepth 100000 in
set_option maxHeartbeats 4000000 in
theorem RelCount_any (A : Option Addr) (ca : Nat) (t : List RowV) (w : World) (hx : RowsA w A t) (hA : A = none → ca = 0) (hla : t.length ≤ 1048577) (hsa : Short t) :
    Calls Try.prog 15 #[.slice A t.length ca] w (GetsE stepC 3 31 w (relCountL t)) := by
  have HX := Lib.hid hx
  have HA := Lib.hid hA
  have HSA := Lib.hid hsa
  obtain ⟨o, ho⟩ : ∃ o, relOk t = o := ⟨_, rfl⟩
  have HO := Lib.hid ho
  clear hx hA hsa ho
  go_enter Try.func15, Try.ntmps15
  go_wp2_with fail
  refine (RelOk_any A ca t _ HX.out hla HSA.out).mono ?_
  rw [HO.out]
  rintro e w2 ⟨rfl, hb⟩
  have B2 := Lib.hid hb
  clear hb
  cases o
  · have HR := Lib.hid (show relCountL t = [] from if_neg (by rw [HO.out]; simp))
    go_wp2
    go_ret
    rw [HR.out]
    exact getsE_nil _ _ _ B2.out
  · have HR := Lib.hid (show relCountL t = joinSts (countRaw t (stepsOf t)) from if_pos HO.out)
    have hl1 := ((relOk_iff t).1 HO.out).1
    have hpr := countRaw_pair t
    have hcl : (countRaw t (stepsOf t)).length ≤ 48 := by
      have h1 := countRaw_len t (stepsOf t)
      have h2 := stepsOf_len t
      omega
    have HWL := Lib.hid (show walkLs countOne t [] (stepsOf (t ++ [])) = countRaw t (stepsOf t) from by rw [List.append_nil]; rfl)
    obtain ⟨rs, hrs⟩ : ∃ rs, countRaw t (stepsOf t) = rs := ⟨_, rfl⟩
    rw [hrs] at HR hpr hcl HWL
    have HPR := Lib.hid hpr
    clear hrs hpr
    go_wp2_with fail
    generalize hW : w2.alloc _ = W3
    have hbx : BoxT W3 w2.heap.size (.slice none 0 0) := by rw [← hW]; exact heap_alloc_new w2 _
    have hb3 : Below w2.heap.size w2 W3 := by rw [← hW]; exact (Below.refl _ _).alloc (Nat.le_refl _) _
    have B3 := Lib.hid (B2.out.trans (hb3.mono B2.out.size))
    have hs2 := B2.out.size
    obtain ⟨V, hV⟩ : ∃ V, w2.heap.size = V := ⟨_, rfl⟩
    rw [hV] at hbx hs2 ⊢
    have HBX := Lib.hid hbx
    have HL3 := Lib.hid (show V < W3.heap.size from hbx.lt)
    clear hW hb3 hbx hV B2
    refine (walkS_any A none ca 0 t [] 61 #[] countOne W3 (enters_of Try.func61 (by kernel_rfl) rfl) (HX.out.below B3.out) (ElAt.nil _ _) HA.out (fun _ => rfl) hl1 (by simp) (ok_small HO.out) (fun x hx => by cases hx) (count2_one W3) (fun s ps qs _ _ => Nat.le_trans (countOne_len s ps qs) (by omega))).mono ?_
    rw [HWL.out]
    rintro e w4 ⟨A4, c4, rfl, ho, hb⟩
    have O4 := Lib.hid ho
    have Box4 := Lib.hid (HBX.out.keep (hb.block _ HL3.out))
    have B4 := Lib.hid (B3.out.trans (hb.mono B3.out.size))
    clear ho hb HBX
    go_wp2_with fail
    refine (putT_any w.heap.size V (.slice none 0 0) (.slice A4 rs.length c4) [] rs w4 Box4.out hs2 (World.ownsRow_nil _ _ _ _) (srcE_of stepC_len (by omega) (el_of_owns stepC_len O4.out) (owns_nilE O4.out)) (by simp; omega)).mono ?_
    rintro e w5 ⟨rfl, v5, l, hb5, ho5, hord, hperm, hbl⟩
    rw [List.nil_append] at hperm
    have hls : l = rs := sorted_sameT l rs (hord.imp (fun {x y} h => by simpa [lessS] using h)) HPR.out hperm
    subst hls
    have Box5 := Lib.hid hb5
    have O5 := Lib.hid ho5
    have B5 := Lib.hid (B4.out.trans hbl)
    clear hb5 ho5 hord hperm hbl Box4 O4 B4
    go_wp2_with fail
    refine (foldedT_any V w.heap.size v5 l w5 Box5.out O5.out (by omega)).mono ?_
    rw [← HR.out]
    rintro e w6 ⟨A6, c6, rfl, ho6, hb6⟩
    have O6 := Lib.hid (ownsBase (base' := w.heap.size) ho6 B5.out.size)
    have B6 := Lib.hid (B5.out.trans (hb6.mono B5.out.size))
    clear ho6 hb6
    go_wp2
    go_ret
    exact ⟨A6, c6, rfl, O6.out, B6.out⟩
end Go.Proofs.Ytphinkcfmdnpfaa
