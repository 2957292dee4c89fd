/-
  Walks: slices of rows: equality, marks.
-/
import Derived.Test.YtphinkcfmdnpfaaRowT
import Derived.Laws.IdiomStrings
import Derived.Test.YtphinkcfmdnpfaaRowS
namespace Go.Proofs.Ytphinkcfmdnpfaa
open Go.RowKit

def digs : Nat → Nat → ByteArray → ByteArray
  | 0, _, acc => acc
  | n + 1, k, acc => if k = 0 then acc else digs n (k / 10) (ByteArray.mk #[UInt8.ofNat (48 + k % 10)] ++ acc)
def markT (k : Int) : ByteArray := if k ≤ 0 then ⟨#[109, 48]⟩ else ByteArray.mk #[109] ++ digs 20 k.toNat ⟨#[]⟩

set_option maxRecDepth 100000 in
set_option maxHeartbeats 1000000 in
theorem markText_any (k0 : Int) (w : World) (h0 : 1 ≤ k0) (h1 : k0 ≤ 4000000000) :
    Calls Try.prog 92 #[.int .i64 k0] w fun e w' => e = .returned (.string (markT k0)) ∧ Below w.heap.size w w' := by
  go_enter Try.func92, Try.ntmps92
  go_wp2
  go_loopw [0, 3] (fun kv out wr => ∃ (n j : Nat) (acc : ByteArray), j < 10 ^ n ∧ n ≤ 20 ∧ j ≤ 4000000000 ∧ acc.size + n ≤ 20 ∧ kv = .int .i64 j ∧ out = .string acc ∧ digs n j acc = digs 20 k0.toNat ⟨#[]⟩ ∧ Below w.heap.size w wr) (fun kv _ _ => (intOf kv).toNat)
  case atStart => exact ⟨20, k0.toNat, ⟨#[]⟩, by omega, by omega, by omega, by simp [ByteArray.size], by congr 1; omega, rfl, rfl, Below.refl _ _⟩
  case round =>
    obtain ⟨n, j, acc, hj, hn, hj', ha, rfl, rfl, he, hbr⟩ := hrel
    have He := Lib.hid he
    clear he
    by_cases hpos : 0 < j
    · have hconv : (convert 22 9 (.slice (some ⟨wr.heap.size, 0, none⟩) 1 1)).run Try.prog (wr.alloc (Obj.cells #[.int .u8 (48 + (j : Int) % 10)] 5)) = .ok (.string ⟨#[UInt8.ofNat (48 + j % 10)]⟩) (wr.alloc (Obj.cells #[.int .u8 (48 + (j : Int) % 10)] 5)) := by
        refine run_convert_bytes_back (P := Try.prog) _ 22 9 5 ⟨wr.heap.size, 0, none⟩ 1 [UInt8.ofNat (48 + j % 10)] Try.underlying22 Try.underlying5 Try.underlying9 ?_
        intro i hi
        have : i = 0 := by simpa using hi
        subst this
        have hb : (48 + j % 10) % 256 = 48 + j % 10 := by omega
        simp [Addr.add, go_sem, hb]
      have hsz : ((ByteArray.mk #[UInt8.ofNat (48 + j % 10)]).size : Int) = 1 := rfl
      obtain ⟨m, rfl⟩ : ∃ m, n = m + 1 := by
        cases n with
        | zero => omega
        | succ m => exact ⟨m, rfl⟩
      have hs2 : (ByteArray.mk #[UInt8.ofNat (48 + j % 10)] ++ acc).size + m ≤ 20 := by rw [ByteArray.size_append]; have : (ByteArray.mk #[UInt8.ofNat (48 + j % 10)]).size = 1 := rfl; omega
      have hd : digs m (j / 10) (ByteArray.mk #[UInt8.ofNat (48 + j % 10)] ++ acc) = digs 20 k0.toNat ⟨#[]⟩ := by
        rw [← He.out]
        conv => rhs; rw [digs, if_neg (by omega)]
      have hj2 : j / 10 < 10 ^ m := by
        rw [Nat.pow_succ] at hj
        omega
      have HD := Lib.hid hd
      have HS2 := Lib.hid hs2
      have HJ2 := Lib.hid hj2
      clear hs2 hd hj2
      generalize ByteArray.mk #[UInt8.ofNat (48 + j % 10)] = bb at hconv hsz HD HS2
      go_wp2
      go_roundw
      case rel => exact ⟨m, j / 10, bb ++ acc, HJ2.out, by omega, by omega, HS2.out, by congr 1, rfl, HD.out, hbr.alloc hbr.size _⟩
      case measure => simp [intOf]; omega
    · obtain rfl : j = 0 := by omega
      have hd : digs n 0 acc = acc := by cases n <;> simp [digs]
      have hm : markT k0 = ByteArray.mk #[109] ++ acc := by rw [markT, if_neg (by omega), ← He.out, hd]
      have HM := Lib.hid hm
      clear hm hd
      go_wp2
      go_ret
      exact ⟨by rw [HM.out]; rfl, hbr⟩
end Go.Proofs.Ytphinkcfmdnpfaa
namespace Go.Proofs.Ytphinkcfmdnpfaa
open Go.RowKit

def rowMk (c : Int) : RowV := ⟨markT c, markT (c + 1), c + 2, c + 3⟩

set_option maxRecDepth 100000 in
set_option maxHeartbeats 2000000 in
theorem markRowS_some (g cap base : Nat) (zs : List RowV) (k0 : Int) (w : World) (h : w.ownsRow base 70 4 (.slice (some ⟨g, 0, none⟩) zs.length cap) zs.length (flatOf rowC zs)) (hk : 1 ≤ k0) (hk' : k0 ≤ 1000000000) (hl : zs.length ≤ 4194304) :
    Calls Try.prog 36 #[.slice (some ⟨g, 0, none⟩) zs.length cap, .int .i64 k0] w fun e w' => e = .returned (.int .i64 (k0 + 4 * zs.length)) ∧ w'.ownsRow base 70 4 (.slice (some ⟨g, 0, none⟩) zs.length cap) zs.length (flatOf rowC (markE rowMk 4 k0 zs.length)) ∧ w.grownBy w' (some g) := by
  have H := Lib.hid h
  clear h
  go_enter Try.func36, Try.ntmps36
  go_wp2
  go_loopw [1, 5] (fun kv i wr => ∃ j : Nat, j ≤ zs.length ∧ i = .int .i64 j ∧ kv = .int .i64 (k0 + 4 * (j : Int)) ∧ wr.ownsRow base 70 4 (.slice (some ⟨g, 0, none⟩) zs.length cap) zs.length (flatOf rowC (markToE rowMk 4 zs k0 j)) ∧ w.grownBy wr (some g)) (fun _ i _ => zs.length - (intOf i).toNat)
  case atStart => exact ⟨0, Nat.zero_le _, rfl, by simp, by rw [markToE_zero]; exact H.out, ⟨rfl, rfl, rfl, Nat.le_refl _, fun k hk _ => rfl⟩⟩
  case round =>
    obtain ⟨j, hj, rfl, rfl, hown, hgr⟩ := hrel
    have Hown := Lib.hid hown
    have Hgr := Lib.hid hgr
    clear hown hgr
    by_cases hlt : j < zs.length
    · have Hget := Lib.hid (markToE_get (mk := rowMk) (d := 4) zs k0 j hlt)
      have Hset := Lib.hid (markToE_set (mk := rowMk) (d := 4) zs k0 j hlt)
      have Hlen := Lib.hid (markToE_length (mk := rowMk) (d := 4) zs k0 j hj)
      have hgl : g < wr.heap.size := (Hown.out.lt g rfl).2
      go_wp2_with fail
      refine (markText_any _ _ (by omega) (by omega)).mono ?_
      rintro e w0 ⟨rfl, hb0⟩
      have O0 := Lib.hid (ownsKeep Hown.out hb0)
      have G0 := Lib.hid (grownTrans Hgr.out (belowGrown hb0 (some g)))
      clear hb0
      have e0 : (w0 : World).cell? ⟨g, j * 4, none⟩ = some (.string zs[j].k) := by
        rw [O0.out.cellAt (j * 4) (by omega)]; exact flatOf_get rowC_len _ j _ 0 Hget.out (by omega)
      have f0 := O0.out.frozenAt (j * 4)
      have s0 := O0.out.stored (j * 4) (.string (markT (k0 + 4 * (j : Int))))
      have P0 := Lib.hid s0.1
      have Q0 := Lib.hid (grownTrans G0.out s0.2)
      clear s0
      go_wp2_with fail
      refine (markText_any _ _ (by omega) (by omega)).mono ?_
      rintro e w1 ⟨rfl, hb1⟩
      have O1 := Lib.hid (ownsKeep P0.out hb1)
      have G1 := Lib.hid (grownTrans Q0.out (belowGrown hb1 (some g)))
      clear hb1 P0 Q0 e0 f0
      have e1 : (w1 : World).cell? ⟨g, j * 4 + 1, none⟩ = some (.string zs[j].t) := by
        rw [O1.out.cellAt (j * 4 + 1) (by omega)]; rw [List.getElem?_set_ne (by omega)]; exact flatOf_get rowC_len _ j _ 1 Hget.out (by omega)
      have f1 := O1.out.frozenAt (j * 4 + 1)
      have e2 : (w1 : World).cell? ⟨g, j * 4 + 2, none⟩ = some (.int .i64 zs[j].f) := by
        rw [O1.out.cellAt (j * 4 + 2) (by omega)]; rw [List.getElem?_set_ne (by omega)]; exact flatOf_get rowC_len _ j _ 2 Hget.out (by omega)
      have f2 := O1.out.frozenAt (j * 4 + 2)
      have e3 : (w1 : World).cell? ⟨g, j * 4 + 3, none⟩ = some (.int .i64 zs[j].e) := by
        rw [O1.out.cellAt (j * 4 + 3) (by omega)]; rw [List.getElem?_set_ne (by omega)]; exact flatOf_get rowC_len _ j _ 3 Hget.out (by omega)
      have f3 := O1.out.frozenAt (j * 4 + 3)
      have s1 := O1.out.stored (j * 4 + 1) (.string (markT (k0 + 4 * (j : Int) + 1)))
      have P1 := Lib.hid s1.1
      have Q1 := Lib.hid (grownTrans G1.out s1.2)
      clear s1
      have s2 := P1.out.stored (j * 4 + 2) (.int .i64 (k0 + 4 * (j : Int) + 2))
      have P2 := Lib.hid s2.1
      have Q2 := Lib.hid (grownTrans Q1.out s2.2)
      clear s2
      have s3 := P2.out.stored (j * 4 + 3) (.int .i64 (k0 + 4 * (j : Int) + 3))
      have P3 := Lib.hid s3.1
      have Q3 := Lib.hid (grownTrans Q2.out s3.2)
      clear s3
      have hset : ((((flatOf rowC (markToE rowMk 4 zs k0 j)).set (j * 4) (.string (markT (k0 + 4 * (j : Int))))).set (j * 4 + 1) (.string (markT (k0 + 4 * (j : Int) + 1)))).set (j * 4 + 2) (.int .i64 (k0 + 4 * (j : Int) + 2))).set (j * 4 + 3) (.int .i64 (k0 + 4 * (j : Int) + 3)) = flatOf rowC (markToE rowMk 4 zs k0 (j + 1)) := by
        have := flatOf_set rowC_len (rowMk (k0 + 4 * (j : Int))) (markToE rowMk 4 zs k0 j) j (by rw [Hlen.out]; omega)
        rw [Hset.out] at this
        skip
        exact this
      have HS := Lib.hid (show ((((((w1 : World).setCell ⟨g, j * 4 + 1, none⟩ (.string (markT (k0 + 4 * (j : Int) + 1)))) : World).setCell ⟨g, j * 4 + 2, none⟩ (.int .i64 (k0 + 4 * (j : Int) + 2))) : World).setCell ⟨g, j * 4 + 3, none⟩ (.int .i64 (k0 + 4 * (j : Int) + 3))).ownsRow base 70 4 (.slice (some ⟨g, 0, none⟩) zs.length cap) zs.length (flatOf rowC (markToE rowMk 4 zs k0 (j + 1))) from by rw [← hset]; exact P3.out)
      have HG := Lib.hid Q3.out
      clear hset
      go_wp2
      go_roundw
      case rel => exact ⟨j + 1, by omega, by go_num, by go_num, (by first | exact HS.out | (have := HS.out; simp only [Int.add_assoc, Nat.add_assoc] at this ⊢; exact this)), (by first | exact HG.out | (have := HG.out; simp only [Int.add_assoc, Nat.add_assoc] at this ⊢; exact this))⟩
      case measure => simp [intOf]; omega
    · obtain rfl : j = zs.length := by omega
      go_wp2
      go_ret
      have := Hown.out
      rw [markToE_all] at this
      exact ⟨rfl, this, Hgr.out⟩

set_option maxHeartbeats 1000000 in
theorem markRowS_nil (k0 : Int) (w : World) : Calls Try.prog 36 #[.slice none 0 0, .int .i64 k0] w fun e w' => e = .returned (.int .i64 k0) ∧ w' = w := by
  go_enter Try.func36, Try.ntmps36
  go_wp2
  go_loopw [1, 5] (fun kv i wr => i = .int .i64 0 ∧ kv = .int .i64 k0 ∧ wr = w) (fun _ i _ => 0)
  case atStart => exact ⟨rfl, rfl, rfl⟩
  case round =>
    obtain ⟨rfl, rfl, rfl⟩ := hrel
    go_wp2
    go_ret
    exact ⟨rfl, rfl⟩

theorem markRowS_any (base : Nat) (v : Value) (zs : List RowV) (k0 : Int) (w : World) (h : w.ownsRow base 70 4 v zs.length (flatOf rowC zs)) (hk : 1 ≤ k0) (hk' : k0 ≤ 1000000000) (hl : zs.length ≤ 4194304) :
    Calls Try.prog 36 #[v, .int .i64 k0] w fun e w' => e = .returned (.int .i64 (k0 + 4 * zs.length)) ∧ w'.ownsRow base 70 4 v zs.length (flatOf rowC (markE rowMk 4 k0 zs.length)) ∧ w.grownBy w' v.ownBlock := by
  rcases h.2 with ⟨hv, h0⟩ | ⟨g, c, cur, hv, _⟩
  · obtain rfl : zs = [] := List.length_eq_zero_iff.1 h0
    subst hv
    exact (markRowS_nil k0 w).mono fun e w' ⟨h1, h2⟩ => by subst h2; exact ⟨by simpa using h1, h, ⟨rfl, rfl, rfl, Nat.le_refl _, fun k hk _ => rfl⟩⟩
  · subst hv
    exact markRowS_some g c base zs k0 w h hk hk' hl

set_option maxRecDepth 100000 in
set_option maxHeartbeats 2000000 in
theorem heldRowS_any (A : Option Addr) (n cap : Nat) (k0 : Int) (w : World) (hz : RowsA w A (markE rowMk 4 k0 n)) (hk : 1 ≤ k0) (hk' : k0 ≤ 1000000000) (hl : n ≤ 4194304) :
    Calls Try.prog 46 #[.slice A n cap, .int .i64 k0] w fun e w' => e = .returned (.int .i64 (k0 + 4 * n)) ∧ Below w.heap.size w w' := by
  have HZ := Lib.hid hz
  clear hz
  go_enter Try.func46, Try.ntmps46
  go_wp2
  go_loopw [1, 5] (fun kv i wr => ∃ j : Nat, j ≤ n ∧ i = .int .i64 j ∧ kv = .int .i64 (k0 + 4 * (j : Int)) ∧ Below w.heap.size w wr) (fun _ i _ => n - (intOf i).toNat)
  case atStart => exact ⟨0, Nat.zero_le _, rfl, by simp, Below.refl _ _⟩
  case round =>
    obtain ⟨j, hj, rfl, rfl, hbr⟩ := hrel
    by_cases hlt : j < n
    · obtain ⟨b, off, x, rfl, hb, hx, c0, c1, c2, c3⟩ := (HZ.out.below hbr).at_ (show j < (markE rowMk 4 k0 n).length by rw [markE_length]; exact hlt)
      rw [markE_get k0 n j hlt] at hx
      injection hx with hx
      subst hx
      have d0 : wr.cell? ⟨b, off + j * 4, none⟩ = some (.string (markT (k0 + 4 * (j : Int)))) := c0
      have d1 : wr.cell? ⟨b, off + j * 4 + 1, none⟩ = some (.string (markT (k0 + 4 * (j : Int) + 1))) := c1
      have d2 : wr.cell? ⟨b, off + j * 4 + 2, none⟩ = some (.int .i64 (k0 + 4 * (j : Int) + 2)) := c2
      have d3 : wr.cell? ⟨b, off + j * 4 + 3, none⟩ = some (.int .i64 (k0 + 4 * (j : Int) + 3)) := c3
      have B0 := Lib.hid hbr
      clear hbr c0 c1 c2 c3
      go_wp2_with fail
      refine wp_region_later (by kernel_rfl) (by kernel_rfl) ?_
      intro f hf1 hf2 hfc
      repeat (go_big_quiet_step ((go_at_call 92; exact calls_later hf1 hf2 (markText_any _ _ (by omega) (by omega)))))
      refine wpQuiet_nil ?_
      rintro _ ⟨v, rfl⟩
      replace d1 := cellBelow (hf1.out v) hb d1
      replace d2 := cellBelow (hf1.out v) hb d2
      replace d3 := cellBelow (hf1.out v) hb d3
      have B1 := Lib.hid (B0.out.trans ((hf1.out v).mono B0.out.size))
      replace hb := Nat.lt_of_lt_of_le hb (hf1.out v).size
      clear d0
      clear hfc B0 hf1 hf2
      generalize f v = w0 at *
      clear v f
      go_wp2_with fail
      refine wp_region_later (by kernel_rfl) (by kernel_rfl) ?_
      intro f hf1 hf2 hfc
      repeat (go_big_quiet_step ((go_at_call 92; exact calls_later hf1 hf2 (markText_any _ _ (by omega) (by omega)))))
      refine wpQuiet_nil ?_
      rintro _ ⟨v, rfl⟩
      replace d2 := cellBelow (hf1.out v) hb d2
      replace d3 := cellBelow (hf1.out v) hb d3
      have B2 := Lib.hid (B1.out.trans ((hf1.out v).mono B1.out.size))
      replace hb := Nat.lt_of_lt_of_le hb (hf1.out v).size
      clear d1
      clear hfc B1 hf1 hf2
      generalize f v = w1 at *
      clear v f
      go_wp2
      go_roundw
      case rel => exact ⟨j + 1, by omega, by go_num, by go_num, B2.out⟩
      case measure => simp [intOf]; omega
    · obtain rfl : j = n := by omega
      go_wp2
      go_ret
      exact ⟨rfl, hbr⟩
end Go.Proofs.Ytphinkcfmdnpfaa
