/-
  Walks: the tree of a table, and its list, as the program makes them.
-/
import Derived.Test.YtphinkcfmdnpfaaTreG
import Derived.Test.YtphinkcfmdnpfaaCombP
import Derived.Test.YtphinkcfmdnpfaaTreL
import Derived.Test.YtphinkcfmdnpfaaRelOfS
import Derived.Laws.EntriesVeiled
namespace Go.Proofs.Ytphinkcfmdnpfaa
open Go.RowKit

/-- x put behind all that are ahead of it. -/
def insF (x : RowV) : List RowV → List RowV
  | [] => [x]
  | y :: l => if lessFK y x = true then y :: insF x l else x :: y :: l
theorem insF_perm (x : RowV) : ∀ l : List RowV, (insF x l).Perm (x :: l)
  | [] => List.Perm.refl _
  | y :: l => by
    unfold insF
    by_cases h : lessFK y x = true
    · rw [if_pos h]
      exact ((insF_perm x l).cons y).trans (List.Perm.swap x y l)
    · rw [if_neg h]
theorem insF_ordered {x : RowV} : ∀ {l : List RowV}, OrderedF l → OrderedF (insF x l)
  | [], _ => List.pairwise_singleton ..
  | y :: l, h => by
    obtain ⟨h1, h2⟩ := List.pairwise_cons.1 h
    unfold insF
    by_cases hy : lessFK y x = true
    · rw [if_pos hy]
      refine List.pairwise_cons.2 ⟨fun z hz => ?_, insF_ordered h2⟩
      rcases List.mem_cons.1 ((insF_perm x l).subset hz) with e | hz
      · subst e
        cases hc : lessFK z y with
        | false => rfl
        | true =>
          have := swoFK.trans _ _ _ hy hc
          rw [swoFK.irrefl] at this
          cases this
      · exact h1 z hz
    · rw [if_neg hy]
      have hy : lessFK y x = false := by simpa using hy
      refine List.pairwise_cons.2 ⟨fun z hz => ?_, h⟩
      rcases List.mem_cons.1 hz with e | hz
      · subst e; exact hy
      · exact swoFK.ntrans _ _ _ (h1 z hz) hy
theorem insF_at {x : RowV} : ∀ {zs : List RowV} {k : Nat}, k ≤ zs.length → (∀ j y, j < k → zs[j]? = some y → lessFK y x = true) → (∀ y, zs[k]? = some y → lessFK y x = false) → insF x zs = zs.take k ++ x :: zs.drop k
  | [], k, hk, _, _ => by
    have e : k = 0 := by simpa using hk
    subst e
    rfl
  | z :: zs, 0, _, _, h2 => by
    have h := h2 z rfl
    unfold insF
    rw [if_neg (by rw [h]; simp)]
    rfl
  | z :: zs, k + 1, hk, h1, h2 => by
    have h := h1 0 z (by omega) rfl
    unfold insF
    rw [if_pos h, insF_at (zs := zs) (k := k) (by simpa using hk) (fun j y hj hy => h1 (j + 1) y (by omega) (by simpa using hy)) (fun y hy => h2 y (by simpa using hy))]
    rfl
def sortF (l : List RowV) : List RowV := l.foldl (fun out x => insF x out) []
theorem foldF_perm : ∀ (l out : List RowV), (l.foldl (fun out x => insF x out) out).Perm (out ++ l)
  | [], out => by rw [List.append_nil]; exact List.Perm.refl _
  | x :: l, out => by
    rw [List.foldl_cons]
    refine (foldF_perm l (insF x out)).trans ?_
    refine ((insF_perm x out).append_right l).trans ?_
    exact (List.perm_middle).symm
theorem foldF_ordered : ∀ (l out : List RowV), OrderedF out → OrderedF (l.foldl (fun out x => insF x out) out)
  | [], _, h => h
  | x :: l, out, h => by rw [List.foldl_cons]; exact foldF_ordered l _ (insF_ordered h)
theorem sortF_take {t : List RowV} {i : Nat} {x : RowV} (hx : t[i]? = some x) : sortF (t.take (i + 1)) = insF x (sortF (t.take i)) := by
  obtain ⟨hk, rfl⟩ := List.getElem?_eq_some_iff.1 hx
  unfold sortF
  rw [List.take_succ_eq_append_getElem hk, List.foldl_append]
  rfl
theorem sortF_perm (l : List RowV) : (sortF l).Perm l := foldF_perm l []
theorem sortF_ordered (l : List RowV) : OrderedF (sortF l) := foldF_ordered l [] List.Pairwise.nil
theorem sortF_len (l : List RowV) : (sortF l).length = l.length := (sortF_perm l).length_eq
/-- No two rows begin together under one key. -/
def NoTie (l : List RowV) : Prop := ∀ x ∈ l, ∀ y ∈ l, lessFK x y = false → lessFK y x = false → x = y
theorem ordered_same : ∀ (s l : List RowV), OrderedF s → OrderedF l → NoTie l → s.Perm l → s = l
  | [], l, _, _, _, hp => (List.nil_perm.1 hp).symm
  | x :: s, [], _, _, _, hp => absurd (List.Perm.length_eq hp) (by simp)
  | x :: s, y :: l, hs, hl, ht, hp => by
    obtain ⟨s1, s2⟩ := List.pairwise_cons.1 hs
    obtain ⟨l1, l2⟩ := List.pairwise_cons.1 hl
    have hxy : x = y := by
      rcases List.mem_cons.1 (hp.subset (List.mem_cons_self ..)) with h | h
      · exact h
      · rcases List.mem_cons.1 (hp.symm.subset (List.mem_cons_self ..)) with h2 | h2
        · exact h2.symm
        · exact ht x (List.mem_cons_of_mem _ h) y (List.mem_cons_self ..) (l1 x h) (s1 y h2)
    subst hxy
    rw [ordered_same s l s2 l2 (fun a ha b hb => ht a (List.mem_cons_of_mem _ ha) b (List.mem_cons_of_mem _ hb)) (List.Perm.cons_inv hp)]
theorem tie_ok {t : List RowV} (h : relOk t = true) : NoTie t := by
  intro x hx y hy h1 h2
  rw [lessFK_no] at h1 h2
  have hf : x.f = y.f := by
    rcases h1 with a | ⟨a, _⟩
    · rcases h2 with b | ⟨b, _⟩ <;> omega
    · exact a
  have hk : x.k = y.k := by
    rcases h1 with a | ⟨_, a⟩
    · omega
    · rcases h2 with b | ⟨_, b⟩
      · omega
      · exact kl_same a b
  obtain ⟨ap, _⟩ := And.intro (rel_apart h) trivial
  obtain ⟨i, hi, e1⟩ := List.getElem_of_mem hx
  obtain ⟨j, hj, e2⟩ := List.getElem_of_mem hy
  have hsp := (tight_rel h).1
  have key : ∀ i j (hi : i < t.length) (hj : j < t.length), i < j → t[i].k = t[j].k → t[i].f = t[j].f → False := fun i j hi hj hij ek ef => by
    have hp := List.pairwise_iff_getElem.1 ap.2 i j hi hj hij
    have s1 := (hsp _ (List.getElem_mem hi)).2.1
    have s2 := (hsp _ (List.getElem_mem hj)).2.1
    rcases hp with a | ⟨_, a⟩
    · rw [ek, kl_irrefl] at a; cases a
    · omega
  rcases Nat.lt_trichotomy i j with h | h | h
  · exact (key i j hi hj h (by rw [e1, e2]; exact hk) (by rw [e1, e2]; exact hf)).elim
  · subst h; rw [← e1, ← e2]
  · exact (key j i hj hi h (by rw [e1, e2]; exact hk.symm) (by rw [e1, e2]; exact hf.symm)).elim
theorem sortF_only {t s : List RowV} (h : relOk t = true) (hs : OrderedF s) (hp : s.Perm t) : s = sortF t := by
  refine ordered_same _ _ hs (sortF_ordered t) (fun x hx y hy => tie_ok h x ((sortF_perm t).subset hx) y ((sortF_perm t).subset hy)) (hp.trans (sortF_perm t).symm)

def treeL (t : List RowV) : Tr := if relOk t = true then growT 24 (sortF t) else .nil
def indexL (t : List RowV) : List NodV := if relOk t = true then buildL 24 (sortF t) else []
theorem tree_index (t : List RowV) : (treeL t).list = indexL t := by
  unfold treeL indexL
  by_cases h : relOk t = true
  · rw [if_pos h, if_pos h]
    refine (grow_build 24 (sortF t) fun x hx => ?_).1
    obtain ⟨h1, h2, h3⟩ := (tight_rel h).1 x ((sortF_perm t).subset hx)
    omega
  · rw [if_neg h, if_neg h]; rfl
theorem treeL_many (t : List RowV) : (treeL t).many ≤ 24 := by
  unfold treeL
  by_cases h : relOk t = true
  · have h2 := ((relOk_iff t).1 h).1
    rw [if_pos h, growT_many 24 _ (by rw [sortF_len]; exact h2), sortF_len]
    exact h2
  · rw [if_neg h]; exact Nat.zero_le _
theorem indexL_len (t : List RowV) : (indexL t).length ≤ 24 := by
  rw [← tree_index, Tr.list_len]
  exact treeL_many t
end Go.Proofs.Ytphinkcfmdnpfaa
namespace Go.Proofs.Ytphinkcfmdnpfaa
open Go.Shelf Go.RowKit Go.Lib Go.Sort

theorem overC_node : OverC 131 := fun x l r pl pr w hl hr hm => nodeOver_any x l r pl pr w hl hr hm

theorem node_enters : ∀ args w, (callFunc 131 args).run Try.prog w = .ok (.enter 131 args) w := enters_of Try.func131 (by kernel_rfl) rfl

/-- A tree, and whether the table is one. -/
def GetsT (w : World) (T : Tr) (o : Bool) (e : Ending) (w' : World) : Prop := ∃ p, e = .returned (.tuple #[.pointer p, .bool o]) ∧ TreeAt w' T p ∧ Below w.heap.size w w'

set_option maxRecDepth 100000 in
set_option maxHeartbeats 4000000 in
theorem treeOf_any (A : Option Addr) (ca : Nat) (t : List RowV) (w : World) (hx : RowsA w A t) (hA : A = none → ca = 0) (hla : t.length ≤ 1048577) (hsa : Short t) :
    Calls Try.prog 88 #[.slice A t.length ca] w (GetsT w (treeL t) (relOk t)) := by
  have HX := Lib.hid hx
  have HA := Lib.hid hA
  have HSA := Lib.hid hsa
  obtain ⟨o, ho⟩ : ∃ o, relOk t = o := ⟨_, rfl⟩
  have HO := Lib.hid ho
  rw [ho]
  clear hx hA hsa ho
  go_enter Try.func88, Try.ntmps88
  go_wp2_with fail
  refine (RelOk_any A ca t _ HX.out hla HSA.out).mono ?_
  rw [HO.out]
  rintro e w2 ⟨rfl, hb⟩
  have B2 := Lib.hid hb
  clear hb
  cases o
  · have HR := Lib.hid (show treeL t = .nil from if_neg (by rw [HO.out]; simp))
    go_wp2
    refine bodyPost_ret (v := .tuple #[.pointer none, .bool false]) (by simp [results, Try.results88, go_sem]) rfl ?_
    rw [HR.out]
    exact ⟨none, rfl, rfl, B2.out⟩
  · have HR := Lib.hid (show treeL t = growT 24 (sortF t) from if_pos HO.out)
    have hl1 := ((relOk_iff t).1 HO.out).1
    have HS := Lib.hid (fun s hs hp => sortF_only (s := s) HO.out hs hp)
    have hsl := sortF_len t
    go_wp2_with fail
    generalize hW : w2.alloc _ = W3
    have hbx : BoxF W3 w2.heap.size (.slice none 0 0) := by rw [← hW]; exact heap_alloc_new w2 _
    have hb3 : Below w2.heap.size w2 W3 := by rw [← hW]; exact (Below.refl _ _).alloc (Nat.le_refl _) _
    have B3 := Lib.hid (B2.out.trans (hb3.mono B2.out.size))
    have hs2 := B2.out.size
    obtain ⟨V, hV⟩ : ∃ V, w2.heap.size = V := ⟨_, rfl⟩
    rw [hV] at hbx hs2 ⊢
    have HBX := Lib.hid hbx
    clear hW hb3 hbx hV B2
    refine (putF_any w.heap.size V (.slice none 0 0) (.slice A t.length ca) [] t W3 HBX.out hs2 (World.ownsRow_nil _ _ _ _) (src_of (HX.out.below B3.out) HA.out) (by simp; omega)).mono ?_
    rintro e w5 ⟨rfl, v5, l, hb5, ho5, hord, hperm, hbl⟩
    rw [List.nil_append] at hperm
    obtain rfl := HS.out l hord hperm
    have d1 := hb5.cell1
    have O5 := Lib.hid ho5
    have B5 := Lib.hid (B3.out.trans (hbl.mono (by omega)))
    clear hb5 ho5 hord hperm hbl HBX B3
    obtain ⟨A5, c5, rfl⟩ := owns_formN O5.out
    have HR5 := Lib.hid (show RowsA w5 A5 (sortF t) from el_of_owns rowC_len O5.out)
    have hc5 := owns_cap O5.out
    have HGR := Lib.hid (grown_any 131 node_enters overC_node 24 A5 c5 (sortF t) w5 HR5.out (by omega) hc5 (by omega))
    obtain ⟨ss, hss⟩ : ∃ ss, sortF t = ss := ⟨_, rfl⟩
    rw [hss] at HGR HR d1
    try rw [hss]
    clear HR5 O5 hc5 hsl HS hss
    go_wp2_with fail
    refine HGR.out.mono ?_
    rintro e w6 ⟨p6, rfl, ht6, hb6⟩
    have T6 := Lib.hid ht6
    have B6 := Lib.hid (B5.out.trans (hb6.mono B5.out.size))
    clear ht6 hb6 HGR
    go_wp2
    refine bodyPost_ret (v := .tuple #[.pointer p6, .bool true]) (by simp [results, Try.results88, go_sem]) rfl ?_
    rw [HR.out]
    exact ⟨p6, rfl, T6.out, B6.out⟩

set_option maxHeartbeats 1000000 in
theorem IndexOf_any (A : Option Addr) (ca : Nat) (t : List RowV) (w : World) (hx : RowsA w A t) (hA : A = none → ca = 0) (hla : t.length ≤ 1048577) (hsa : Short t) :
    Calls Try.prog 33 #[.slice A t.length ca] w (GetsE nodC 6 72 w (indexL t)) := by
  have HX := Lib.hid hx
  have HSA := Lib.hid hsa
  have HI := Lib.hid (tree_index t)
  have hm := treeL_many t
  obtain ⟨T, hT⟩ : ∃ T, treeL t = T := ⟨_, rfl⟩
  have HT := Lib.hid hT
  rw [hT] at HI hm
  clear hx hsa hT
  go_enter Try.func33, Try.ntmps33
  go_wp2_with fail
  refine (treeOf_any A ca t w HX.out hA hla HSA.out).mono ?_
  rw [HT.out]
  rintro e w2 ⟨p, rfl, ht, hb⟩
  have T2 := Lib.hid ht
  have B2 := Lib.hid hb
  clear ht hb
  go_wp2_with fail
  refine (treeList_any T p w2 T2.out (by omega)).mono ?_
  rw [HI.out]
  rintro e w3 ⟨A3, c3, rfl, ho, hb⟩
  have O3 := Lib.hid (ownsBase (base' := w.heap.size) ho B2.out.size)
  have B3 := Lib.hid (B2.out.trans (hb.mono B2.out.size))
  clear ho hb
  go_wp2
  go_ret
  exact ⟨A3, c3, rfl, O3.out, B3.out⟩
end Go.Proofs.Ytphinkcfmdnpfaa
