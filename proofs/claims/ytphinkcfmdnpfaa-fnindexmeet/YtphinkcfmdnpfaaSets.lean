/-
  Walks: slices of spans: whether a set is ok.
-/
import Derived.Test.YtphinkcfmdnpfaaMeet
import Derived.Deep.RegionWith
import Derived.Deep.QuietTactic
import Derived.BigQuiet
namespace Go.Proofs.Ytphinkcfmdnpfaa
open Go.RowKit

def okAt (zs : List (Int × Int)) (k : Nat) : Bool := okB (zs.getD k (0, 0)).1 (zs.getD k (0, 0)).2 && (k == 0 || decide ((zs.getD (k - 1) (0, 0)).2 < (zs.getD k (0, 0)).1))
def setOk (zs : List (Int × Int)) : Bool := (List.range zs.length).all (okAt zs)

theorem setOk_no {zs : List (Int × Int)} {k : Nat} (hk : k < zs.length) (h : okAt zs k = false) : false = setOk zs := by
  rw [eq_comm, setOk, List.all_eq_false]
  exact ⟨k, by simpa using hk, by simp [h]⟩
theorem setOk_yes {zs : List (Int × Int)} (h : ∀ j, j < zs.length → okAt zs j = true) : true = setOk zs := by
  rw [eq_comm, setOk, List.all_eq_true]
  intro k hk
  exact h k (by simpa using hk)

theorem ok_val (a b : Int) (w : World) (v : Bool) (h : okB a b = v) :
    Calls Try.prog 99 #[.agg #[.int .i64 a, .int .i64 b]] w fun e w' => e = .returned (.bool v) ∧ Below w.heap.size w w' := by
  subst h; exact ok_any a b w

theorem l1Ok_val (a b : Int) (w : World) (v : Bool) (h : okB a b = v) :
    Calls Try.prog 97 #[.agg #[.int .i64 a, .int .i64 b]] w fun e w' => e = .returned (.bool v) ∧ Below w.heap.size w w' := by
  subst h; exact l1Ok_any a b w

theorem Try.info29 : (Try.prog.info? 29).map (fun i => (i.zero, i.size, i.bytes)) = some (some (.agg #[.int .i64 0, .int .i64 0]), 2, 16) := by kernel_rfl

def Made (w : World) (zs : List (Int × Int)) (e : Ending) (w' : World) : Prop :=
  ∃ g cap, e = .returned (.slice (some ⟨g, 0, none⟩) zs.length cap) ∧ w'.ownsRow w.heap.size 29 2 (.slice (some ⟨g, 0, none⟩) zs.length cap) zs.length (flat zs) ∧ Below w.heap.size w w'

end Go.Proofs.Ytphinkcfmdnpfaa
