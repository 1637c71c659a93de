/-
  The document's example of formulas.
-/
import Derived.Test.YtdfancdhphdkdaaEval
namespace Go.Proofs.Ytdfancdhphdkdaa
open Go.RowKit

instance (t : Int × Int) : Decidable (TokIn t) := by unfold TokIn; infer_instance
theorem evalR_stk {l : List (Int × Int)} {vars : List Int} {arg : Int} (h : mayB l vars.length = true) : evalR l vars arg = match stk l vars arg l.length with | some [v] => (v, 0) | _ => (0, 18) := by
  have h2 := stk_of_beg (vars := vars) (arg := arg) l.length 0 [] (mayB_true h).2.2 rfl
  unfold evalR
  rw [if_pos h, h2]
  cases pv l vars arg l.length <;> rfl

/-- a block that holds these cells -/
theorem sees_new (w : World) (cs : Array Value) (t : TypeId) (xs : List Value) (h : cs.toList = xs) : Sees (w.alloc (.cells cs t)) (w.heap.size + 1) (some ⟨w.heap.size, 0, none⟩) xs := fun _ => by
  refine ⟨_, rfl, by simp, fun j u hu => ?_⟩
  rw [Addr.add_lit, cell_of_row _ _ _ _ _ _ (heap_alloc_new w _)]
  rw [← h] at hu
  simpa using hu

theorem awake04_any (w : World) : Calls Try.prog 8 #[] w fun e w' => e = .returned (.bool true) ∧ Below w.heap.size w w' := by
  have HE := hide_ (show evalR [(1, 2), (1, 3), (4, 0), (3, 0), (7, 0)] [] 6 = (1, 0) by rw [evalR_stk (by decide)]; decide)
  go_enter Try.func8, Try.ntmps8
  go_wp2_with fail
  refine (Eval_any [(1, 2), (1, 3), (4, 0), (3, 0), (7, 0)] [] 6 (w.heap.size + 1) _ none 5 5 0 0 _ rfl (by decide) rfl (sees_new w _ _ _ rfl) (Sees.empty _ _ _) (by simp) (by decide) (by simp) (by decide)).mono ?_
  rw [HE.out]
  rintro en w1 ⟨rfl, hb1⟩
  go_wp2
  go_ret
  exact ⟨rfl, ((Below.refl _ _).alloc (Nat.le_refl _) _).trans (hb1.mono (by simp))⟩
end Go.Proofs.Ytdfancdhphdkdaa
