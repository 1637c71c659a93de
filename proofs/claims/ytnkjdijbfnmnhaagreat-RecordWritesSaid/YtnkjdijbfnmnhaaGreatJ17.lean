/-
  Texts of this claim put together: RefExpr, RefMay, Expr, Eval.
-/
import Derived.Test.YtnkjdijbfnmnhaaGreatJ11
import Derived.Test.YtnkjdijbfnmnhaaGreatJ14
import Derived.Test.YtnkjdijbfnmnhaaGreatJ05
import Derived.Outline
/-
  Contracts of the reference's functions on formulas.
-/
namespace Go.Proofs.YtnkjdijbfnmnhaaGreat
open Go.RowKit

/-- where a part begins, or -1 -/
def begI (l : List (Int × Int)) (e : Nat) : Int := match beg l e with | some b => (b : Int) | none => -1

/-- a number or none -/
def OptR (o : Option Int) (v : Int) (r : Bool) : Prop := (r = true ∧ o = some v) ∨ (r = false ∧ o = none)
/-- what the part's call leaves -/
def PartIs (o : Option Int) (w : World) (e : Ending) (w' : World) : Prop := ∃ v r, e = .returned (.tuple #[.int .i64 v, .bool r]) ∧ OptR o v r ∧ Below w.heap.size w w'
theorem takes0 {o : Int} (h : takesN o = 0) : o = 1 ∨ o = 2 ∨ o = 3 := by
  unfold takesN at h
  split at h
  · assumption
  · split at h <;> omega
theorem takes1 {o : Int} (h : takesN o = 1) : o = 11 := by
  unfold takesN at h
  split at h
  · cases h
  · split at h
    · assumption
    · cases h
theorem takes2 {o : Int} (h : takesN o = 2) : (o == 1) = false ∧ (o == 2) = false ∧ (o == 3) = false ∧ (o == 11) = false := by
  unfold takesN at h
  split at h
  · cases h
  · split at h
    · cases h
    · simp only [beq_eq_false_iff_ne]
      omega

end Go.Proofs.YtnkjdijbfnmnhaaGreat
/-
  Contracts of the reference's May, Eval and Holds.
-/
namespace Go.Proofs.YtnkjdijbfnmnhaaGreat
open Go.RowKit

theorem ret_bool {a b : Bool} (h : a = b) : Ending.returned (.bool a) = .returned (.bool b) := by rw [h]
theorem std_yes {vs o N : Int} (h : stdB vs (o, N) = true) : o = 1 ∨ (o = 2 ∧ 0 ≤ N ∧ N < vs) ∨ (3 ≤ o ∧ o ≤ 11 ∧ N = 0) := by
  unfold stdB at h
  simp only at h
  split at h
  · exact .inl ‹_›
  · split at h
    · exact .inr (.inl ⟨‹_›, by simpa using h⟩)
    · split at h
      · rename_i h3
        exact .inr (.inr ⟨h3.1, h3.2, by simpa using h⟩)
      · cases h
theorem std_no {vs o N : Int} (h : stdB vs (o, N) = false) : o < 1 ∨ 11 < o ∨ (o = 2 ∧ N < 0) ∨ (o = 2 ∧ 0 ≤ N ∧ vs ≤ N) ∨ (3 ≤ o ∧ o ≤ 11 ∧ N ≠ 0) := by
  unfold stdB at h
  simp only at h
  split at h
  · cases h
  · split at h
    · have : ¬(0 ≤ N ∧ N < vs) := by simpa using h
      omega
    · split at h
      · have : N ≠ 0 := by simpa using h
        omega
      · omega

end Go.Proofs.YtnkjdijbfnmnhaaGreat
/-
  Contracts of expr's functions.
-/
namespace Go.Proofs.YtnkjdijbfnmnhaaGreat
open Go.RowKit

theorem std_mid {vs o N : Int} (h : 3 ≤ o ∧ o ≤ 11) : stdB vs (o, N) = (N == 0) := by
  unfold stdB
  simp only
  rw [if_neg (by omega), if_neg (by omega), if_pos h, Bool.eq_iff_iff]
  simp

end Go.Proofs.YtnkjdijbfnmnhaaGreat

/-
  Contracts of expr's May, Eval and Holds.
-/
namespace Go.Proofs.YtnkjdijbfnmnhaaGreat
open Go.RowKit

theorem StkIs.keep {w w' : World} {g : Nat} {S : List Int} (h : StkIs w g S) (hk : w'.heap[g]? = w.heap[g]?) : StkIs w' g S := by
  obtain ⟨cur, hg, h2⟩ := h
  exact ⟨cur, hk.trans hg, h2⟩
theorem StkIs.lt {w : World} {g : Nat} {S : List Int} (h : StkIs w g S) : g < w.heap.size := by
  obtain ⟨cur, hg, _⟩ := h
  exact (Array.getElem?_eq_some_iff.1 hg).1
theorem StkIs.below {w w' : World} {g B : Nat} {S : List Int} (h : StkIs w g S) (hb : Below B w w') (hB : g < B) : StkIs w' g S := h.keep (hb.block g hB)
theorem grown_alloc (w : World) (o : Obj) (row : Option Nat) : w.grownBy (w.alloc o) row := ⟨rfl, rfl, rfl, by simp, fun k hk _ => ((Below.refl w.heap.size w).alloc (Nat.le_refl _) o).block k hk⟩
theorem box_cell (w : World) (a b : Value) (t : TypeId) : (w.alloc (.cells #[a, b] t)).cell? ⟨w.heap.size, 0, none⟩ = some a := by
  rw [cell_of_row _ _ 0 _ _ _ (heap_alloc_new w _)]; rfl

/-- what next leaves: the number and what lies beneath it, or none -/
def NextIs (r : Option (List Int)) (w : World) (g : Nat) (e : Ending) (w' : World) : Prop :=
  (∃ v S, r = some (v :: S) ∧ e = .returned (.tuple #[.int .i64 v, .bool true]) ∧ StkIs w' g S ∧ w.grownBy w' (some g)) ∨
  (∃ v, r = none ∧ e = .returned (.tuple #[.int .i64 v, .bool false]) ∧ w.grownBy w' (some g))
theorem NextIs.yes {r : Option (List Int)} {w w' : World} {g : Nat} {v : Int} {S : List Int} (h : r = some (v :: S)) (hs : StkIs w' g S) (hg : w.grownBy w' (some g)) : NextIs r w g (.returned (.tuple #[.int .i64 v, .bool true])) w' := .inl ⟨v, S, h, rfl, hs, hg⟩
theorem NextIs.no {r : Option (List Int)} {w w' : World} {g : Nat} {v : Int} (h : r = none) (hg : w.grownBy w' (some g)) : NextIs r w g (.returned (.tuple #[.int .i64 v, .bool false])) w' := .inr ⟨v, h, rfl, hg⟩

theorem stk_nil (w : World) : StkIs (w.alloc (.cells (Array.replicate 25 (.int .i64 0)) 405)) w.heap.size [] :=
  ⟨_, heap_alloc_new w _, by simp, by simp, by simp, fun i v h => by simp at h⟩

end Go.Proofs.YtnkjdijbfnmnhaaGreat