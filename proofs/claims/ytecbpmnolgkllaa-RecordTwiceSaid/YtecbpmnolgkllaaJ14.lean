/-
  Texts of this claim put together: RefExpr, RefMay, Expr, Eval.
-/
import Derived.Test.YtecbpmnolgkllaaJ07
import Derived.Test.YtecbpmnolgkllaaJ11
import Derived.Test.YtecbpmnolgkllaaJ04
import Derived.Outline
/-
  Contracts of the reference's functions on formulas.
-/
namespace Go.Proofs.Ytecbpmnolgkllaa
open Go.RowKit

/-- where a part begins, or -1 -/
def begI (l : List (Int × Int)) (e : Nat) : Int := match beg l e with | some b => (b : Int) | none => -1

/-- a number or none -/
def OptR (o : Option Int) (v : Int) (r : Bool) : Prop := (r = true ∧ o = some v) ∨ (r = false ∧ o = none)
/-- what the part's call leaves -/
def PartIs (o : Option Int) (w : World) (e : Ending) (w' : World) : Prop := ∃ v r, e = .returned (.tuple #[.int .i64 v, .bool r]) ∧ OptR o v r ∧ Below w.heap.size w w'
theorem takes0 {o : Int} (h : takesN o = 0) : o = 1 ∨ o = 2 ∨ o = 3 := by
  unfold takesN at h
  split at h
  · assumption
  · split at h <;> omega
theorem takes1 {o : Int} (h : takesN o = 1) : o = 11 := by
  unfold takesN at h
  split at h
  · cases h
  · split at h
    · assumption
    · cases h
theorem takes2 {o : Int} (h : takesN o = 2) : (o == 1) = false ∧ (o == 2) = false ∧ (o == 3) = false ∧ (o == 11) = false := by
  unfold takesN at h
  split at h
  · cases h
  · split at h
    · cases h
    · simp only [beq_eq_false_iff_ne]
      omega

end Go.Proofs.Ytecbpmnolgkllaa
/-
  Contracts of the reference's May, Eval and Holds.
-/
namespace Go.Proofs.Ytecbpmnolgkllaa
open Go.RowKit

theorem ret_bool {a b : Bool} (h : a = b) : Ending.returned (.bool a) = .returned (.bool b) := by rw [h]
theorem std_yes {vs o N : Int} (h : stdB vs (o, N) = true) : o = 1 ∨ (o = 2 ∧ 0 ≤ N ∧ N < vs) ∨ (3 ≤ o ∧ o ≤ 11 ∧ N = 0) := by
  unfold stdB at h
  simp only at h
  split at h
  · exact .inl ‹_›
  · split at h
    · exact .inr (.inl ⟨‹_›, by simpa using h⟩)
    · split at h
      · rename_i h3
        exact .inr (.inr ⟨h3.1, h3.2, by simpa using h⟩)
      · cases h
theorem std_no {vs o N : Int} (h : stdB vs (o, N) = false) : o < 1 ∨ 11 < o ∨ (o = 2 ∧ N < 0) ∨ (o = 2 ∧ 0 ≤ N ∧ vs ≤ N) ∨ (3 ≤ o ∧ o ≤ 11 ∧ N ≠ 0) := by
  unfold stdB at h
  simp only at h
  split at h
  · cases h
  · split at h
    · have : ¬(0 ≤ N ∧ N < vs) := by simpa using h
      omega
    · split at h
      · have : N ≠ 0 := by simpa using h
        omega
      · omega

end Go.Proofs.Ytecbpmnolgkllaa
/-
  Contracts of expr's functions.
-/
namespace Go.Proofs.Ytecbpmnolgkllaa
open Go.RowKit

theorem std_mid {vs o N : Int} (h : 3 ≤ o ∧ o ≤ 11) : stdB vs (o, N) = (N == 0) := by
  unfold stdB
  simp only
  rw [if_neg (by omega), if_neg (by omega), if_pos h, Bool.eq_iff_iff]
  simp

end Go.Proofs.Ytecbpmnolgkllaa

/-
  Contracts of expr's May, Eval and Holds.
-/
namespace Go.Proofs.Ytecbpmnolgkllaa
open Go.RowKit

end Go.Proofs.Ytecbpmnolgkllaa