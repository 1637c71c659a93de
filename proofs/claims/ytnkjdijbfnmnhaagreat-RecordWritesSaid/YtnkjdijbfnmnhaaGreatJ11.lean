/-
  Texts of this claim put together: Ops, Stk.
-/
import Derived.Test.YtnkjdijbfnmnhaaGreatRows
import Derived.Test.YtnkjdijbfnmnhaaGreatJ05
import Derived.Test.YtnkjdijbfnmnhaaGreatForm
import Derived.IntWalk
import Derived.Outline
/-
  Contracts of expr's functions that only reckon, and of the reference's.
-/
namespace Go.Proofs.YtnkjdijbfnmnhaaGreat
open Go.RowKit

theorem ret_i64 {a b : Int} (h : a = b) : Ending.returned (.int .i64 a) = .returned (.int .i64 b) := by rw [h]

/-- a number and whether it has room -/
def TwoR (o a b v : Int) (r : Bool) : Prop := (r = true ∧ two o a b = some v) ∨ (r = false ∧ two o a b = none)
theorem TwoR.of {o a b v : Int} {r : Bool} (x : Int) (hx : twoE o a b = x) (h1 : r = true ↔ I64 x) (h2 : I64 x → v = x) : TwoR o a b v r := by
  subst hx
  by_cases h : I64 (twoE o a b)
  · exact .inl ⟨h1.2 h, by rw [two, if_pos h, h2 h]⟩
  · refine .inr ⟨?_, by rw [two, if_neg h]⟩
    cases r with
    | false => rfl
    | true => exact absurd (h1.1 rfl) h
/-- what a function leaves that makes a number of two -/
def TwoIs (o a b : Int) (w : World) (e : Ending) (w' : World) : Prop := ∃ v r, e = .returned (.tuple #[.int .i64 v, .bool r]) ∧ TwoR o a b v r ∧ w = w'

/-- the same, where the order is drawn -/
def TwoBel (o a b : Int) (w : World) (e : Ending) (w' : World) : Prop := ∃ v r, e = .returned (.tuple #[.int .i64 v, .bool r]) ∧ TwoR o a b v r ∧ Below w.heap.size w w'

/-- a product's way back -/
theorem back_of {a b p : Int} (ha : I64 a) (b0 : b ≠ 0) (hp : p = wrap64 (a * b)) (h : I64 (a * b)) : wrap64 (p.tdiv b) = a := by
  have e : p = a * b := by
    rw [hp]
    unfold I64 at h
    generalize a * b = m at h ⊢
    unfold wrap64
    omega
  rw [e, Int.mul_tdiv_cancel a b0]
  unfold I64 at ha
  unfold wrap64
  omega
theorem of_back {a b p : Int} (hb : I64 b) (b0 : b ≠ 0) (hp : p = wrap64 (a * b)) (hx : ¬(b = -1 ∧ p = -9223372036854775808)) (h : wrap64 (p.tdiv b) = a) : I64 (a * b) := by
  have hpb : -9223372036854775808 ≤ p ∧ p ≤ 9223372036854775807 := by rw [hp]; unfold wrap64; omega
  have hd := Int.mul_tdiv_add_tmod p b
  have hr : (p.tmod b).natAbs < b.natAbs := by
    rw [Int.natAbs_tmod]
    exact Nat.mod_lt _ (by omega)
  have hq : (p.tdiv b).natAbs ≤ p.natAbs := Int.natAbs_tdiv_le_natAbs p b
  generalize p.tmod b = r at hd hr
  generalize p.tdiv b = q at h hd hq
  unfold I64 at *
  have hq1 : q ≠ 9223372036854775808 := by
    rintro rfl
    omega
  have hqa : q = a := by
    unfold wrap64 at h
    omega
  rw [hqa, Int.mul_comm] at hd
  generalize a * b = m at hd hp ⊢
  unfold wrap64 at hp
  omega
theorem sign_of {a b : Int} (a0 : a ≠ 0) (b0 : b ≠ 0) : (decide (a * b < 0) == !(decide (a < 0) == decide (b < 0))) = true := by
  rcases Int.lt_or_lt_of_ne a0 with h | h <;> rcases Int.lt_or_lt_of_ne b0 with k | k
  · have := Int.mul_pos_of_neg_of_neg h k
    rw [decide_eq_false (show ¬(a * b < 0) by omega), decide_eq_true h, decide_eq_true k]; rfl
  · have := Int.mul_neg_of_neg_of_pos h k
    rw [decide_eq_true this, decide_eq_true h, decide_eq_false (show ¬(b < 0) by omega)]; rfl
  · have := Int.mul_neg_of_pos_of_neg h k
    rw [decide_eq_true this, decide_eq_true k, decide_eq_false (show ¬(a < 0) by omega)]; rfl
  · have := Int.mul_pos h k
    rw [decide_eq_false (show ¬(a * b < 0) by omega), decide_eq_false (show ¬(a < 0) by omega), decide_eq_false (show ¬(b < 0) by omega)]; rfl
theorem room_iff {a b p : Int} (hb : I64 b) (a0 : a ≠ 0) (b0 : b ≠ 0) (hp : p = wrap64 (a * b)) (h : wrap64 (p.tdiv b) = a) :
    (decide (p < 0) == !(decide (a < 0) == decide (b < 0))) = true ↔ I64 (a * b) := by
  refine ⟨fun hs => ?_, fun hi => ?_⟩
  · refine of_back hb b0 hp ?_ h
    rintro ⟨rfl, rfl⟩
    rw [Int.tdiv_neg, Int.tdiv_one, show wrap64 (-(-9223372036854775808)) = -9223372036854775808 by unfold wrap64; omega] at h
    subst h
    exact absurd hs (by decide)
  · have e : p = a * b := by
      rw [hp]
      unfold I64 at hi
      generalize a * b = m at hi ⊢
      unfold wrap64
      omega
    rw [e]
    exact sign_of a0 b0
theorem wrap_of {x : Int} (h : I64 x) : wrap64 x = x := by
  unfold I64 at h
  unfold wrap64
  omega

theorem wrap_eq (x : Int) : IntKind.i64.wrap x = wrap64 x := by rw [IntKind.wrap_i64]; unfold wrap64; rfl
theorem times_yes {a b : Int} (hb : I64 b) (a0 : a ≠ 0) (b0 : b ≠ 0) (h2 : ¬(b = -1 ∧ a = -9223372036854775808)) (hq : (IntKind.i64.wrap ((wrap64 (a * b)).tdiv b) == a) = true) :
    TwoR 6 a b (wrap64 (a * b)) (IntKind.i64.wrap ((wrap64 (a * b)).tdiv a) == b) := by
  rw [wrap_eq, beq_iff_eq] at hq
  have hi : I64 (a * b) := of_back hb b0 rfl (by
    rintro ⟨rfl, h⟩
    rw [h, Int.tdiv_neg, Int.tdiv_one, show wrap64 (-(-9223372036854775808)) = -9223372036854775808 by unfold wrap64; omega] at hq
    exact h2 ⟨rfl, hq.symm⟩) hq
  refine TwoR.of (a * b) (by simp [twoE]) ⟨fun _ => hi, fun _ => ?_⟩ wrap_of
  rw [wrap_eq, beq_iff_eq]
  have hi2 := hi
  rw [Int.mul_comm] at hi2
  exact back_of hb a0 (by rw [Int.mul_comm]) hi2
theorem times_no {a b : Int} (ha : I64 a) (b0 : b ≠ 0) (hq : (IntKind.i64.wrap ((wrap64 (a * b)).tdiv b) == a) = false) : TwoR 6 a b (wrap64 (a * b)) false := by
  rw [wrap_eq, beq_eq_false_iff_ne] at hq
  exact TwoR.of (a * b) (by simp [twoE]) ⟨(fun h => by cases h), fun h => absurd (back_of ha b0 rfl h) hq⟩ wrap_of

end Go.Proofs.YtnkjdijbfnmnhaaGreat
/-
  Contracts of expr's stack.
-/
namespace Go.Proofs.YtnkjdijbfnmnhaaGreat
open Go.RowKit

/-- a stack at block g, its last number first -/
def StkIs (w : World) (g : Nat) (S : List Int) : Prop :=
  ∃ cur : Array Value, w.heap[g]? = some (.cells cur 405 (0, 0)) ∧ cur.size = 25 ∧ S.length ≤ 24 ∧ cur[24]? = some (Value.int .i64 (S.length : Nat)) ∧ ∀ (i : Nat) (v : Int), S.reverse[i]? = some v → cur[i]? = some (Value.int .i64 v)

end Go.Proofs.YtnkjdijbfnmnhaaGreat