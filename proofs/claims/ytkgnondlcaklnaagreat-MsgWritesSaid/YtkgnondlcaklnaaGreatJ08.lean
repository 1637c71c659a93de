/-
  Texts of this claim put together: Ops, Stk.
-/
import Derived.Test.YtkgnondlcaklnaaGreatRows
import Derived.Test.YtkgnondlcaklnaaGreatMem
import Derived.Test.YtkgnondlcaklnaaGreatForm
import Derived.IntWalk
import Derived.Outline
import Derived.Test.YtkgnondlcaklnaaGreatJ03
/-
  Contracts of expr's functions that only reckon, and of the reference's.
-/
namespace Go.Proofs.YtkgnondlcaklnaaGreat
open Go.RowKit

theorem ret_i64 {a b : Int} (h : a = b) : Ending.returned (.int .i64 a) = .returned (.int .i64 b) := by rw [h]

theorem takes_any (o : Int) (w : World) : Calls Tryz.prog 188 #[.int .u8 o] w fun e w' => e = .returned (.int .i64 (takesN o : Nat)) ∧ w = w' := by
  by_cases h1 : o = 1
  · subst h1
    go_enter Tryz.func188, Tryz.ntmps188
    go_wp2
    go_ret
    exact ⟨rfl, rfl⟩
  by_cases h2 : o = 2
  · subst h2
    go_enter Tryz.func188, Tryz.ntmps188
    go_wp2
    go_ret
    exact ⟨rfl, rfl⟩
  by_cases h3 : o = 3
  · subst h3
    go_enter Tryz.func188, Tryz.ntmps188
    go_wp2
    go_ret
    exact ⟨rfl, rfl⟩
  by_cases h11 : o = 11
  · subst h11
    go_enter Tryz.func188, Tryz.ntmps188
    go_wp2
    go_ret
    exact ⟨rfl, rfl⟩
  have b1 : (o == 1) = false := beq_eq_false_iff_ne.2 h1
  have b2 : (o == 2) = false := beq_eq_false_iff_ne.2 h2
  have b3 : (o == 3) = false := beq_eq_false_iff_ne.2 h3
  have b11 : (o == 11) = false := beq_eq_false_iff_ne.2 h11
  have hr : takesN o = 2 := by unfold takesN; rw [if_neg (by omega), if_neg h11]
  have HR := hide_ hr
  clear hr h1 h2 h3 h11
  go_enter Tryz.func188, Tryz.ntmps188
  go_wp2
  go_ret
  exact ⟨by rw [HR.out]; rfl, rfl⟩

theorem truth_any (b : Bool) (w : World) : Calls Tryz.prog 222 #[.bool b] w fun e w' => e = .returned (.int .i64 (tru b)) ∧ w = w' := by
  cases b
  all_goals
    go_enter Tryz.func222, Tryz.ntmps222
    go_wp2
    go_ret
    exact ⟨rfl, rfl⟩

theorem refTruth_any (b : Bool) (w : World) : Calls Tryz.prog 217 #[.bool b] w fun e w' => e = .returned (.int .i64 (tru b)) ∧ w = w' := by
  cases b
  all_goals
    go_enter Tryz.func217, Tryz.ntmps217
    go_wp2
    go_ret
    exact ⟨rfl, rfl⟩

/-- a number and whether it has room -/
def TwoR (o a b v : Int) (r : Bool) : Prop := (r = true ∧ two o a b = some v) ∨ (r = false ∧ two o a b = none)
theorem TwoR.of {o a b v : Int} {r : Bool} (x : Int) (hx : twoE o a b = x) (h1 : r = true ↔ I64 x) (h2 : I64 x → v = x) : TwoR o a b v r := by
  subst hx
  by_cases h : I64 (twoE o a b)
  · exact .inl ⟨h1.2 h, by rw [two, if_pos h, h2 h]⟩
  · refine .inr ⟨?_, by rw [two, if_neg h]⟩
    cases r with
    | false => rfl
    | true => exact absurd (h1.1 rfl) h
/-- what a function leaves that makes a number of two -/
def TwoIs (o a b : Int) (w : World) (e : Ending) (w' : World) : Prop := ∃ v r, e = .returned (.tuple #[.int .i64 v, .bool r]) ∧ TwoR o a b v r ∧ w = w'

/-- the same, where the order is drawn -/
def TwoBel (o a b : Int) (w : World) (e : Ending) (w' : World) : Prop := ∃ v r, e = .returned (.tuple #[.int .i64 v, .bool r]) ∧ TwoR o a b v r ∧ Below w.heap.size w w'

/-- a product's way back -/
theorem back_of {a b p : Int} (ha : I64 a) (b0 : b ≠ 0) (hp : p = wrap64 (a * b)) (h : I64 (a * b)) : wrap64 (p.tdiv b) = a := by
  have e : p = a * b := by
    rw [hp]
    unfold I64 at h
    generalize a * b = m at h ⊢
    unfold wrap64
    omega
  rw [e, Int.mul_tdiv_cancel a b0]
  unfold I64 at ha
  unfold wrap64
  omega
theorem of_back {a b p : Int} (hb : I64 b) (b0 : b ≠ 0) (hp : p = wrap64 (a * b)) (hx : ¬(b = -1 ∧ p = -9223372036854775808)) (h : wrap64 (p.tdiv b) = a) : I64 (a * b) := by
  have hpb : -9223372036854775808 ≤ p ∧ p ≤ 9223372036854775807 := by rw [hp]; unfold wrap64; omega
  have hd := Int.mul_tdiv_add_tmod p b
  have hr : (p.tmod b).natAbs < b.natAbs := by
    rw [Int.natAbs_tmod]
    exact Nat.mod_lt _ (by omega)
  have hq : (p.tdiv b).natAbs ≤ p.natAbs := Int.natAbs_tdiv_le_natAbs p b
  generalize p.tmod b = r at hd hr
  generalize p.tdiv b = q at h hd hq
  unfold I64 at *
  have hq1 : q ≠ 9223372036854775808 := by
    rintro rfl
    omega
  have hqa : q = a := by
    unfold wrap64 at h
    omega
  rw [hqa, Int.mul_comm] at hd
  generalize a * b = m at hd hp ⊢
  unfold wrap64 at hp
  omega
theorem sign_of {a b : Int} (a0 : a ≠ 0) (b0 : b ≠ 0) : (decide (a * b < 0) == !(decide (a < 0) == decide (b < 0))) = true := by
  rcases Int.lt_or_lt_of_ne a0 with h | h <;> rcases Int.lt_or_lt_of_ne b0 with k | k
  · have := Int.mul_pos_of_neg_of_neg h k
    rw [decide_eq_false (show ¬(a * b < 0) by omega), decide_eq_true h, decide_eq_true k]; rfl
  · have := Int.mul_neg_of_neg_of_pos h k
    rw [decide_eq_true this, decide_eq_true h, decide_eq_false (show ¬(b < 0) by omega)]; rfl
  · have := Int.mul_neg_of_pos_of_neg h k
    rw [decide_eq_true this, decide_eq_true k, decide_eq_false (show ¬(a < 0) by omega)]; rfl
  · have := Int.mul_pos h k
    rw [decide_eq_false (show ¬(a * b < 0) by omega), decide_eq_false (show ¬(a < 0) by omega), decide_eq_false (show ¬(b < 0) by omega)]; rfl
theorem room_iff {a b p : Int} (hb : I64 b) (a0 : a ≠ 0) (b0 : b ≠ 0) (hp : p = wrap64 (a * b)) (h : wrap64 (p.tdiv b) = a) :
    (decide (p < 0) == !(decide (a < 0) == decide (b < 0))) = true ↔ I64 (a * b) := by
  refine ⟨fun hs => ?_, fun hi => ?_⟩
  · refine of_back hb b0 hp ?_ h
    rintro ⟨rfl, rfl⟩
    rw [Int.tdiv_neg, Int.tdiv_one, show wrap64 (-(-9223372036854775808)) = -9223372036854775808 by unfold wrap64; omega] at h
    subst h
    exact absurd hs (by decide)
  · have e : p = a * b := by
      rw [hp]
      unfold I64 at hi
      generalize a * b = m at hi ⊢
      unfold wrap64
      omega
    rw [e]
    exact sign_of a0 b0
theorem wrap_of {x : Int} (h : I64 x) : wrap64 x = x := by
  unfold I64 at h
  unfold wrap64
  omega

theorem product_any (a b : Int) (w : World) (ha : I64 a) (hb : I64 b) : Calls Tryz.prog 226 #[.int .i64 a, .int .i64 b] w (TwoIs 6 a b w) := by
  by_cases a0 : a = 0
  · subst a0
    go_enter Tryz.func226, Tryz.ntmps226
    go_wp2
    go_ret2
    exact ⟨_, _, rfl, TwoR.of 0 (by simp [twoE]) (by decide) (fun _ => rfl), rfl⟩
  by_cases b0 : b = 0
  · subst b0
    have b1 : (a == 0) = false := beq_eq_false_iff_ne.2 a0
    go_enter Tryz.func226, Tryz.ntmps226
    go_wp2
    go_ret2
    exact ⟨_, _, rfl, TwoR.of 0 (by simp [twoE]) (by decide) (fun _ => rfl), rfl⟩
  have b1 : (a == 0) = false := beq_eq_false_iff_ne.2 a0
  have b2 : (b == 0) = false := beq_eq_false_iff_ne.2 b0
  go_enter Tryz.func226, Tryz.ntmps226
  go_wp2
  all_goals go_ret2
  · rename_i hq
    exact ⟨_, _, rfl, TwoR.of (a * b) (by simp [twoE]) (room_iff hb a0 b0 rfl hq) wrap_of, rfl⟩
  · rename_i hq
    exact ⟨_, _, rfl, TwoR.of (a * b) (by simp [twoE]) ⟨(fun h => by cases h), fun h => absurd (back_of ha b0 rfl h) hq⟩ wrap_of, rfl⟩

theorem both_any (o a b : Int) (w : World) (ho : 4 ≤ o ∧ o ≤ 10) (ha : I64 a) (hb : I64 b) : Calls Tryz.prog 223 #[.int .u8 o, .int .i64 a, .int .i64 b] w (TwoIs o a b w) := by
  rcases (show o = 4 ∨ o = 5 ∨ o = 6 ∨ o = 7 ∨ o = 8 ∨ o = 9 ∨ o = 10 by omega) with rfl | rfl | rfl | rfl | rfl | rfl | rfl
  · go_enter Tryz.func223, Tryz.ntmps223
    go_wp2
    all_goals go_ret2
    all_goals
      refine ⟨_, _, rfl, TwoR.of (a + b) (by simp [twoE]) ?_ ?_, rfl⟩
      all_goals
        unfold I64 at *
        unfold wrap64
        simp
        omega
  · go_enter Tryz.func223, Tryz.ntmps223
    go_wp2
    all_goals go_ret2
    all_goals
      refine ⟨_, _, rfl, TwoR.of (a - b) (by simp [twoE]) ?_ ?_, rfl⟩
      all_goals
        unfold I64 at *
        unfold wrap64
        simp
        omega
  · go_enter Tryz.func223, Tryz.ntmps223
    go_wp2_with fail
    refine (product_any a b _ ha hb).mono ?_
    rintro e w1 ⟨v, r, rfl, hr, rfl⟩
    go_wp2
    go_ret2
    exact ⟨_, _, rfl, hr, rfl⟩
  · go_enter Tryz.func223, Tryz.ntmps223
    go_wp2_with fail
    refine (truth_any _ _).mono ?_
    rintro e w1 ⟨rfl, rfl⟩
    go_wp2
    go_ret2
    exact ⟨_, _, rfl, TwoR.of (tru (decide (a < b))) (by simp [twoE]) (by simp [tru_I64]) (fun _ => rfl), rfl⟩
  · go_enter Tryz.func223, Tryz.ntmps223
    go_wp2_with fail
    refine (truth_any _ _).mono ?_
    rintro e w1 ⟨rfl, rfl⟩
    go_wp2
    go_ret2
    exact ⟨_, _, rfl, TwoR.of (tru (decide (a = b))) (by simp [twoE]) (by simp [tru_I64]) (fun _ => rfl), rfl⟩
  · go_enter Tryz.func223, Tryz.ntmps223
    go_wp2_with fail
    all_goals
      refine (truth_any _ _).mono ?_
      rintro e w1 ⟨rfl, rfl⟩
      go_wp2
      go_ret2
      refine ⟨_, _, rfl, TwoR.of (tru (decide (a ≠ 0 ∧ b ≠ 0))) (by simp [twoE]) (by simp [tru_I64]) (fun _ => ?_), rfl⟩
      congr 1
      rw [Bool.eq_iff_iff]
      simp [*]
  · go_enter Tryz.func223, Tryz.ntmps223
    go_wp2_with fail
    all_goals
      refine (truth_any _ _).mono ?_
      rintro e w1 ⟨rfl, rfl⟩
      go_wp2
      go_ret2
      refine ⟨_, _, rfl, TwoR.of (tru (decide (a ≠ 0 ∨ b ≠ 0))) (by simp [twoE]) (by simp [tru_I64]) (fun _ => ?_), rfl⟩
      congr 1
      rw [Bool.eq_iff_iff]
      simp [*]

theorem wrap_eq (x : Int) : IntKind.i64.wrap x = wrap64 x := by rw [IntKind.wrap_i64]; unfold wrap64; rfl
theorem times_yes {a b : Int} (hb : I64 b) (a0 : a ≠ 0) (b0 : b ≠ 0) (h2 : ¬(b = -1 ∧ a = -9223372036854775808)) (hq : (IntKind.i64.wrap ((wrap64 (a * b)).tdiv b) == a) = true) :
    TwoR 6 a b (wrap64 (a * b)) (IntKind.i64.wrap ((wrap64 (a * b)).tdiv a) == b) := by
  rw [wrap_eq, beq_iff_eq] at hq
  have hi : I64 (a * b) := of_back hb b0 rfl (by
    rintro ⟨rfl, h⟩
    rw [h, Int.tdiv_neg, Int.tdiv_one, show wrap64 (-(-9223372036854775808)) = -9223372036854775808 by unfold wrap64; omega] at hq
    exact h2 ⟨rfl, hq.symm⟩) hq
  refine TwoR.of (a * b) (by simp [twoE]) ⟨fun _ => hi, fun _ => ?_⟩ wrap_of
  rw [wrap_eq, beq_iff_eq]
  have hi2 := hi
  rw [Int.mul_comm] at hi2
  exact back_of hb a0 (by rw [Int.mul_comm]) hi2
theorem times_no {a b : Int} (ha : I64 a) (b0 : b ≠ 0) (hq : (IntKind.i64.wrap ((wrap64 (a * b)).tdiv b) == a) = false) : TwoR 6 a b (wrap64 (a * b)) false := by
  rw [wrap_eq, beq_eq_false_iff_ne] at hq
  exact TwoR.of (a * b) (by simp [twoE]) ⟨(fun h => by cases h), fun h => absurd (back_of ha b0 rfl h) hq⟩ wrap_of

set_option maxRecDepth 100000 in
set_option maxHeartbeats 1600000 in
theorem times_live (a b : Int) (w : World) (ha : I64 a) (hb : I64 b) (a0 : a ≠ 0) (b0 : b ≠ 0) (h1 : ¬(a = -1 ∧ b = -9223372036854775808)) (h2 : ¬(b = -1 ∧ a = -9223372036854775808)) : Calls Tryz.prog 225 #[.int .i64 a, .int .i64 b] w (TwoBel 6 a b w) := by
  have b1 : (a == 0) = false := beq_eq_false_iff_ne.2 a0
  have b2 : (b == 0) = false := beq_eq_false_iff_ne.2 b0
  obtain ⟨x1, hx1⟩ : ∃ x, (a == -1) = x := ⟨_, rfl⟩
  obtain ⟨x2, hx2⟩ : ∃ x, (b == -9223372036854775808) = x := ⟨_, rfl⟩
  obtain ⟨x3, hx3⟩ : ∃ x, (b == -1) = x := ⟨_, rfl⟩
  obtain ⟨x4, hx4⟩ : ∃ x, (a == -9223372036854775808) = x := ⟨_, rfl⟩
  have k1 : ¬(x1 = true ∧ x2 = true) := by rw [← hx1, ← hx2]; simpa using h1
  have k2 : ¬(x3 = true ∧ x4 = true) := by rw [← hx3, ← hx4]; simpa using h2
  have H1 := hide_ h1
  have H2 := hide_ h2
  clear h1 h2
  obtain ⟨p, hp⟩ : ∃ p, wrap64 (a * b) = p := ⟨_, rfl⟩
  obtain ⟨q2, hq2⟩ : ∃ q, IntKind.i64.wrap (p.tdiv a) = q := ⟨_, rfl⟩
  by_cases hq : IntKind.i64.wrap (p.tdiv b) = a
  · have ht : TwoR 6 a b p (q2 == b) := by
      rw [← hq2, ← hp]
      exact times_yes hb a0 b0 H2.out (by rw [hp, beq_iff_eq]; exact hq)
    have HT := hide_ ht
    clear ht
    cases x1 <;> cases x2 <;> cases x3 <;> cases x4
    all_goals first | (exact absurd ⟨rfl, rfl⟩ k1) | (exact absurd ⟨rfl, rfl⟩ k2) | skip
    all_goals
      clear k1 k2
      go_enter Tryz.func225, Tryz.ntmps225
      go_wp2
      go_region
      go_wp2
      go_ret2
      exact ⟨_, _, rfl, by rw [hp]; exact HT.out, (Below.refl _ _).drew⟩
  · have ht : TwoR 6 a b p false := by
      rw [← hp]
      exact times_no ha b0 (by rw [hp, beq_eq_false_iff_ne]; exact hq)
    obtain ⟨q1, hq1⟩ : ∃ q, IntKind.i64.wrap (p.tdiv b) = q := ⟨_, rfl⟩
    rw [hq1] at hq
    have hqb : (q1 == a) = false := beq_eq_false_iff_ne.2 hq
    have HT := hide_ ht
    clear ht hq
    cases x1 <;> cases x2 <;> cases x3 <;> cases x4
    all_goals first | (exact absurd ⟨rfl, rfl⟩ k1) | (exact absurd ⟨rfl, rfl⟩ k2) | skip
    all_goals
      clear k1 k2
      go_enter Tryz.func225, Tryz.ntmps225
      go_wp2
      go_region
      go_wp2
      go_ret2
      exact ⟨_, _, rfl, by rw [hp]; exact HT.out, (Below.refl _ _).drew⟩

set_option maxRecDepth 100000 in
theorem times_any (a b : Int) (w : World) (ha : I64 a) (hb : I64 b) : Calls Tryz.prog 225 #[.int .i64 a, .int .i64 b] w (TwoBel 6 a b w) := by
  by_cases a0 : a = 0
  · subst a0
    go_enter Tryz.func225, Tryz.ntmps225
    go_wp2
    go_ret2
    exact ⟨_, _, rfl, TwoR.of 0 (by simp [twoE]) (by decide) (fun _ => rfl), Below.refl _ _⟩
  by_cases b0 : b = 0
  · subst b0
    have b1 : (a == 0) = false := beq_eq_false_iff_ne.2 a0
    go_enter Tryz.func225, Tryz.ntmps225
    go_wp2
    go_ret2
    exact ⟨_, _, rfl, TwoR.of 0 (by simp [twoE]) (by decide) (fun _ => rfl), Below.refl _ _⟩
  by_cases h1 : a = -1 ∧ b = -9223372036854775808
  · obtain ⟨rfl, rfl⟩ := h1
    clear b0 a0
    go_enter Tryz.func225, Tryz.ntmps225
    go_wp2
    go_ret2
    exact ⟨_, _, rfl, TwoR.of 9223372036854775808 (by simp [twoE]) ⟨(fun h => by cases h), fun h => absurd h (by unfold I64; omega)⟩ (fun h => absurd h (by unfold I64; omega)), Below.refl _ _⟩
  by_cases h2 : b = -1 ∧ a = -9223372036854775808
  · obtain ⟨rfl, rfl⟩ := h2
    clear b0 a0
    go_enter Tryz.func225, Tryz.ntmps225
    go_wp2
    go_ret2
    exact ⟨_, _, rfl, TwoR.of 9223372036854775808 (by simp [twoE]) ⟨(fun h => by cases h), fun h => absurd h (by unfold I64; omega)⟩ (fun h => absurd h (by unfold I64; omega)), Below.refl _ _⟩
  exact times_live a b w ha hb a0 b0 h1 h2

theorem refTwo_any (o a b : Int) (w : World) (ho : 4 ≤ o ∧ o ≤ 10) (ha : I64 a) (hb : I64 b) : Calls Tryz.prog 218 #[.int .u8 o, .int .i64 a, .int .i64 b] w (TwoBel o a b w) := by
  rcases (show o = 4 ∨ o = 5 ∨ o = 6 ∨ o = 7 ∨ o = 8 ∨ o = 9 ∨ o = 10 by omega) with rfl | rfl | rfl | rfl | rfl | rfl | rfl
  · go_enter Tryz.func218, Tryz.ntmps218
    go_wp2
    all_goals go_ret2
    all_goals
      refine ⟨_, _, rfl, TwoR.of (a + b) (by simp [twoE]) ?_ ?_, Below.refl _ _⟩
      all_goals
        unfold I64 at *
        try unfold wrap64 at *
        try simp
        try omega
  · go_enter Tryz.func218, Tryz.ntmps218
    go_wp2
    all_goals go_ret2
    all_goals
      refine ⟨_, _, rfl, TwoR.of (a - b) (by simp [twoE]) ?_ ?_, Below.refl _ _⟩
      all_goals
        unfold I64 at *
        try unfold wrap64 at *
        try simp
        try omega
  · go_enter Tryz.func218, Tryz.ntmps218
    go_wp2_with fail
    refine (times_any a b _ ha hb).mono ?_
    rintro e w1 ⟨v, r, rfl, hr, hb1⟩
    go_wp2
    go_ret2
    exact ⟨_, _, rfl, hr, hb1⟩
  · go_enter Tryz.func218, Tryz.ntmps218
    go_wp2_with fail
    refine (refTruth_any _ _).mono ?_
    rintro e w1 ⟨rfl, rfl⟩
    go_wp2
    go_ret2
    exact ⟨_, _, rfl, TwoR.of (tru (decide (a < b))) (by simp [twoE]) (by simp [tru_I64]) (fun _ => rfl), Below.refl _ _⟩
  · go_enter Tryz.func218, Tryz.ntmps218
    go_wp2_with fail
    refine (refTruth_any _ _).mono ?_
    rintro e w1 ⟨rfl, rfl⟩
    go_wp2
    go_ret2
    exact ⟨_, _, rfl, TwoR.of (tru (decide (a = b))) (by simp [twoE]) (by simp [tru_I64]) (fun _ => rfl), Below.refl _ _⟩
  · go_enter Tryz.func218, Tryz.ntmps218
    go_wp2_with fail
    all_goals
      refine (refTruth_any _ _).mono ?_
      rintro e w1 ⟨rfl, rfl⟩
      go_wp2
      go_ret2
      refine ⟨_, _, rfl, TwoR.of (tru (decide (a ≠ 0 ∧ b ≠ 0))) (by simp [twoE]) (by simp [tru_I64]) (fun _ => ?_), Below.refl _ _⟩
      congr 1
      rw [Bool.eq_iff_iff]
      simp [*]
  · go_enter Tryz.func218, Tryz.ntmps218
    go_wp2_with fail
    all_goals
      refine (refTruth_any _ _).mono ?_
      rintro e w1 ⟨rfl, rfl⟩
      go_wp2
      go_ret2
      refine ⟨_, _, rfl, TwoR.of (tru (decide (a ≠ 0 ∨ b ≠ 0))) (by simp [twoE]) (by simp [tru_I64]) (fun _ => ?_), Below.refl _ _⟩
      congr 1
      rw [Bool.eq_iff_iff]
      simp [*]
end Go.Proofs.YtkgnondlcaklnaaGreat

/-
  Contracts of expr's stack.
-/
namespace Go.Proofs.YtkgnondlcaklnaaGreat
open Go.RowKit

/-- a stack at block g, its last number first -/
def StkIs (w : World) (g : Nat) (S : List Int) : Prop :=
  ∃ cur : Array Value, w.heap[g]? = some (.cells cur 260 (0, 0)) ∧ cur.size = 25 ∧ S.length ≤ 24 ∧ cur[24]? = some (Value.int .i64 (S.length : Nat)) ∧ ∀ (i : Nat) (v : Int), S.reverse[i]? = some v → cur[i]? = some (Value.int .i64 v)

theorem grown_drew {a w : World} {row : Option Nat} (h : a.grownBy w row) : a.grownBy w.drew row := ⟨h.os, h.tape, h.output, h.size, h.block⟩
theorem lay_any {g : Nat} {S : List Int} {w : World} (v : Int) (h : StkIs w g S) (hS : S.length < 24) :
    Calls Tryz.prog 213 #[.pointer (some ⟨g, 0, none⟩), .int .i64 v] w fun e w' => e = .returned (.tuple #[]) ∧ StkIs w' g (v :: S) ∧ w.grownBy w' (some g) := by
  obtain ⟨cur, hg, hz, hl, hc, hi⟩ := h
  obtain ⟨L, hL⟩ : ∃ L, S.length = L := ⟨_, rfl⟩
  rw [hL] at hS hl hc
  have c24 : w.cell? ⟨g, 24, none⟩ = some (.int .i64 (L : Nat)) := by rw [cell_of_row w g 24 _ _ _ hg]; exact hc
  obtain ⟨u, hu⟩ : ∃ u, cur[L]? = some u := ⟨_, Array.getElem?_eq_getElem (by omega)⟩
  have cL : w.cell? ⟨g, L, none⟩ = some u := by rw [cell_of_row w g L _ _ _ hg]; exact hu
  have f24 : w.frozen? ⟨g, 24, none⟩ = false := by simp [World.frozen?, hg]
  have fL : w.frozen? ⟨g, L, none⟩ = false := by simp [World.frozen?, hg]
  have hne : L ≠ 24 := by omega
  have HG := hide_ hg
  have HZ := hide_ hz
  have HC := hide_ hc
  have HI := hide_ hi
  have HL := hide_ hL
  clear hg hz hc hi hL hu
  go_enter Tryz.func213, Tryz.ntmps213
  go_wp2
  go_region
  go_wp2
  refine bodyPost_end (results_none rfl _ _ _) rfl ?_
  refine ⟨rfl, ⟨_, heap_set 24 _ (heap_set L _ HG.out), by simpa using HZ.out, ?_, ?_, ?_⟩, grown_drew (grown_set (grown_set (World.grownBy.refl w _) _ _) _ _)⟩
  · have := HL.out; simp; omega
  · have h1 := HL.out
    have h2 := HZ.out
    simp [h1, h2]
  · intro i z hi
    have h1 := HL.out
    have h2 := HZ.out
    rw [List.reverse_cons, List.getElem?_append] at hi
    rw [Array.getElem?_setIfInBounds, Array.getElem?_setIfInBounds]
    split at hi
    · rename_i hlt
      rw [List.length_reverse, h1] at hlt
      rw [if_neg (by omega), if_neg (by omega)]
      exact HI.out i z hi
    · rename_i hge
      rw [List.length_reverse, h1] at hge hi
      have hiL : i = L := by
        rcases Nat.lt_or_ge (i - L) 1 with h | h
        · omega
        · rw [List.getElem?_eq_none (by simpa using h)] at hi
          cases hi
      subst hiL
      rw [if_neg (by omega), if_pos rfl, if_pos (by omega)]
      rw [Nat.sub_self] at hi
      injection hi with hi
      rw [hi]

theorem pop_any {g : Nat} {x : Int} {S : List Int} {w : World} (h : StkIs w g (x :: S)) :
    Calls Tryz.prog 214 #[.pointer (some ⟨g, 0, none⟩)] w fun e w' => e = .returned (.int .i64 x) ∧ StkIs w' g S ∧ w.grownBy w' (some g) := by
  obtain ⟨cur, hg, hz, hl, hc, hi⟩ := h
  obtain ⟨L, hL⟩ : ∃ L, S.length = L := ⟨_, rfl⟩
  rw [List.length_cons, hL] at hl hc
  have hx : cur[L]? = some (.int .i64 x) := hi L x (by rw [List.reverse_cons, List.getElem?_append_right (by simp [hL])]; simp [hL])
  have c24 : w.cell? ⟨g, 24, none⟩ = some (.int .i64 ((L : Int) + 1)) := by rw [cell_of_row w g 24 _ _ _ hg]; exact hc
  have cL : w.cell? ⟨g, L, none⟩ = some (.int .i64 x) := by rw [cell_of_row w g L _ _ _ hg]; exact hx
  have f24 : w.frozen? ⟨g, 24, none⟩ = false := by simp [World.frozen?, hg]
  have hne : L ≠ 24 := by omega
  have hS : L < 24 := by omega
  have HG := hide_ hg
  have HZ := hide_ hz
  have HC := hide_ hc
  have HI := hide_ hi
  have HL := hide_ hL
  clear hg hz hc hi hL hx
  go_enter Tryz.func214, Tryz.ntmps214
  go_wp2
  go_region
  go_wp2
  go_ret
  refine ⟨rfl, ⟨_, heap_set 24 _ HG.out, by simpa using HZ.out, ?_, ?_, ?_⟩, grown_drew (grown_set (World.grownBy.refl w _) _ _)⟩
  · have := HL.out; omega
  · have h1 := HL.out
    have h2 := HZ.out
    simp [h1, h2]
  · intro i z hi
    have hlt : i < S.length := by
      have := (List.getElem?_eq_some_iff.1 hi).1
      simpa using this
    have h1 := HL.out
    rw [Array.getElem?_setIfInBounds, if_neg (by omega)]
    exact HI.out i z (by rw [List.reverse_cons, List.getElem?_append_left (by simpa using hlt)]; exact hi)
end Go.Proofs.YtkgnondlcaklnaaGreat
