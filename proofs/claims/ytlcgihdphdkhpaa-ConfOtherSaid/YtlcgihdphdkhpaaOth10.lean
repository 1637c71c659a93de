/-
  All bits turned round.
-/
import Derived.Test.YtlcgihdphdkhpaaBits
import Derived.Laws.BitsAllLaws
namespace Go.Proofs.Ytlcgihdphdkhpaa

theorem turn64 {x : Nat} (h : x < 18446744073709551616) : 18446744073709551615 ^^^ x = 18446744073709551615 - x := by
  have h2 : x < 2 ^ 64 := h
  apply Nat.eq_of_testBit_eq
  intro i
  rw [Nat.testBit_xor, show (18446744073709551615 : Nat) = 2 ^ 64 - 1 from rfl, show 2 ^ 64 - 1 - x = 2 ^ 64 - (x + 1) from by omega, Nat.testBit_two_pow_sub_succ h2, Nat.testBit_two_pow_sub_one]
  by_cases hi : i < 64
  · simp [hi]
  · rw [Nat.testBit_lt_two_pow (Nat.lt_of_lt_of_le h2 (Nat.pow_le_pow_right (by omega) (by omega)))]
    simp [hi]
theorem not64 (s : Nat) (h : s < 18446744073709551616) : bits .xor .u64 18446744073709551615 (s : Int) = ((18446744073709551615 - s : Nat) : Int) := by
  have := u64_xor_nat 18446744073709551615 s (by omega) h
  rw [turn64 h] at this
  exact this
theorem not64' (s : Nat) (h : s < 18446744073709551616) : bits .xor .u64 IntKind.u64.max (s : Int) = ((18446744073709551615 - s : Nat) : Int) := not64 s h
end Go.Proofs.Ytlcgihdphdkhpaa
