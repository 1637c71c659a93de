/-
  Contracts of expr's functions.
-/
import Derived.Test.YtkjgplcfoihohaaRefMay
import Derived.Outline
namespace Go.Proofs.Ytkjgplcfoihohaa
open Go.RowKit

theorem std_mid {vs o N : Int} (h : 3 ≤ o ∧ o ≤ 11) : stdB vs (o, N) = (N == 0) := by
  unfold stdB
  simp only
  rw [if_neg (by omega), if_neg (by omega), if_pos h, Bool.eq_iff_iff]
  simp

set_option maxHeartbeats 800000 in
theorem mayStand_any (o N vs : Int) (w : World) : Calls Try.prog 143 #[.agg #[.int .u8 o, .int .i64 N], .int .i64 vs] w fun e w' => e = .returned (.bool (stdB vs (o, N))) ∧ Below w.heap.size w w' := by
  by_cases h3 : 3 ≤ o ∧ o ≤ 11
  · have HR := hide_ (std_mid (vs := vs) (N := N) h3)
    rcases (show o = 3 ∨ o = 4 ∨ o = 5 ∨ o = 6 ∨ o = 7 ∨ o = 8 ∨ o = 9 ∨ o = 10 ∨ o = 11 by omega) with rfl | rfl | rfl | rfl | rfl | rfl | rfl | rfl | rfl
    all_goals
      go_enter Try.func143, Try.ntmps143
      go_wp2
      go_ret
      exact ⟨ret_bool HR.out.symm, (Below.refl _ _).alloc (Nat.le_refl _) _⟩
  cases hst : stdB vs (o, N) with
  | true =>
    rcases std_yes hst with rfl | ⟨rfl, hN1, hN2⟩ | ⟨h1, h2, _⟩
    · clear hst h3
      go_enter Try.func143, Try.ntmps143
      go_wp2
      go_ret
      exact ⟨rfl, (Below.refl _ _).alloc (Nat.le_refl _) _⟩
    · clear hst h3
      have hd := decide_eq_true hN2
      go_enter Try.func143, Try.ntmps143
      go_wp2
      go_ret
      exact ⟨rfl, (Below.refl _ _).alloc (Nat.le_refl _) _⟩
    · exact absurd ⟨h1, h2⟩ h3
  | false =>
    have hcs : (o = 2 ∧ N < 0) ∨ (o = 2 ∧ 0 ≤ N ∧ vs ≤ N) ∨ o < 1 ∨ 11 < o := by have := std_no hst; omega
    clear hst h3
    rcases hcs with ⟨rfl, hN⟩ | ⟨rfl, hN1, hN2⟩ | ho | ho
    · go_enter Try.func143, Try.ntmps143
      go_wp2
      go_ret
      exact ⟨rfl, (Below.refl _ _).alloc (Nat.le_refl _) _⟩
    · have hd : decide (N < vs) = false := decide_eq_false (by omega)
      go_enter Try.func143, Try.ntmps143
      go_wp2
      go_ret
      exact ⟨rfl, (Below.refl _ _).alloc (Nat.le_refl _) _⟩
    all_goals
      have b1 : (o == 1) = false := beq_eq_false_iff_ne.2 (by omega)
      have b2 : (o == 2) = false := beq_eq_false_iff_ne.2 (by omega)
      have b3 : (o == 3) = false := beq_eq_false_iff_ne.2 (by omega)
      have b4 : (o == 4) = false := beq_eq_false_iff_ne.2 (by omega)
      have b5 : (o == 5) = false := beq_eq_false_iff_ne.2 (by omega)
      have b6 : (o == 6) = false := beq_eq_false_iff_ne.2 (by omega)
      have b7 : (o == 7) = false := beq_eq_false_iff_ne.2 (by omega)
      have b8 : (o == 8) = false := beq_eq_false_iff_ne.2 (by omega)
      have b9 : (o == 9) = false := beq_eq_false_iff_ne.2 (by omega)
      have b10 : (o == 10) = false := beq_eq_false_iff_ne.2 (by omega)
      have b11 : (o == 11) = false := beq_eq_false_iff_ne.2 (by omega)
      go_enter Try.func143, Try.ntmps143
      go_wp2
      go_ret
      exact ⟨rfl, (Below.refl _ _).alloc (Nat.le_refl _) _⟩

theorem named_any (vars : List Int) (arg o N : Int) (B : Nat) (V : Option Addr) (m k : Nat) (w : World) (hm : vars.length = m) (hsv : Sees w B V (iv vars)) (hB : B ≤ w.heap.size) (h0 : takesN o = 0) (hst : stdB m (o, N) = true) :
    Calls Try.prog 151 #[.agg #[.int .u8 o, .int .i64 N], .slice V m k, .int .i64 arg] w fun e w' => e = .returned (.int .i64 (named vars arg (o, N))) ∧ Below w.heap.size w w' := by
  have HM := hide_ hm
  clear hm
  rcases takes0 h0 with rfl | rfl | rfl
  · clear h0 hst
    go_enter Try.func151, Try.ntmps151
    go_wp2
    go_ret
    exact ⟨rfl, (Below.refl _ _).alloc (Nat.le_refl _) _⟩
  · have hN : 0 ≤ N ∧ N < m := by simpa [stdB] using hst
    clear h0 hst
    obtain ⟨N, rfl⟩ := Int.eq_ofNat_of_zero_le hN.1
    have hN2 : N < m := by omega
    clear hN
    obtain ⟨vb, vo, rfl, hvb, hvc⟩ := hsv.int (k := N) (by rw [HM.out]; exact hN2)
    have hvw : vb < w.heap.size := by omega
    go_enter Try.func151, Try.ntmps151
    go_wp2
    go_ret
    exact ⟨rfl, (Below.refl _ _).alloc (Nat.le_refl _) _⟩
  · clear h0 hst
    go_enter Try.func151, Try.ntmps151
    go_wp2
    go_ret
    exact ⟨rfl, (Below.refl _ _).alloc (Nat.le_refl _) _⟩

end Go.Proofs.Ytkjgplcfoihohaa
