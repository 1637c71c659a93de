/-
  Texts of this claim put together: Read, Read2, Row, Nums, St.
-/
import Derived.Test.YtpiikdinphnjbaaGreatJ04
import Derived.WalkSpells
import Derived.Outline
/-
  Contracts of pack's reader: one that New has made.
-/
namespace Go.Proofs.YtpiikdinphnjbaaGreat
open Go.RowKit

/-- a number's bytes taken: from the byte numbered i on, with what stood ahead: the number and what is left, or the error -/
def takeN : Nat → Nat → List UInt8 → (Nat × List UInt8) ⊕ Int
  | _, _, [] => .inr 2
  | i, acc, c :: t =>
    if (i = 9 ∧ c.toNat ≠ 1) ∨ (i ≠ 9 ∧ i ≠ 0 ∧ c.toNat = 0) then .inr 3
    else if c.toNat < 128 then .inl (acc + c.toNat % 128 * 128 ^ i, t)
    else takeN (i + 1) (acc + c.toNat % 128 * 128 ^ i) t

end Go.Proofs.YtpiikdinphnjbaaGreat
/-
  Contracts of pack's reader's methods: numbers, whole numbers, rows, the end.
-/
namespace Go.Proofs.YtpiikdinphnjbaaGreat
open Go.RowKit

/-- a number up to most -/
def takeUp (most : Nat) (l : List UInt8) : (Nat × List UInt8) ⊕ Int :=
  match takeN 0 0 l with
  | .inl (n, t) => if most < n then .inr 6 else .inl (n, t)
  | .inr er => .inr er

end Go.Proofs.YtpiikdinphnjbaaGreat
/-
  Contracts of pack's reader: a row; and what is put is what is taken, as plain facts on lists.
-/
namespace Go.Proofs.YtpiikdinphnjbaaGreat
open Go.RowKit

/-- a row of at most so many bytes -/
def takeR (most : Int) (l : List UInt8) : (List UInt8 × List UInt8) ⊕ Int :=
  match takeN 0 0 l with
  | .inr er => .inr er
  | .inl (n, t) => if max most 0 < (n : Int) then .inr 4 else if t.length < n then .inr 2 else .inl (t.take n, t.drop n)

end Go.Proofs.YtpiikdinphnjbaaGreat
/-
  Plain facts on lists of bytes: what is put is taken; what is cut off is short.
-/
namespace Go.Proofs.YtpiikdinphnjbaaGreat

theorem pow9 (i : Nat) (x : Nat) (hi : i ≤ 9) (hx : x * 128 ^ i < 18446744073709551616) (h9 : i = 9) : x ≤ 1 := by
  subst h9
  omega
theorem toNat_of {n : Nat} (h : n < 256) : (UInt8.ofNat n).toNat = n := by simp; omega

theorem takeN_num (t : List UInt8) : ∀ (x i acc : Nat), i ≤ 9 → x * 128 ^ i < 18446744073709551616 → (i = 0 ∨ 0 < x) → takeN i acc (numB x ++ t) = .inl (acc + x * 128 ^ i, t) := by
  intro x
  induction x using Nat.strongRecOn with
  | _ x ih =>
    intro i acc hi hx h0
    have h9 := pow9 i x hi hx
    by_cases hs : x < 128
    · rw [numB_small hs, List.singleton_append, takeN, toNat_of (by omega), if_neg (by omega), if_pos hs, Nat.mod_eq_of_lt hs]
    · have e1 : x % 128 * 128 ^ i + x / 128 * 128 ^ (i + 1) = x * 128 ^ i := by
        rw [Nat.pow_succ, Nat.mul_comm (128 ^ i) 128, ← Nat.mul_assoc, ← Nat.add_mul]
        congr 1
        omega
      rw [numB_big (by omega), List.cons_append, takeN, toNat_of (by omega), if_neg (by omega), if_neg (by omega), ih (x / 128) (by omega) (i + 1) _ (by omega) (by omega) (by omega)]
      congr 2
      rw [show (x % 128 + 128) % 128 = x % 128 by omega]
      omega

theorem takeN_cut : ∀ (x i acc k : Nat), i ≤ 9 → x * 128 ^ i < 18446744073709551616 → (i = 0 ∨ 0 < x) → k < (numB x).length → takeN i acc ((numB x).take k) = .inr 2 := by
  intro x
  induction x using Nat.strongRecOn with
  | _ x ih =>
    intro i acc k hi hx h0 hk
    have h9 := pow9 i x hi hx
    rcases k with _ | k
    · rw [List.take_zero, takeN]
    · by_cases hs : x < 128
      · rw [numB_small hs] at hk
        simp at hk
      · have e1 : x % 128 * 128 ^ i + x / 128 * 128 ^ (i + 1) = x * 128 ^ i := by
          rw [Nat.pow_succ, Nat.mul_comm (128 ^ i) 128, ← Nat.mul_assoc, ← Nat.add_mul]
          congr 1
          omega
        rw [numB_big (by omega), List.length_cons] at hk
        rw [numB_big (by omega), List.take_succ_cons, takeN, toNat_of (by omega), if_neg (by omega), if_neg (by omega), ih (x / 128) (by omega) (i + 1) _ k (by omega) (by omega) (by omega) (by omega)]

theorem takeN_put (x : Nat) (t : List UInt8) (hx : x < 18446744073709551616) : takeN 0 0 (numB x ++ t) = .inl (x, t) := by
  rw [takeN_num t x 0 0 (by omega) (by simpa using hx) (.inl rfl)]
  simp
theorem takeN_short (x k : Nat) (hx : x < 18446744073709551616) (hk : k < (numB x).length) : takeN 0 0 ((numB x).take k) = .inr 2 :=
  takeN_cut x 0 0 k (by omega) (by simpa using hx) (.inl rfl) hk
theorem takeUp_put (x most : Nat) (t : List UInt8) (hx : x < 18446744073709551616) (hm : x ≤ most) : takeUp most (numB x ++ t) = .inl (x, t) := by
  rw [takeUp, takeN_put x t hx]
  simp only
  rw [if_neg (by omega)]
theorem takeUp_short (x k most : Nat) (hx : x < 18446744073709551616) (hk : k < (numB x).length) : takeUp most ((numB x).take k) = .inr 2 := by
  rw [takeUp, takeN_short x k hx hk]
theorem takeR_put (row t : List UInt8) (most : Int) (hr : row.length < 18446744073709551616) (hm : (row.length : Int) ≤ max most 0) : takeR most (rowB row ++ t) = .inl (row, t) := by
  rw [takeR, rowB, List.append_assoc, takeN_put _ _ hr]
  simp only
  rw [if_neg (by omega), if_neg (by simp)]
  simp
theorem takeR_short (row : List UInt8) (most : Int) (k : Nat) (hr : row.length < 18446744073709551616) (hm : (row.length : Int) ≤ max most 0) (hk : k < (rowB row).length) : takeR most ((rowB row).take k) = .inr 2 := by
  rw [takeR, rowB, List.take_append]
  by_cases h : k < (numB row.length).length
  · rw [Nat.sub_eq_zero_of_le (by omega), List.take_zero, List.append_nil, takeN_short _ k hr h]
  · rw [List.take_of_length_le (by omega), takeN_put _ _ hr]
    simp only
    rw [rowB, List.length_append] at hk
    rw [if_neg (by omega), if_pos (by simp; omega)]
end Go.Proofs.YtpiikdinphnjbaaGreat

/-
  A reader's calls by one contract each: the reader's state (what is left, its error) as a pair; what is taken and the state behind it are plain functions of it.
-/
namespace Go.Proofs.YtpiikdinphnjbaaGreat
open Go.RowKit

end Go.Proofs.YtpiikdinphnjbaaGreat