/-
  Texts of this claim put together: Sum.
-/
import Derived.Test.YtnkjdijbfnmnhaaGreatRows
import Derived.Test.YtnkjdijbfnmnhaaGreatJ05
import Derived.Test.YtnkjdijbfnmnhaaGreatJ01
import Derived.WalkKit
/-
  Contracts of sum's functions: the register's table, the sum of bytes.
-/
namespace Go.Proofs.YtnkjdijbfnmnhaaGreat
open Go.RowKit

theorem ret_u32 {a b : Int} (h : a = b) : Ending.returned (.int .u32 a) = .returned (.int .u32 b) := by rw [h]
theorem val_u32 {a b : Int} (h : a = b) : Value.int .u32 a = .int .u32 b := by rw [h]


theorem u32_info : (Tryz.prog.info? 47).map (fun i => (i.zero, i.size, i.bytes)) = some (some (.int .u32 0), 1, 4) := by kernel_rfl

/-- what each row of four bits does, the first k of them -/
def tabL (k : Nat) : List Value := (List.range 16).map fun j => if j < k then .int .u32 (bitsN 4 j : Nat) else .int .u32 0
theorem tabL_length (k : Nat) : (tabL k).length = 16 := by simp [tabL]
theorem tabL_size (k : Nat) : (tabL k).toArray.size = 16 := by simp [tabL]
theorem tabL_get (k j : Nat) (h : j < 16) : (tabL k)[j]? = some (if j < k then .int .u32 (bitsN 4 j : Nat) else .int .u32 0) := by simp [tabL, h]
theorem tabL_succ (k : Nat) : (tabL k).toArray.setIfInBounds k (.int .u32 (bitsN 4 k : Nat)) = (tabL (k + 1)).toArray := by
  apply Array.ext_getElem?
  intro j
  rw [Array.getElem?_setIfInBounds]
  simp only [List.getElem?_toArray, List.size_toArray, tabL_length]
  by_cases hj : j < 16
  · rw [tabL_get k j hj, tabL_get (k + 1) j hj]
    by_cases hk : k = j
    · subst hk
      rw [if_pos rfl, if_pos hj, if_pos (by omega)]
    · rw [if_neg hk]
      by_cases h2 : j < k
      · rw [if_pos h2, if_pos (by omega)]
      · rw [if_neg h2, if_neg (by omega)]
  · have e1 : (tabL k)[j]? = none := List.getElem?_eq_none (by rw [tabL_length]; omega)
    have e2 : (tabL (k + 1))[j]? = none := List.getElem?_eq_none (by rw [tabL_length]; omega)
    rw [e1, e2]
    split
    · rw [if_neg (by omega)]
    · rfl
theorem tabL_one (k : Nat) : (tabL k).toArray.all (·.oneCell') = true := by
  rw [Array.all_eq_true]
  intro i hi
  simp [tabL] at hi ⊢
  split <;> rfl
/-- the table -/
def tab : Array Value := (tabL 16).toArray
theorem tab_size : tab.size = 16 := tabL_size 16

theorem steps_under : Tryz.prog.underlying 421 = some (.array 16 47) := by kernel_rfl
theorem steps_size : (Tryz.prog.info? 421).map (·.size) = some 16 := by kernel_rfl

theorem not32 (s : Nat) (h : s < 4294967296) : bits .xor .u32 4294967295 (s : Int) = ((4294967295 - s : Nat) : Int) := by
  have := u32_xor_nat 4294967295 s (by omega) h
  rw [turn_eq h] at this
  exact this
theorem not32' (s : Nat) (h : s < 4294967296) : bits .xor .u32 IntKind.u32.max (s : Int) = ((4294967295 - s : Nat) : Int) := not32 s h

theorem tab_cell (j : Nat) (h : j < 16) : tab[j]? = some (.int .u32 (bitsN 4 j : Nat)) := by
  unfold tab
  rw [List.getElem?_toArray, tabL_get 16 j h, if_pos h]
theorem take_snocS (l : List UInt8) (k : Nat) (h : k < l.length) : l.take (k + 1) = l.take k ++ [l[k]] := by
  rw [List.take_succ_eq_append_getElem h]

theorem test_yes {x y : Nat} (h : (!((x : Int) % 2 == (y : Int))) = false) : x % 2 = y := by
  simp at h
  omega
theorem test_no {x y : Nat} (h : (!((x : Int) % 2 == (y : Int))) = true) : x % 2 ≠ y := by
  simp at h
  omega
theorem refStep_yes {x b j R : Nat} (h : x ^^^ b / 2 ^ j = bitsN j R) (he : x % 2 = b / 2 ^ j % 2) : x / 2 ^^^ b / 2 ^ (j + 1) = bitsN (j + 1) R := by
  rw [bitsN, ← h]
  unfold bit1
  rw [xor_mod2, if_neg (by omega), xor_half, Nat.div_div_eq_div_mul, Nat.pow_succ]
theorem refStep_no {x b j R : Nat} (h : x ^^^ b / 2 ^ j = bitsN j R) (he : x % 2 ≠ b / 2 ^ j % 2) : (x / 2 ^^^ 3988292384) ^^^ b / 2 ^ (j + 1) = bitsN (j + 1) R := by
  rw [bitsN, ← h]
  unfold bit1
  rw [xor_mod2, if_pos (by omega), xor_half, Nat.div_div_eq_div_mul, Nat.pow_succ, Nat.xor_assoc, Nat.xor_comm 3988292384, Nat.xor_assoc]

end Go.Proofs.YtnkjdijbfnmnhaaGreat
