/-
  Plain lemmas on the hash: what one byte does, what stirring does, and that neither makes two numbers one. Nothing here speaks of a program.
-/
import Derived.Laws.BitsAllLaws
namespace Go.Proofs.Ytlcgihdphdkhpaa

/-- numbers of 64 bits, without the numeral -/
def u64Top : Nat := 18446744073709551616
/-- a product that goes round -/
def mul64 (a b : Nat) : Nat := (a * b) % u64Top
def fnvB (h : Nat) (b : UInt8) : Nat := mul64 (h ^^^ b.toNat) 1099511628211
def fnvR (h : Nat) (l : List UInt8) : Nat := l.foldl fnvB h
def fnv (l : List UInt8) : Nat := fnvR 14695981039346656037 l
def stirN (h : Nat) : Nat :=
  let x := mul64 (h ^^^ h / 4294967296) 14029467366897019727
  x ^^^ x / 536870912

theorem mul64_lt (a b : Nat) : mul64 a b < u64Top := Nat.mod_lt _ (by decide)
theorem xor64_lt {x y : Nat} (hx : x < u64Top) (hy : y < u64Top) : x ^^^ y < u64Top := Nat.xor_lt_two_pow (n := 64) hx hy
theorem fnvB_lt (h : Nat) (b : UInt8) : fnvB h b < u64Top := mul64_lt _ _
theorem fnvR_lt (l : List UInt8) : ∀ h, h < u64Top → fnvR h l < u64Top := by
  induction l with
  | nil => intro h hh; exact hh
  | cons b l ih => intro h _; exact ih _ (fnvB_lt h b)
theorem fnv_lt (l : List UInt8) : fnv l < u64Top := by
  unfold fnv
  exact fnvR_lt l _ (by unfold u64Top; omega)
theorem fnvR_append (l m : List UInt8) (h : Nat) : fnvR h (l ++ m) = fnvR (fnvR h l) m := by simp [fnvR]
theorem foldl_snoc {α β : Type} (f : α → β → α) (l : List β) (b : β) (h : α) : (l ++ [b]).foldl f h = f (l.foldl f h) b := by simp
theorem fnvR_snoc (l : List UInt8) (b : UInt8) (h : Nat) : fnvR h (l ++ [b]) = fnvB (fnvR h l) b := foldl_snoc fnvB l b h
theorem fnvR_take (l : List UInt8) (h k : Nat) (hk : k < l.length) : fnvR h (l.take (k + 1)) = fnvB (fnvR h (l.take k)) l[k] := by
  rw [List.take_succ_eq_append_getElem hk, fnvR_snoc]

/-- a product with an odd number is turned back by another -/
theorem mul64_back {c d x : Nat} (hcd : c * d % u64Top = 1) (hx : x < u64Top) : mul64 (mul64 x c) d = x := by
  unfold mul64
  rw [Nat.mod_mul_mod, Nat.mul_assoc, Nat.mul_mod, hcd, Nat.mul_one, Nat.mod_mod, Nat.mod_eq_of_lt hx]
theorem mul64_inj {c d x y : Nat} (hcd : c * d % u64Top = 1) (hx : x < u64Top) (hy : y < u64Top) (h : mul64 x c = mul64 y c) : x = y := by
  rw [← mul64_back hcd hx, h, mul64_back hcd hy]
theorem xor64_div (x y k : Nat) : (x ^^^ y) / 2 ^ k = x / 2 ^ k ^^^ y / 2 ^ k := by
  have := Nat.shiftRight_xor_distrib (a := x) (b := y) (i := k)
  simpa [Nat.shiftRight_eq_div_pow] using this
theorem xor64_zero {x y : Nat} (h : x ^^^ y = 0) : x = y := by
  have := congrArg (fun z => z ^^^ y) h
  simpa [Nat.xor_assoc] using this
theorem xor64_left {x y z : Nat} (h : z ^^^ x = z ^^^ y) : x = y := by
  have := congrArg (fun w => z ^^^ w) h
  simpa [← Nat.xor_assoc] using this
/-- a number with its own upper bits laid over the lower ones -/
theorem fold_inj {x y k : Nat} (hk : 0 < k) (h : x ^^^ x / 2 ^ k = y ^^^ y / 2 ^ k) : x = y := by
  apply xor64_zero
  have e : x ^^^ y = (x ^^^ y) / 2 ^ k := by
    rw [xor64_div]
    have h1 : (x ^^^ x / 2 ^ k) ^^^ (y ^^^ y / 2 ^ k) = 0 := by rw [h, Nat.xor_self]
    have h2 : (x ^^^ x / 2 ^ k) ^^^ (y ^^^ y / 2 ^ k) = (x ^^^ y) ^^^ (x / 2 ^ k ^^^ y / 2 ^ k) := by
      rw [Nat.xor_assoc, ← Nat.xor_assoc (x / 2 ^ k), Nat.xor_comm (x / 2 ^ k) y, Nat.xor_assoc y, ← Nat.xor_assoc x]
    exact xor64_zero (h2.symm.trans h1)
  rcases Nat.eq_zero_or_pos (x ^^^ y) with h0 | h0
  · exact h0
  · have : (x ^^^ y) / 2 ^ k < x ^^^ y := Nat.div_lt_self h0 (Nat.one_lt_two_pow (by omega))
    omega
theorem stirN_lt {h : Nat} : stirN h < u64Top := by
  unfold stirN
  exact xor64_lt (mul64_lt _ _) (Nat.lt_of_le_of_lt (Nat.div_le_self _ _) (mul64_lt _ _))
theorem stirN_inj {x y : Nat} (hx : x < u64Top) (hy : y < u64Top) (h : stirN x = stirN y) : x = y := by
  unfold stirN at h
  have h1 := fold_inj (k := 29) (by omega) h
  have h2 := mul64_inj (c := 14029467366897019727) (d := 839798700976720815) (by decide)
    (xor64_lt hx (Nat.lt_of_le_of_lt (Nat.div_le_self _ _) hx)) (xor64_lt hy (Nat.lt_of_le_of_lt (Nat.div_le_self _ _) hy)) h1
  exact fold_inj (k := 32) (by omega) h2
theorem fnvB_inj {h : Nat} {x y : UInt8} (hh : h < u64Top) (e : fnvB h x = fnvB h y) : x = y := by
  have bx : x.toNat < u64Top := Nat.lt_of_lt_of_le x.toNat_lt (by decide)
  have by' : y.toNat < u64Top := Nat.lt_of_lt_of_le y.toNat_lt (by decide)
  have := mul64_inj (c := 1099511628211) (d := 14886173955864302971) (by decide) (xor64_lt hh bx) (xor64_lt hh by') e
  exact UInt8.toNat_inj.1 (xor64_left this)
/-- the product by halves -/
theorem halves (a b : Nat) :
    ((a % 4294967296) * (b % 4294967296) + ((((a % 4294967296) * (b / 4294967296) + (a / 4294967296) * (b % 4294967296)) % u64Top) % 4294967296) * 4294967296) % u64Top = mul64 a b := by
  have e : u64Top = 4294967296 * 4294967296 := by decide
  rw [e, Nat.mod_mul_left_mod]
  unfold mul64
  rw [e]
  generalize hal : a % 4294967296 = al
  generalize hah : a / 4294967296 = ah
  generalize hbl : b % 4294967296 = bl
  generalize hbh : b / 4294967296 = bh
  have ha : a = 4294967296 * ah + al := by omega
  have hb' : b = 4294967296 * bh + bl := by omega
  rw [ha, hb', ← Nat.mul_mod_mul_right, Nat.add_mod_mod]
  have : (4294967296 * ah + al) * (4294967296 * bh + bl) = al * bl + (al * bh + ah * bl) * 4294967296 + (4294967296 * 4294967296) * (ah * bh) := by
    simp only [Nat.mul_add, Nat.add_mul]
    ac_nf
  rw [this, Nat.add_mul_mod_self_left]
end Go.Proofs.Ytlcgihdphdkhpaa
