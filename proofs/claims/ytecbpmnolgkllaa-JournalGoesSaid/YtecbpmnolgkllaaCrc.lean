/-
  Plain lemmas on the sum: the register, bit by bit, and how it joins what is put together by exclusive or. Nothing here speaks of a program.
-/
import Derived.Laws.BitsAllLaws
namespace Go.Proofs.Ytecbpmnolgkllaa

/-- the register behind one bit -/
def bit1 (x : Nat) : Nat := if x % 2 = 1 then (x / 2) ^^^ 3988292384 else x / 2
/-- behind k bits -/
def bitsN : Nat → Nat → Nat
  | 0, x => x
  | k + 1, x => bit1 (bitsN k x)
/-- behind a byte -/
def crcB (r : Nat) (b : UInt8) : Nat := bitsN 8 (r ^^^ b.toNat)
def crcR (r : Nat) (l : List UInt8) : Nat := l.foldl crcB r
/-- the sum -/
def crc (l : List UInt8) : Nat := 4294967295 - crcR 4294967295 l
/-- four bytes, the lowest first -/
def le4 (n : Nat) : List UInt8 := [UInt8.ofNat n, UInt8.ofNat (n / 256), UInt8.ofNat (n / 65536), UInt8.ofNat (n / 16777216)]

theorem xor_lt {x y : Nat} (hx : x < 4294967296) (hy : y < 4294967296) : x ^^^ y < 4294967296 := Nat.xor_lt_two_pow (n := 32) hx hy
theorem xor_lt8 {x y : Nat} (hx : x < 256) (hy : y < 256) : x ^^^ y < 256 := Nat.xor_lt_two_pow (n := 8) hx hy
theorem bit1_lt {x : Nat} (h : x < 4294967296) : bit1 x < 4294967296 := by
  unfold bit1
  split
  · exact xor_lt (by omega) (by omega)
  · omega
theorem bitsN_lt : ∀ (k x : Nat), x < 4294967296 → bitsN k x < 4294967296
  | 0, _, h => h
  | k + 1, x, h => bit1_lt (bitsN_lt k x h)
theorem crcB_lt {r : Nat} (b : UInt8) (h : r < 4294967296) : crcB r b < 4294967296 := bitsN_lt 8 _ (xor_lt h (by have := b.toNat_lt; omega))
theorem crcR_lt (l : List UInt8) : ∀ r : Nat, r < 4294967296 → crcR r l < 4294967296 := by
  induction l with
  | nil => intro r h; exact h
  | cons b l ih => intro r h; exact ih _ (crcB_lt b h)
theorem crc_lt (l : List UInt8) : crc l < 4294967296 := by unfold crc; omega
theorem crcR_append (l m : List UInt8) (r : Nat) : crcR r (l ++ m) = crcR (crcR r l) m := by simp [crcR]
theorem crcR_snoc (l : List UInt8) (b : UInt8) (r : Nat) : crcR r (l ++ [b]) = crcB (crcR r l) b := by simp [crcR]

/-! exclusive or -/
theorem xor_mod2 (x y : Nat) : (x ^^^ y) % 2 = (x % 2 + y % 2) % 2 := by
  have h := @Nat.xor_mod_two_eq_one x y
  omega
theorem xor_half (x y : Nat) : (x ^^^ y) / 2 = x / 2 ^^^ y / 2 := by
  have := Nat.shiftRight_xor_distrib (a := x) (b := y) (i := 1)
  simpa [Nat.shiftRight_eq_div_pow] using this
theorem bit1_xor (x y : Nat) : bit1 (x ^^^ y) = bit1 x ^^^ bit1 y := by
  unfold bit1
  rw [xor_mod2, xor_half]
  have e : ∀ a b c : Nat, a ^^^ c ^^^ (b ^^^ c) = a ^^^ b := fun a b c => by
    rw [Nat.xor_comm b c, Nat.xor_assoc, ← Nat.xor_assoc c c b, Nat.xor_self, Nat.zero_xor]
  rcases Nat.mod_two_eq_zero_or_one x with a | a <;> rcases Nat.mod_two_eq_zero_or_one y with b | b <;> simp [a, b]
  · rw [Nat.xor_assoc]
  · rw [Nat.xor_assoc, Nat.xor_comm (y / 2), ← Nat.xor_assoc]
  · rw [e]
theorem bitsN_xor (k x y : Nat) : bitsN k (x ^^^ y) = bitsN k x ^^^ bitsN k y := by
  induction k with
  | zero => rfl
  | succ k ih => rw [bitsN, ih, bit1_xor]; rfl
theorem bit1_two (x : Nat) : bit1 (2 * x) = x := by unfold bit1; rw [if_neg (by omega)]; omega
theorem bitsN_bit1 (k x : Nat) : bitsN k (bit1 x) = bit1 (bitsN k x) := by
  induction k with
  | zero => rfl
  | succ k ih => rw [bitsN, ih]; rfl
theorem bitsN_add (j k x : Nat) : bitsN j (bitsN k x) = bitsN (j + k) x := by
  induction j with
  | zero => simp [bitsN]
  | succ j ih => rw [bitsN, ih, Nat.succ_add]; rfl
theorem bitsN_pow (k : Nat) : ∀ x : Nat, bitsN k (2 ^ k * x) = x := by
  induction k with
  | zero => intro x; simp [bitsN]
  | succ k ih =>
    intro x
    rw [Nat.pow_succ, Nat.mul_assoc, bitsN, ih, bit1_two]
/-- four bits at once -/
theorem bits4 (x : Nat) : bitsN 4 x = x / 16 ^^^ bitsN 4 (x % 16) := by
  have e : x = 2 ^ 4 * (x / 16) ^^^ x % 16 := by
    have h : 2 ^ 4 * (x / 16) ^^^ x % 16 = 2 ^ 4 * (x / 16) + x % 16 := by
      have := Nat.two_pow_add_eq_or_of_lt (i := 4) (b := x % 16) (by omega) (x / 16)
      rw [this]
      apply Nat.eq_of_testBit_eq
      intro j
      rw [Nat.testBit_xor, Nat.testBit_or, Nat.testBit_two_pow_mul]
      by_cases hj : 4 ≤ j
      · have : (x % 16).testBit j = false := Nat.testBit_lt_two_pow (Nat.lt_of_lt_of_le (by omega : x % 16 < 2 ^ 4) (Nat.pow_le_pow_right (by omega) hj))
        simp [this]
      · simp [hj]
    rw [h]; omega
  have h2 := bitsN_xor 4 (2 ^ 4 * (x / 16)) (x % 16)
  rw [← e, bitsN_pow] at h2
  exact h2
theorem bit1_inj0 {x : Nat} (h : x < 4294967296) (h0 : bit1 x = 0) : x = 0 := by
  unfold bit1 at h0
  split at h0
  · have h2 : x / 2 = 3988292384 := by
      have := congrArg (fun z => z ^^^ 3988292384) h0
      simpa [Nat.xor_assoc] using this
    omega
  · omega
theorem bitsN_inj0 : ∀ (k : Nat) {x : Nat}, x < 4294967296 → bitsN k x = 0 → x = 0
  | 0, _, _, h => h
  | k + 1, _, hx, h => bitsN_inj0 k hx (bit1_inj0 (bitsN_lt k _ hx) h)
theorem xor_zero_eq {x y : Nat} (h : x ^^^ y = 0) : x = y := by
  have := congrArg (fun z => z ^^^ y) h
  simpa [Nat.xor_assoc] using this
theorem bitsN_inj {k x y : Nat} (hx : x < 4294967296) (hy : y < 4294967296) (h : bitsN k x = bitsN k y) : x = y := by
  refine xor_zero_eq (bitsN_inj0 k (xor_lt hx hy) ?_)
  rw [bitsN_xor, h, Nat.xor_self]
theorem xor_right_inj {x y z : Nat} (h : x ^^^ z = y ^^^ z) : x = y := by
  have := congrArg (fun w => w ^^^ z) h
  simpa [Nat.xor_assoc] using this
theorem crcR_inj (l : List UInt8) : ∀ {x y : Nat}, x < 4294967296 → y < 4294967296 → crcR x l = crcR y l → x = y := by
  induction l with
  | nil => intro x y _ _ h; exact h
  | cons b l ih =>
    intro x y hx hy h
    have hb : b.toNat < 4294967296 := by have := b.toNat_lt; omega
    have := ih (crcB_lt b hx) (crcB_lt b hy) h
    exact xor_right_inj (bitsN_inj (xor_lt hx hb) (xor_lt hy hb) this)

/-- turning all of a register's bits -/
theorem turn_eq {x : Nat} (h : x < 4294967296) : 4294967295 ^^^ x = 4294967295 - x := by
  have h2 : x < 2 ^ 32 := h
  apply Nat.eq_of_testBit_eq
  intro j
  rw [Nat.testBit_xor, show (4294967295 : Nat) = 2 ^ 32 - 1 from rfl, show 2 ^ 32 - 1 - x = 2 ^ 32 - (x + 1) from by omega, Nat.testBit_two_pow_sub_succ h2, Nat.testBit_two_pow_sub_one]
  by_cases hj : j < 32
  · simp [hj]
  · have : x.testBit j = false := Nat.testBit_lt_two_pow (Nat.lt_of_lt_of_le h2 (Nat.pow_le_pow_right (by omega) (by omega)))
    simp [hj, this]

/-! four bytes at once -/
theorem split_xor (k x : Nat) : 2 ^ k * (x / 2 ^ k) ^^^ x % 2 ^ k = x := by
  have hp : 0 < 2 ^ k := Nat.two_pow_pos k
  have hlt : x % 2 ^ k < 2 ^ k := Nat.mod_lt _ hp
  have h : 2 ^ k * (x / 2 ^ k) ^^^ x % 2 ^ k = 2 ^ k * (x / 2 ^ k) + x % 2 ^ k := by
    rw [Nat.two_pow_add_eq_or_of_lt hlt]
    apply Nat.eq_of_testBit_eq
    intro j
    rw [Nat.testBit_xor, Nat.testBit_or, Nat.testBit_two_pow_mul]
    by_cases hj : k ≤ j
    · have : (x % 2 ^ k).testBit j = false := Nat.testBit_lt_two_pow (Nat.lt_of_lt_of_le hlt (Nat.pow_le_pow_right (by omega) hj))
      simp [this]
    · simp [hj]
  rw [h, Nat.div_add_mod]
theorem byte_step (X z : Nat) : bitsN 8 (X ^^^ z ^^^ z % 256) = bitsN 8 X ^^^ z / 256 := by
  have e : z ^^^ z % 256 = 2 ^ 8 * (z / 256) := by
    have h := split_xor 8 z
    have h2 := congrArg (fun y => y ^^^ z % 2 ^ 8) h
    simp only [Nat.xor_assoc, Nat.xor_self, Nat.xor_zero] at h2
    exact h2.symm
  rw [Nat.xor_assoc, e, bitsN_xor, bitsN_pow]
theorem crcB_step (X z : Nat) : crcB (X ^^^ z) (UInt8.ofNat z) = bitsN 8 X ^^^ z / 256 := by
  have e : (UInt8.ofNat z).toNat = z % 256 := by simp
  unfold crcB
  rw [e, byte_step]
theorem crcR_le4 (R v : Nat) (hv : v < 4294967296) : crcR R (le4 v) = bitsN 32 (R ^^^ v) := by
  have e0 : R = (R ^^^ v) ^^^ v := by rw [Nat.xor_assoc, Nat.xor_self, Nat.xor_zero]
  generalize hX : R ^^^ v = X at e0
  subst e0
  clear hX
  show crcB (crcB (crcB (crcB (X ^^^ v) _) _) _) _ = _
  rw [crcB_step, crcB_step, Nat.div_div_eq_div_mul, show 256 * 256 = 65536 from rfl, crcB_step, Nat.div_div_eq_div_mul, show 65536 * 256 = 16777216 from rfl, crcB_step, Nat.div_div_eq_div_mul, show v / (16777216 * 256) = 0 by omega, Nat.xor_zero, bitsN_add, bitsN_add, bitsN_add]
theorem crcR_mark (l : List UInt8) : crcR 4294967295 (l ++ le4 (crc l)) = bitsN 32 4294967295 := by
  have h := crcR_lt l 4294967295 (by omega)
  rw [crcR_append, crcR_le4 _ _ (crc_lt l)]
  unfold crc
  rw [← turn_eq h, Nat.xor_comm 4294967295, ← Nat.xor_assoc, Nat.xor_self, Nat.zero_xor]
theorem crcB_xor (r s : Nat) (x y : UInt8) : crcB (r ^^^ s) (x ^^^ y) = crcB r x ^^^ crcB s y := by
  unfold crcB
  rw [UInt8.toNat_xor, show r ^^^ s ^^^ (x.toNat ^^^ y.toNat) = (r ^^^ x.toNat) ^^^ (s ^^^ y.toNat) by ac_rfl, bitsN_xor]
/-- four bytes that are others leave another register -/
theorem crcR_four (p s : List UInt8) (a b c d : UInt8) (v : Nat) (hv : v < 4294967296) (h0 : v ≠ 0) :
    crcR 4294967295 (p ++ [a, b, c, d] ++ s) ≠ crcR 4294967295 (p ++ [a ^^^ UInt8.ofNat v, b ^^^ UInt8.ofNat (v / 256), c ^^^ UInt8.ofNat (v / 65536), d ^^^ UInt8.ofNat (v / 16777216)] ++ s) := by
  intro h
  rw [crcR_append, crcR_append, crcR_append _ s, crcR_append p] at h
  have hR := crcR_lt p 4294967295 (by omega)
  generalize crcR 4294967295 p = R at h hR
  have h4 := crcR_inj s (crcR_lt _ _ hR) (crcR_lt _ _ hR) h
  have e : crcR R [a ^^^ UInt8.ofNat v, b ^^^ UInt8.ofNat (v / 256), c ^^^ UInt8.ofNat (v / 65536), d ^^^ UInt8.ofNat (v / 16777216)] = crcR R [a, b, c, d] ^^^ crcR 0 (le4 v) := by
    show crcB (crcB (crcB (crcB R _) _) _) _ = crcB (crcB (crcB (crcB R a) b) c) d ^^^ crcB (crcB (crcB (crcB 0 _) _) _) _
    rw [← crcB_xor, ← crcB_xor, ← crcB_xor, ← crcB_xor, Nat.xor_zero]
  rw [e, crcR_le4 0 v hv, Nat.zero_xor] at h4
  have h5 : bitsN 32 v = 0 := by
    have := congrArg (fun z => crcR R [a, b, c, d] ^^^ z) h4
    simp only [← Nat.xor_assoc, Nat.xor_self, Nat.zero_xor] at this
    exact this.symm
  exact h0 (bitsN_inj0 32 hv h5)
end Go.Proofs.Ytecbpmnolgkllaa
