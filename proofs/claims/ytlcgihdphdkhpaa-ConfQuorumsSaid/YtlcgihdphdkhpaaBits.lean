/-
  Plain lemmas on counting bits, and on sets of nodes as numbers. Nothing here speaks of a program.
-/
import Derived.Test.YtlcgihdphdkhpaaMem
namespace Go.Proofs.Ytlcgihdphdkhpaa

/-! counting bits -/
def popN : Nat → Nat → Nat
  | 0, _ => 0
  | k + 1, x => x % 2 + popN k (x / 2)
theorem popN_le : ∀ k x, popN k x ≤ k
  | 0, _ => Nat.le_refl _
  | k + 1, x => by
    have := popN_le k (x / 2)
    rw [popN]
    omega
theorem popN_mod : ∀ k x, popN k (x % 2 ^ k) = popN k x
  | 0, _ => rfl
  | k + 1, x => by
    rw [popN, popN, ← popN_mod k (x / 2), ← popN_mod k (x % 2 ^ (k + 1) / 2)]
    have e : 2 ^ (k + 1) = 2 * 2 ^ k := by rw [Nat.pow_succ, Nat.mul_comm]
    have h1 : x % 2 ^ (k + 1) % 2 = x % 2 := by rw [e, Nat.mod_mul_right_mod]
    have h2 : x % 2 ^ (k + 1) / 2 % 2 ^ k = x / 2 % 2 ^ k := by rw [e, Nat.mod_mul_right_div_self, Nat.mod_mod]
    rw [h1, h2]
theorem popN_add : ∀ j k x, popN (j + k) x = popN j x + popN k (x / 2 ^ j)
  | 0, k, x => by simp [popN]
  | j + 1, k, x => by
    rw [show j + 1 + k = (j + k) + 1 by omega, popN, popN_add j k (x / 2), popN, Nat.div_div_eq_div_mul, show 2 * 2 ^ j = 2 ^ (j + 1) by rw [Nat.pow_succ, Nat.mul_comm]]
    omega
theorem popN_byte (k x : Nat) : popN (8 + k) x = popN 8 (x % 256) + popN k (x / 256) := by
  rw [popN_add, show (256 : Nat) = 2 ^ 8 from rfl, popN_mod]
theorem popN_count : ∀ k x, popN k x = (List.range k).countP (fun i => x.testBit i)
  | 0, _ => rfl
  | k + 1, x => by
    rw [popN, popN_count k, List.range_succ_eq_map, List.countP_cons, List.countP_map]
    have e : ((fun i => x.testBit i) ∘ Nat.succ) = fun i => (x / 2).testBit i := by
      funext i
      simp [Nat.testBit_succ]
    rw [e, Nat.add_comm]
    congr 1
    rw [Nat.testBit_zero]
    have := Nat.mod_two_eq_zero_or_one x
    rcases this with h | h <;> simp [h]

/-- a byte, over and over -/
def rep8 (m : Nat) : Nat → Nat
  | 0 => 0
  | k + 1 => m + 256 * rep8 m k
theorem and_byte (a b : Nat) : a &&& b = (a % 256 &&& b % 256) + 256 * (a / 256 &&& b / 256) := by
  have h1 := Nat.and_mod_two_pow (a := a) (b := b) (n := 8)
  have h2 := Nat.and_div_two_pow (a := a) (b := b) (n := 8)
  simp only [show (2 : Nat) ^ 8 = 256 from rfl] at h1 h2
  have h3 := Nat.div_add_mod (a &&& b) 256
  omega
theorem and_rep (a m k : Nat) (hm : m < 256) : a &&& rep8 m (k + 1) = (a % 256 &&& m) + 256 * (a / 256 &&& rep8 m k) := by
  rw [and_byte, rep8, show (m + 256 * rep8 m k) % 256 = m by omega, show (m + 256 * rep8 m k) / 256 = rep8 m k by omega]

/-- the three first steps, by bytes -/
def onesA (k x : Nat) : Nat := (x / 2 &&& rep8 85 k) + (x &&& rep8 85 k)
def onesB (k x : Nat) : Nat := (x / 4 &&& rep8 51 k) + (x &&& rep8 51 k)
def onesC (k x : Nat) : Nat := (x / 16 + x) &&& rep8 15 k
theorem fact_a : ∀ y : Fin 512, (y.val / 2 % 256 &&& 85) = (y.val % 256 / 2 &&& 85) := by decide +kernel
theorem fact_b : ∀ y : Fin 1024, (y.val / 4 % 256 &&& 51) = (y.val % 256 / 4 &&& 51) := by decide +kernel
def byteA (b : Nat) : Nat := (b / 2 &&& 85) + (b &&& 85)
def byteB (b : Nat) : Nat := (b / 4 &&& 51) + (b &&& 51)
theorem onesA_succ (k x : Nat) : onesA (k + 1) x = byteA (x % 256) + 256 * onesA k (x / 256) := by
  unfold onesA byteA
  rw [and_rep _ _ _ (by omega), and_rep _ _ _ (by omega)]
  have h := fact_a ⟨x % 512, by omega⟩
  simp only at h
  rw [show x % 512 / 2 % 256 = x / 2 % 256 by omega, show x % 512 % 256 = x % 256 by omega] at h
  rw [h, show x / 2 / 256 = x / 256 / 2 by omega]
  omega
theorem onesB_succ (k x : Nat) : onesB (k + 1) x = byteB (x % 256) + 256 * onesB k (x / 256) := by
  unfold onesB byteB
  rw [and_rep _ _ _ (by omega), and_rep _ _ _ (by omega)]
  have h := fact_b ⟨x % 1024, by omega⟩
  simp only at h
  rw [show x % 1024 / 4 % 256 = x / 4 % 256 by omega, show x % 1024 % 256 = x % 256 by omega] at h
  rw [h, show x / 4 / 256 = x / 256 / 4 by omega]
  omega
theorem fact_c : ∀ b : Fin 256, byteA b.val < 256 ∧ byteA b.val ≤ 170 ∧ byteB (byteA b.val) ≤ 68 ∧ byteB (byteA b.val) % 16 ≤ 4 ∧ byteB (byteA b.val) / 16 + byteB (byteA b.val) % 16 = popN 8 b.val := by decide +kernel
theorem onesAB_succ (k x : Nat) : onesB (k + 1) (onesA (k + 1) x) = byteB (byteA (x % 256)) + 256 * onesB k (onesA k (x / 256)) := by
  have h := fact_c ⟨x % 256, by omega⟩
  simp only at h
  rw [onesB_succ, onesA_succ, show (byteA (x % 256) + 256 * onesA k (x / 256)) % 256 = byteA (x % 256) by omega, show (byteA (x % 256) + 256 * onesA k (x / 256)) / 256 = onesA k (x / 256) by omega]
theorem onesA_le : ∀ k x, onesA k x ≤ 170 * rep8 1 k
  | 0, x => by simp [onesA, rep8]
  | k + 1, x => by
    have h := fact_c ⟨x % 256, by omega⟩
    have ih := onesA_le k (x / 256)
    simp only at h
    rw [onesA_succ, rep8]
    omega
theorem onesAB_le : ∀ k x, onesB k (onesA k x) ≤ 68 * rep8 1 k
  | 0, x => by simp [onesB, rep8]
  | k + 1, x => by
    have h := fact_c ⟨x % 256, by omega⟩
    have ih := onesAB_le k (x / 256)
    simp only at h
    rw [onesAB_succ, rep8]
    omega
theorem onesAB_low (k x : Nat) : onesB k (onesA k x) % 16 ≤ 4 := by
  rcases k with _ | k
  · simp [onesB, rep8]
  · have h := fact_c ⟨x % 256, by omega⟩
    simp only at h
    rw [onesAB_succ]
    omega
theorem and15 (y : Nat) : y &&& 15 = y % 16 := Nat.and_two_pow_sub_one_eq_mod y 4
/-- the bits of each byte -/
def popB : Nat → Nat → Nat
  | 0, _ => 0
  | k + 1, x => popN 8 (x % 256) + 256 * popB k (x / 256)
theorem onesABC : ∀ k x, onesC k (onesB k (onesA k x)) = popB k x
  | 0, x => by simp [onesC, rep8, popB]
  | k + 1, x => by
    have h := fact_c ⟨x % 256, by omega⟩
    have hl := onesAB_low k (x / 256)
    have ih := onesABC k (x / 256)
    simp only at h
    rw [onesAB_succ]
    unfold onesC at ih ⊢
    generalize onesB k (onesA k (x / 256)) = z at hl ih
    generalize byteB (byteA (x % 256)) = e at h
    rw [and_rep _ _ _ (by omega), and15, popB, show ((e + 256 * z) / 16 + (e + 256 * z)) / 256 = z / 16 + z by omega, ih, ← h.2.2.2.2]
    omega
theorem popB_sum (x : Nat) : ∃ a b c d e f g h : Nat, a ≤ 8 ∧ b ≤ 8 ∧ c ≤ 8 ∧ d ≤ 8 ∧ e ≤ 8 ∧ f ≤ 8 ∧ g ≤ 8 ∧ h ≤ 8 ∧ popN 64 x = a + b + c + d + e + f + g + h ∧
    popB 8 x = a + 256 * (b + 256 * (c + 256 * (d + 256 * (e + 256 * (f + 256 * (g + 256 * h)))))) := by
  refine ⟨_, _, _, _, _, _, _, _, popN_le 8 (x % 256), popN_le 8 (x / 256 % 256), popN_le 8 (x / 256 / 256 % 256), popN_le 8 (x / 256 / 256 / 256 % 256), popN_le 8 (x / 256 / 256 / 256 / 256 % 256), popN_le 8 (x / 256 / 256 / 256 / 256 / 256 % 256), popN_le 8 (x / 256 / 256 / 256 / 256 / 256 / 256 % 256), popN_le 8 (x / 256 / 256 / 256 / 256 / 256 / 256 / 256 % 256), ?_, ?_⟩
  · rw [show (64 : Nat) = 8 + (8 + (8 + (8 + (8 + (8 + (8 + (8 + 0))))))) from rfl]
    simp only [popN_byte, show ∀ y, popN 0 y = 0 from fun _ => rfl]
    omega
  · simp only [popB]
    omega
/-- all steps of a 64-bit number -/
theorem rep85 : rep8 85 8 = 6148914691236517205 := by decide
theorem rep51 : rep8 51 8 = 3689348814741910323 := by decide
theorem rep15 : rep8 15 8 = 1085102592571150095 := by decide
theorem rep1 : rep8 1 8 = 72340172838076673 := by decide
theorem onesA8 (x : Nat) : (x / 2 &&& 6148914691236517205) + (x &&& 6148914691236517205) = onesA 8 x := by rw [onesA, rep85]
theorem onesB8 (x : Nat) : (x / 4 &&& 3689348814741910323) + (x &&& 3689348814741910323) = onesB 8 x := by rw [onesB, rep51]
theorem onesC8 (x : Nat) : (x / 16 + x) &&& 1085102592571150095 = onesC 8 x := by rw [onesC, rep15]
theorem onesA8_le (x : Nat) : onesA 8 x ≤ 12297829382473034410 := by
  have h := onesA_le 8 x
  rw [rep1] at h
  omega
theorem onesAB8_le (x : Nat) : onesB 8 (onesA 8 x) ≤ 4919131752989213764 := by
  have h := onesAB_le 8 x
  rw [rep1] at h
  omega
theorem ones_end (v s : Nat) (h : ∃ a b c d e f g h : Nat, a ≤ 8 ∧ b ≤ 8 ∧ c ≤ 8 ∧ d ≤ 8 ∧ e ≤ 8 ∧ f ≤ 8 ∧ g ≤ 8 ∧ h ≤ 8 ∧ s = a + b + c + d + e + f + g + h ∧
    v = a + 256 * (b + 256 * (c + 256 * (d + 256 * (e + 256 * (f + 256 * (g + 256 * h))))))) :
    v ≤ 1000000000000000000 ∧ v + v / 256 ≤ 2000000000000000000 ∧ (v + v / 256) + (v + v / 256) / 65536 ≤ 3000000000000000000 ∧ (v + v / 256) + (v + v / 256) / 65536 + ((v + v / 256) + (v + v / 256) / 65536) / 4294967296 ≤ 4000000000000000000 ∧
    ((v + v / 256) + (v + v / 256) / 65536 + ((v + v / 256) + (v + v / 256) / 65536) / 4294967296) % 128 = s := by
  obtain ⟨a, b, c, d, e, f, g, h, ha, hb, hc, hd, he, hf, hg, hh, rfl, hv⟩ := h
  have k1 : v / 256 = b + 256 * (c + 256 * (d + 256 * (e + 256 * (f + 256 * (g + 256 * h))))) := by omega
  obtain ⟨v1, hv1⟩ : ∃ v1, v + v / 256 = v1 := ⟨_, rfl⟩
  rw [hv1]
  rw [k1, hv] at hv1
  have k2 : v1 / 65536 = (c + d) + 256 * ((d + e) + 256 * ((e + f) + 256 * ((f + g) + 256 * ((g + h) + 256 * h)))) := by omega
  obtain ⟨v2, hv2⟩ : ∃ v2, v1 + v1 / 65536 = v2 := ⟨_, rfl⟩
  rw [hv2]
  rw [k2, ← hv1] at hv2
  have k3 : v2 / 4294967296 = (e + f + g + h) + 256 * ((f + g + h) + 256 * ((g + h) + 256 * h)) := by omega
  rw [k3]
  clear k1 k2 k3
  refine ⟨by omega, by omega, by omega, by omega, by omega⟩
theorem ones_all (x : Nat) : ∃ v, onesC 8 (onesB 8 (onesA 8 x)) = v ∧ v ≤ 1000000000000000000 ∧ v + v / 256 ≤ 2000000000000000000 ∧ (v + v / 256) + (v + v / 256) / 65536 ≤ 3000000000000000000 ∧
    (v + v / 256) + (v + v / 256) / 65536 + ((v + v / 256) + (v + v / 256) / 65536) / 4294967296 ≤ 4000000000000000000 ∧
    ((v + v / 256) + (v + v / 256) / 65536 + ((v + v / 256) + (v + v / 256) / 65536) / 4294967296) % 128 = popN 64 x :=
  ⟨_, onesABC 8 x, ones_end _ _ (popB_sum x)⟩

/-! sets of nodes -/
def bitN (n : UInt8) : Nat := 2 ^ n.toNat % 18446744073709551616
def setN (l : List UInt8) : Nat := l.foldl (fun s n => s ||| bitN n) 0
theorem setN_take (l : List UInt8) (k : Nat) (hk : k < l.length) : setN (l.take (k + 1)) = setN (l.take k) ||| bitN l[k] := by
  rw [setN, List.take_succ_eq_append_getElem hk, List.foldl_append]
  rfl
theorem bitN_lt (n : UInt8) : bitN n < 2 ^ 64 := Nat.mod_lt _ (by decide)
theorem bitN_bit (n : UInt8) (i : Nat) : (bitN n).testBit i = (decide (i < 64) && decide (n.toNat = i)) := by
  rw [bitN, show (18446744073709551616 : Nat) = 2 ^ 64 from rfl, Nat.testBit_mod_two_pow, Nat.testBit_two_pow]
theorem setN_from (l : List UInt8) : ∀ s : Nat, s < 2 ^ 64 → l.foldl (fun s n => s ||| bitN n) s < 2 ^ 64 ∧ ∀ i, i < 64 → (l.foldl (fun s n => s ||| bitN n) s).testBit i = (s.testBit i || l.any fun n => n.toNat == i) := by
  induction l with
  | nil => intro s h; exact ⟨h, fun i _ => by simp⟩
  | cons n l ih =>
    intro s h
    obtain ⟨h1, h2⟩ := ih (s ||| bitN n) (Nat.or_lt_two_pow h (bitN_lt n))
    refine ⟨h1, fun i hi => ?_⟩
    rw [List.foldl_cons, h2 i hi, Nat.testBit_or, bitN_bit, List.any_cons, decide_eq_true hi, Bool.true_and, Bool.or_assoc]
    rfl
theorem setN_lt (l : List UInt8) : setN l < 18446744073709551616 := (setN_from l 0 (by decide)).1
theorem setN_bit (l : List UInt8) {i : Nat} (hi : i < 64) : (setN l).testBit i = l.any fun n => n.toNat == i := by
  rw [setN, (setN_from l 0 (by decide)).2 i hi]
  simp
theorem any_node (l : List UInt8) (n : UInt8) : (l.any fun m => m.toNat == n.toNat) = l.contains n := by
  rw [Bool.eq_iff_iff, List.any_eq_true, List.contains_iff_mem]
  constructor
  · rintro ⟨m, hm, h⟩
    have : m.toNat = n.toNat := by simpa using h
    rw [← UInt8.toNat_inj.1 this]
    exact hm
  · intro h
    exact ⟨n, h, by simp⟩

/-- how many of some a set has -/
def cntN (l : List UInt8) (s : Nat) : Nat := l.countP fun n => s.testBit n.toNat
theorem count_nodes (l : List UInt8) (hn : l.Nodup) (hl : ∀ n ∈ l, n.toNat < 64) (q : Nat → Bool) : (List.range 64).countP (fun i => (l.any fun n => n.toNat == i) && q i) = l.countP fun n => q n.toNat := by
  rw [List.countP_eq_length_filter, List.countP_eq_length_filter]
  refine Eq.trans ?_ (List.length_map UInt8.toNat)
  apply List.Perm.length_eq
  refine (List.perm_ext_iff_of_nodup (List.nodup_range.sublist List.filter_sublist) ?_).2 fun i => ?_
  · refine List.Pairwise.map _ (fun a b h e => h (UInt8.toNat_inj.1 e)) (hn.sublist List.filter_sublist)
  · rw [List.mem_filter, List.mem_range, Bool.and_eq_true, List.any_eq_true, List.mem_map]
    constructor
    · rintro ⟨_, ⟨n, hm, he⟩, hq⟩
      have he : n.toNat = i := by simpa using he
      exact ⟨n, List.mem_filter.2 ⟨hm, by rw [he]; exact hq⟩, he⟩
    · rintro ⟨n, hm, rfl⟩
      obtain ⟨hm, hq⟩ := List.mem_filter.1 hm
      exact ⟨hl n hm, ⟨n, hm, by simp⟩, hq⟩
theorem pop_and (l : List UInt8) (hn : l.Nodup) (hl : ∀ n ∈ l, n.toNat < 64) (s : Nat) : popN 64 (setN l &&& s) = cntN l s := by
  rw [popN_count, cntN, ← count_nodes l hn hl]
  apply List.countP_congr
  intro i hi
  rw [List.mem_range] at hi
  rw [Nat.testBit_and, setN_bit l hi]
theorem pop_set (l : List UInt8) (hn : l.Nodup) (hl : ∀ n ∈ l, n.toNat < 64) : popN 64 (setN l) = l.length := by
  have h := count_nodes l hn hl (fun _ => true)
  rw [List.countP_eq_length.2 (fun _ _ => rfl)] at h
  rw [← h, popN_count]
  apply List.countP_congr
  intro i hi
  rw [List.mem_range] at hi
  rw [setN_bit l hi, Bool.and_true]
/-- how many of some aren't among others -/
def othN (l m : List UInt8) : Nat := l.countP fun n => !m.contains n
theorem countP_xor {α : Type} (p q : α → Bool) : ∀ l : List α, l.countP (fun x => p x ^^ q x) = l.countP (fun x => p x && !q x) + l.countP (fun x => q x && !p x)
  | [] => rfl
  | x :: l => by
    simp only [List.countP_cons, countP_xor p q l]
    cases p x <;> cases q x <;> simp <;> omega
theorem pop_xor (l m : List UInt8) (hn : l.Nodup) (hl : ∀ n ∈ l, n.toNat < 64) (hm : m.Nodup) (hml : ∀ n ∈ m, n.toNat < 64) : popN 64 (setN l ^^^ setN m) = othN l m + othN m l := by
  have h1 := count_nodes l hn hl (fun i => !(m.any fun n => n.toNat == i))
  have h2 := count_nodes m hm hml (fun i => !(l.any fun n => n.toNat == i))
  simp only [any_node] at h1 h2
  rw [othN, othN, ← h1, ← h2, popN_count, ← countP_xor]
  apply List.countP_congr
  intro i hi
  rw [List.mem_range] at hi
  rw [Nat.testBit_xor, setN_bit l hi, setN_bit m hi]
end Go.Proofs.Ytlcgihdphdkhpaa
