/-
  Contracts of pack's reader's methods: numbers, whole numbers, rows, the end.
-/
import Derived.Test.YtkjgplcfoihohaaRead
namespace Go.Proofs.Ytkjgplcfoihohaa
open Go.RowKit

theorem takeN_left {n : Nat} {t : List UInt8} : ∀ (l : List UInt8) (i acc : Nat), takeN i acc l = .inl (n, t) → t.length < l.length
  | [], _, _, h => by simp [takeN] at h
  | c :: l, i, acc, h => by
    rw [takeN] at h
    split at h
    · cases h
    · split at h
      · injection h with h
        injection h with _ h
        subst h
        simp
      · have := takeN_left l _ _ h
        simp
        omega
theorem takeN_er {er : Int} : ∀ (l : List UInt8) (i acc : Nat), takeN i acc l = .inr er → er = 2 ∨ er = 3
  | [], _, _, h => by
    simp [takeN] at h
    omega
  | c :: l, i, acc, h => by
    rw [takeN] at h
    split at h
    · injection h with h
      omega
    · split at h
      · cases h
      · exact takeN_er l _ _ h
theorem takeN_lt {n : Nat} {t : List UInt8} : ∀ (l : List UInt8) (i acc : Nat), acc < 128 ^ i → i ≤ 9 → takeN i acc l = .inl (n, t) → n < 18446744073709551616
  | [], _, _, _, _, h => by simp [takeN] at h
  | c :: l, i, acc, ha, hi, h => by
    rw [takeN] at h
    split at h
    · cases h
    · rename_i hbad
      have h1 := num_lt (c.toNat % 128) i (by omega) hi (by omega)
      have h2 := pow_lt9 acc i ha hi
      split at h
      · injection h with h
        injection h with h _
        have h3 := step_lt acc (c.toNat % 128) i ha (by omega)
        by_cases h9 : i = 9
        · subst h9
          have : c.toNat = 1 := by omega
          rw [this] at h
          omega
        · have h4 : 128 ^ (i + 1) ≤ 128 ^ 9 := Nat.pow_le_pow_right (by omega) (by omega)
          omega
      · exact takeN_lt l _ _ (step_lt acc _ i ha (by omega)) (by omega) h

theorem number_err {g : Nat} {l : List UInt8} {er : Int} {w : World} (h : Rdr w g l er) (her : er ≠ 0) : Calls Try.prog 140 #[.pointer (some ⟨g, 0, none⟩)] w fun e w' => e = .returned (.int .u64 0) ∧ w = w' := by
  go_enter Try.func140, Try.ntmps140
  go_wp2_with (refine (takes_err h her).mono ?_; rintro e w1 ⟨rfl, rfl⟩)
  go_ret
  exact ⟨rfl, rfl⟩

/-- a number up to most -/
def takeUp (most : Nat) (l : List UInt8) : (Nat × List UInt8) ⊕ Int :=
  match takeN 0 0 l with
  | .inl (n, t) => if most < n then .inr 6 else .inl (n, t)
  | .inr er => .inr er

set_option maxRecDepth 100000 in
theorem Num_live {g : Nat} {l : List UInt8} {w : World} (x : Nat) (h : Rdr w g l 0) (hl : l.length ≤ 281474976710656) : Calls Try.prog 112 #[.pointer (some ⟨g, 0, none⟩), .int .u64 x] w (Takes w g (takeUp x l)) := by
  rcases ht : takeN 0 0 l with ⟨n, t⟩ | er
  · by_cases hm : x < n
    · have hr : takeUp x l = .inr 6 := by simp [takeUp, ht, hm]
      rw [hr]
      have HT := hide_ ht
      clear hr ht
      go_enter Try.func112, Try.ntmps112
      go_wp2_with fail
      refine (number_live h hl).mono ?_
      rw [HT.out]
      rintro e w1 ⟨rfl, hr1, hg1⟩
      go_wp2_with fail
      refine (Fail_live 6 hr1 (by omega)).mono ?_
      rintro e w2 ⟨rfl, hr2, hg2⟩
      go_wp2
      go_ret
      exact Takes.no rfl hr2 (grown_join hg1 hg2)
    · have hr : takeUp x l = .inl (n, t) := by simp [takeUp, ht, hm]
      rw [hr]
      have HT := hide_ ht
      clear hr ht
      go_enter Try.func112, Try.ntmps112
      go_wp2_with fail
      refine (number_live h hl).mono ?_
      rw [HT.out]
      rintro e w1 ⟨rfl, hr1, hg1⟩
      go_wp2
      go_ret
      exact Takes.ok rfl hr1 hg1
  · have hr : takeUp x l = .inr er := by simp [takeUp, ht]
    rw [hr]
    have HT := hide_ ht
    clear hr ht
    go_enter Try.func112, Try.ntmps112
    go_wp2_with fail
    refine (number_live h hl).mono ?_
    rw [HT.out]
    rintro e w1 ⟨rfl, hr1, hg1⟩
    go_wp2
    go_ret
    exact Takes.no rfl hr1 hg1

theorem Num_err {g : Nat} {l : List UInt8} {er : Int} {w : World} (x : Nat) (h : Rdr w g l er) (her : er ≠ 0) : Calls Try.prog 112 #[.pointer (some ⟨g, 0, none⟩), .int .u64 x] w fun e w' => e = .returned (.int .u64 0) ∧ w = w' := by
  go_enter Try.func112, Try.ntmps112
  go_wp2_with (refine (number_err h her).mono ?_; rintro e w1 ⟨rfl, rfl⟩)
  go_ret
  exact ⟨rfl, rfl⟩

/-- the whole number that a number stands for -/
def unfoldN (n : Nat) : Int := if n % 2 = 1 then -1 - (n / 2 : Nat) else (n / 2 : Nat)
theorem unfold_fold (n : Int) : unfoldN (foldN n) = n := by
  unfold unfoldN foldN
  split <;> split <;> omega

set_option maxRecDepth 100000 in
theorem unfold_any (n : Nat) (hn : n < 18446744073709551616) (w : World) : Calls Try.prog 139 #[.int .u64 n] w fun e w' => e = .returned (.int .i64 (unfoldN n)) ∧ w = w' := by
  have e : ∀ a b : Int, a = b → Ending.returned (.int .i64 a) = .returned (.int .i64 b) := fun a b h => by rw [h]
  by_cases h : n % 2 = 1
  · have hb : ((n : Int) % 2 == 1) = true := beq_iff_eq.2 (by omega)
    go_enter Try.func139, Try.ntmps139
    go_wp2
    go_ret
    exact ⟨e _ _ (by unfold unfoldN; rw [if_pos h]; omega), rfl⟩
  · have hb : ((n : Int) % 2 == 1) = false := beq_eq_false_iff_ne.2 (by omega)
    go_enter Try.func139, Try.ntmps139
    go_wp2
    go_ret
    exact ⟨e _ _ (by unfold unfoldN; rw [if_neg (by omega)]; omega), rfl⟩

/-- what a call leaves that takes a whole number -/
def TakesI (w : World) (g : Nat) (r : (Nat × List UInt8) ⊕ Int) (e : Ending) (w' : World) : Prop :=
  match r with
  | .inl (n, t) => Leaves w g (.int .i64 (unfoldN n)) t 0 e w'
  | .inr er => Leaves w g (.int .i64 0) [] er e w'

set_option maxRecDepth 100000 in
theorem Int_live {g : Nat} {l : List UInt8} {w : World} (h : Rdr w g l 0) (hl : l.length ≤ 281474976710656) : Calls Try.prog 98 #[.pointer (some ⟨g, 0, none⟩)] w (TakesI w g (takeN 0 0 l)) := by
  rcases ht : takeN 0 0 l with ⟨n, t⟩ | er
  · have hn := takeN_lt l 0 0 (by simp) (by omega) ht
    have HT := hide_ ht
    have HN := hide_ hn
    clear ht hn
    go_enter Try.func98, Try.ntmps98
    go_wp2_with fail
    refine (number_live h hl).mono ?_
    rw [HT.out]
    rintro e w1 ⟨rfl, hr1, hg1⟩
    go_wp2_with (refine (unfold_any n HN.out _).mono ?_; rintro e w2 ⟨rfl, rfl⟩)
    go_ret
    exact ⟨rfl, hr1, hg1⟩
  · have HT := hide_ ht
    clear ht
    go_enter Try.func98, Try.ntmps98
    go_wp2_with fail
    refine (number_live h hl).mono ?_
    rw [HT.out]
    rintro e w1 ⟨rfl, hr1, hg1⟩
    go_wp2_with (refine (unfold_any 0 (by omega) _).mono ?_; rintro e w2 ⟨rfl, rfl⟩)
    go_ret
    exact ⟨rfl, hr1, hg1⟩

theorem End_live {g : Nat} {l : List UInt8} {er : Int} {w : World} (h : Rdr w g l er) (v : Int) (hv : v = if er = 0 then (if l = [] then 0 else 4) else er) : Calls Try.prog 27 #[.pointer (some ⟨g, 0, none⟩)] w fun e w' => e = .returned (.int .i64 v) ∧ w = w' := by
  have h' := hide_ h
  obtain ⟨A, c, hg, _, _⟩ := h
  have c2 : w.cell? ⟨g, 2, none⟩ = some (.int .i64 er) := by rw [cell_of_row w g 2 _ _ _ hg]; rfl
  have c1 : w.cell? ⟨g, 1, none⟩ = some (.slice A l.length c) := by rw [cell_of_row w g 1 _ _ _ hg]; rfl
  clear hg
  by_cases her : er = 0
  · subst her
    rw [if_pos rfl] at hv
    by_cases hl : l = []
    · subst hl
      rw [if_pos rfl] at hv
      subst hv
      go_enter Try.func27, Try.ntmps27
      go_wp2_with (refine (isNone_live h'.out).mono ?_; rintro e w1 ⟨rfl, rfl⟩)
      go_ret
      exact ⟨rfl, rfl⟩
    · rw [if_neg hl] at hv
      subst hv
      have hpos : 0 < l.length := List.length_pos_iff.2 hl
      go_enter Try.func27, Try.ntmps27
      go_wp2_with (refine (isNone_live h'.out).mono ?_; rintro e w1 ⟨rfl, rfl⟩)
      go_ret
      exact ⟨rfl, rfl⟩
  · rw [if_neg her] at hv
    subst hv
    have hb : (v == 0) = false := beq_eq_false_iff_ne.2 her
    clear her
    go_enter Try.func27, Try.ntmps27
    go_wp2_with (refine (isNone_live h'.out).mono ?_; rintro e w1 ⟨rfl, rfl⟩)
    go_ret
    exact ⟨rfl, rfl⟩
end Go.Proofs.Ytkjgplcfoihohaa
