/-
  Texts of this claim put together: Read, Read2, Row, Nums, St.
-/
import Derived.Test.YtnkjdijbfnmnhaaGreatJ10
import Derived.WalkSpells
import Derived.Outline
/-
  Contracts of pack's reader: one that New has made.
-/
namespace Go.Proofs.YtnkjdijbfnmnhaaGreat
open Go.RowKit

/-- a reader at block g: what is left to it, and its error -/
def Rdr (w : World) (g : Nat) (l : List UInt8) (er : Int) : Prop :=
  ∃ A c, w.heap[g]? = some (.cells #[.bool true, .slice A l.length c, .int .i64 er] 210 (0, 0)) ∧ Sees w g A (bv l) ∧ l.length ≤ c

theorem New_any (l : List UInt8) (B : Nat) (A : Option Addr) (n c : Nat) (w : World) (hn : l.length = n) (hs : Sees w B A (bv l)) (hB : B ≤ w.heap.size) (hl : n ≤ 281474976710656) :
    Calls Tryz.prog 65 #[.slice A n c] w fun e w' => ∃ g, e = .returned (.pointer (some ⟨g, 0, none⟩)) ∧ w.heap.size ≤ g ∧ Rdr w' g l 0 ∧ Below w.heap.size w w' := by
  subst hn
  go_enter Tryz.func65, Tryz.ntmps65
  go_wp2_with fail
  refine (copyOf_any l B A c 0 w hs hB (by omega)).mono ?_
  rintro e w1 ⟨rfl, hown1, hb1, hz1⟩
  have HZ := hide_ hz1
  clear hz1
  go_wp2
  go_ret
  refine ⟨w1.heap.size, rfl, hb1.size, ⟨_, _, heap_alloc_new w1 _, ?_, Nat.le_refl _⟩, hb1.alloc hb1.size _⟩
  exact (Sees.own hown1).below ((Below.refl _ _).alloc (Nat.le_refl _) _)

theorem isNone_live {g : Nat} {l : List UInt8} {er : Int} {w : World} (h : Rdr w g l er) : Calls Tryz.prog 138 #[.pointer (some ⟨g, 0, none⟩)] w fun e w' => e = .returned (.bool false) ∧ w = w' := by
  obtain ⟨A, c, hg, _, _⟩ := h
  have c0 : w.cell? ⟨g, 0, none⟩ = some (.bool true) := by rw [cell_of_row w g 0 _ _ _ hg]; rfl
  clear hg
  go_enter Tryz.func138, Tryz.ntmps138
  go_wp2
  go_ret
  exact ⟨rfl, rfl⟩

theorem takes_live {g : Nat} {l : List UInt8} {w : World} (h : Rdr w g l 0) : Calls Tryz.prog 210 #[.pointer (some ⟨g, 0, none⟩)] w fun e w' => e = .returned (.bool true) ∧ w = w' := by
  have h' := hide_ h
  obtain ⟨A, c, hg, _, _⟩ := h
  have c0 : w.cell? ⟨g, 2, none⟩ = some (.int .i64 0) := by rw [cell_of_row w g 2 _ _ _ hg]; rfl
  clear hg
  go_enter Tryz.func210, Tryz.ntmps210
  go_wp2_with (refine (isNone_live h'.out).mono ?_; rintro e w1 ⟨rfl, rfl⟩)
  go_ret
  exact ⟨rfl, rfl⟩

theorem takes_err {g : Nat} {l : List UInt8} {er : Int} {w : World} (h : Rdr w g l er) (her : er ≠ 0) : Calls Tryz.prog 210 #[.pointer (some ⟨g, 0, none⟩)] w fun e w' => e = .returned (.bool false) ∧ w = w' := by
  have h' := hide_ h
  obtain ⟨A, c, hg, _, _⟩ := h
  have c0 : w.cell? ⟨g, 2, none⟩ = some (.int .i64 er) := by rw [cell_of_row w g 2 _ _ _ hg]; rfl
  clear hg
  have hb : (er == 0) = false := beq_eq_false_iff_ne.2 her
  go_enter Tryz.func210, Tryz.ntmps210
  go_wp2_with (refine (isNone_live h'.out).mono ?_; rintro e w1 ⟨rfl, rfl⟩)
  go_ret
  exact ⟨rfl, rfl⟩

/-- what a reader's call leaves -/
def Leaves (w : World) (g : Nat) (v : Value) (l : List UInt8) (er : Int) (e : Ending) (w' : World) : Prop := e = .returned v ∧ Rdr w' g l er ∧ w.grownBy w' (some g)

theorem Fail_live {g : Nat} {l : List UInt8} {w : World} (er : Int) (h : Rdr w g l 0) (her : er ≠ 0) : Calls Tryz.prog 137 #[.pointer (some ⟨g, 0, none⟩), .int .i64 er] w (Leaves w g (.tuple #[]) [] er) := by
  have h' := hide_ h
  obtain ⟨A, c, hg, _, _⟩ := h
  have c0 : w.cell? ⟨g, 2, none⟩ = some (.int .i64 0) := by rw [cell_of_row w g 2 _ _ _ hg]; rfl
  have c1 : w.cell? ⟨g, 1, none⟩ = some (.slice A l.length c) := by rw [cell_of_row w g 1 _ _ _ hg]; rfl
  have f0 : ∀ i, w.frozen? ⟨g, i, none⟩ = false := fun i => by simp [World.frozen?, hg]
  have f1 := f0 1
  have f2 := f0 2
  have HG := hide_ hg
  clear hg f0
  have hb : (er == 0) = false := beq_eq_false_iff_ne.2 her
  go_enter Tryz.func137, Tryz.ntmps137
  go_wp2_with (refine (takes_live h'.out).mono ?_; rintro e w1 ⟨rfl, rfl⟩)
  refine bodyPost_ret (results_none rfl _ _ _) rfl ?_
  refine ⟨rfl, ⟨none, 0, ?_, Sees.empty _ _ _, Nat.le_refl _⟩, grown_set (grown_set (World.grownBy.refl w _) _ _) _ _⟩
  exact heap_set 1 _ (heap_set 2 _ HG.out)

theorem fits_any (i : Nat) (c : UInt8) (b : Bool) (w : World) (hi : i ≤ 9) (h : b = if i = 9 then c.toNat == 1 else (i == 0 || decide (0 < c.toNat))) : Calls Tryz.prog 274 #[.int .i64 i, .int .u8 (c.toNat : Int)] w fun e w' => e = .returned (.bool b) ∧ w = w' := by
  obtain ⟨n, hn⟩ : ∃ n, n = c.toNat := ⟨_, rfl⟩
  rw [← hn] at h ⊢
  clear hn
  by_cases h9 : i = 9
  · rw [if_pos h9] at h
    by_cases h1 : n = 1
    · subst h1 h9
      obtain rfl : b = true := by simpa using h
      clear h
      go_enter Tryz.func274, Tryz.ntmps274
      go_wp2
      go_ret
      exact ⟨rfl, rfl⟩
    · obtain rfl : b = false := by rw [h]; simpa using h1
      subst h9
      clear h
      have hb : ((n : Int) == 1) = false := beq_eq_false_iff_ne.2 (by omega)
      go_enter Tryz.func274, Tryz.ntmps274
      go_wp2
      go_ret
      exact ⟨rfl, rfl⟩
  · rw [if_neg h9] at h
    have hb9 : ((i : Int) == 9) = false := beq_eq_false_iff_ne.2 (by omega)
    by_cases h0 : i = 0
    · subst h0
      obtain rfl : b = true := by simpa using h
      clear h
      go_enter Tryz.func274, Tryz.ntmps274
      go_wp2
      go_ret
      exact ⟨rfl, rfl⟩
    · have hb0 : ((i : Int) == 0) = false := beq_eq_false_iff_ne.2 (by omega)
      by_cases hn : 0 < n
      · obtain rfl : b = true := by rw [h]; simp [hn]
        have hd : decide ((0 : Int) < n) = true := by simp; omega
        clear h
        go_enter Tryz.func274, Tryz.ntmps274
        go_wp2
        go_ret
        exact ⟨rfl, rfl⟩
      · obtain rfl : n = 0 := by omega
        obtain rfl : b = false := by rw [h]; simpa using h0
        clear h
        go_enter Tryz.func274, Tryz.ntmps274
        go_wp2
        go_ret
        exact ⟨rfl, rfl⟩

/-- a number's bytes taken: from the byte numbered i on, with what stood ahead: the number and what is left, or the error -/
def takeN : Nat → Nat → List UInt8 → (Nat × List UInt8) ⊕ Int
  | _, _, [] => .inr 2
  | i, acc, c :: t =>
    if (i = 9 ∧ c.toNat ≠ 1) ∨ (i ≠ 9 ∧ i ≠ 0 ∧ c.toNat = 0) then .inr 3
    else if c.toNat < 128 then .inl (acc + c.toNat % 128 * 128 ^ i, t)
    else takeN (i + 1) (acc + c.toNat % 128 * 128 ^ i) t

/-- what a call leaves that takes a number -/
def Takes (w : World) (g : Nat) (r : (Nat × List UInt8) ⊕ Int) (e : Ending) (w' : World) : Prop :=
  match r with
  | .inl (n, t) => Leaves w g (.int .u64 n) t 0 e w'
  | .inr er => Leaves w g (.int .u64 0) [] er e w'

theorem Rdr_cut {w : World} {g : Nat} {l : List UInt8} {er : Int} {c c' k n : Nat} {A A' : Option Addr} (hg : w.heap[g]? = some (.cells #[.bool true, .slice A l.length c, .int .i64 er] 210 (0, 0)))
    (hs : Sees w g A (bv l)) (hlc : l.length ≤ c) (hA : A' = if c = k then A else A.map (·.add k)) (hk : k ≤ l.length) (hn : l.length - k = n) (hc : c - k = c') :
    Rdr (w.setCell ⟨g, 1, none⟩ (.slice A' n c')) g (l.drop k) er := by
  have hlt : g < w.heap.size := (Array.getElem?_eq_some_iff.1 hg).1
  subst hn hc
  refine ⟨A', c - k, ?_, ?_, by simp; omega⟩
  · rw [List.length_drop]
    exact heap_set 1 _ hg
  · have h := hs.drop k c (by rw [bv_length]; exact hlc)
    rw [← bv_drop] at h
    rw [hA]
    exact Sees.grown h (grown_set (World.grownBy.refl w _) _ _) (by omega)

theorem Takes.ok {w w' : World} {g n : Nat} {t : List UInt8} {e : Ending} (h1 : e = .returned (.int .u64 n)) (h2 : Rdr w' g t 0) (h3 : w.grownBy w' (some g)) : Takes w g (.inl (n, t)) e w' := ⟨h1, h2, h3⟩
theorem Takes.no {w w' : World} {g : Nat} {er : Int} {e : Ending} (h1 : e = .returned (.int .u64 0)) (h2 : Rdr w' g [] er) (h3 : w.grownBy w' (some g)) : Takes w g (.inr er) e w' := ⟨h1, h2, h3⟩
theorem pow_128 (k : Nat) : 128 ^ k = 2 ^ (7 * k) := by rw [Nat.pow_mul]
theorem num_lt (m k : Nat) (hm : m < 128) (hk : k ≤ 9) (h9 : k = 9 → m ≤ 1) : m * 128 ^ k < 18446744073709551616 := by
  have hc : k = 0 ∨ k = 1 ∨ k = 2 ∨ k = 3 ∨ k = 4 ∨ k = 5 ∨ k = 6 ∨ k = 7 ∨ k = 8 ∨ k = 9 := by omega
  rcases hc with rfl | rfl | rfl | rfl | rfl | rfl | rfl | rfl | rfl | rfl
  all_goals first | omega | (have := h9 rfl; omega)
theorem pow_lt9 (acc k : Nat) (ha : acc < 128 ^ k) (hk : k ≤ 9) : acc < 9223372036854775808 := by
  have h : 128 ^ k ≤ 128 ^ 9 := Nat.pow_le_pow_right (by omega) hk
  omega
theorem step_lt (acc m k : Nat) (ha : acc < 128 ^ k) (hm : m < 128) : acc + m * 128 ^ k < 128 ^ (k + 1) := by
  have h : m * 128 ^ k ≤ 127 * 128 ^ k := Nat.mul_le_mul_right _ (by omega)
  rw [Nat.pow_succ]
  omega
theorem or_num (acc m k : Nat) (ha : acc < 128 ^ k) (hm : m < 128) (hk : k ≤ 9) (h9 : k = 9 → m ≤ 1) :
    bits .or .u64 (acc : Int) (IntKind.u64.wrap ((m : Int) * 2 ^ (7 * k))) = ((acc + m * 128 ^ k : Nat) : Int) := by
  have h1 := num_lt m k hm hk h9
  have h2 := pow_lt9 acc k ha hk
  have e1 : (m : Int) * 2 ^ (7 * k) = ((m * 128 ^ k : Nat) : Int) := by rw [pow_128]; simp
  have e2 : IntKind.u64.wrap ((m * 128 ^ k : Nat) : Int) = ((m * 128 ^ k : Nat) : Int) := by rw [IntKind.wrap_u64]; omega
  rw [e1, e2, u64_or_nat acc _ (by omega) h1]
  rw [pow_128] at ha ⊢
  have h := Nat.shiftLeft_add_eq_or_of_lt ha m
  rw [Nat.shiftLeft_eq] at h
  rw [Nat.or_comm, ← h]
  congr 1
  omega

set_option maxRecDepth 100000 in
set_option maxHeartbeats 400000 in
theorem number_live {g : Nat} {l : List UInt8} {w : World} (h : Rdr w g l 0) (hl : l.length ≤ 281474976710656) : Calls Tryz.prog 207 #[.pointer (some ⟨g, 0, none⟩)] w (Takes w g (takeN 0 0 l)) := by
  have h' := hide_ h
  obtain ⟨A, c, hg, hs, hlc⟩ := h
  have c1 : w.cell? ⟨g, 1, none⟩ = some (.slice A l.length c) := by rw [cell_of_row w g 1 _ _ _ hg]; rfl
  have f1 : w.frozen? ⟨g, 1, none⟩ = false := by simp [World.frozen?, hg]
  have HG := hide_ hg
  clear hg
  go_enter Tryz.func207, Tryz.ntmps207
  go_wp2_with (refine (takes_live h'.out).mono ?_; rintro e w1 ⟨rfl, rfl⟩)
  go_loop [3, 4] (fun n i => ∃ k acc : Nat, k ≤ l.length ∧ k ≤ 9 ∧ i = .int .i64 k ∧ n = .int .u64 acc ∧ Hid (acc < 128 ^ k) ∧ Hid (takeN k acc (l.drop k) = takeN 0 0 l)) (fun _ i => l.length - (intOf i).toNat)
  case atStart => exact ⟨0, 0, Nat.zero_le _, Nat.zero_le _, rfl, rfl, by show _ < _; simp, by show _ = _; simp⟩
  case round =>
    obtain ⟨k, acc, hk, hk9, rfl, rfl, HA, HT⟩ := hrel
    by_cases hlt : k < l.length
    · have hj : (bv l)[k]? = some (.int .u8 (l[k].toNat : Int)) := by rw [bv_getElem?, List.getElem?_eq_getElem hlt]; rfl
      obtain ⟨ad, rfl, hab, hcell⟩ := hs (by rw [bv_length]; omega)
      have hck := hcell k _ hj
      obtain ⟨cc, hcc⟩ : ∃ cc, cc = l[k] := ⟨_, rfl⟩
      rw [← hcc] at hck
      have HC := hide_ hcc
      clear hcell hj hcc
      have hdrop : l.drop k = cc :: l.drop (k + 1) := by rw [HC.out]; exact List.drop_eq_getElem_cons hlt
      by_cases hbad : (k = 9 ∧ cc.toNat ≠ 1) ∨ (k ≠ 9 ∧ k ≠ 0 ∧ cc.toNat = 0)
      · have hres : takeN 0 0 l = .inr 3 := by rw [← HT.out, hdrop, takeN, if_pos hbad]
        have hf : false = if k = 9 then cc.toNat == 1 else (k == 0 || decide (0 < cc.toNat)) := by
          rcases hbad with ⟨h1, h2⟩ | ⟨h1, h2, h3⟩
          · rw [if_pos h1]; symm; simpa using h2
          · rw [if_neg h1]; symm; simp [h2, h3]
        have HR := hide_ hres
        have HF := hide_ hf
        have HD := hide_ hdrop
        clear hres hf hdrop hbad
        go_wp2_with (first | (go_at_call 274; refine (fits_any k cc false w hk9 HF.out).mono ?_; rintro e w1 ⟨rfl, rfl⟩) | (go_at_call 137; refine (Fail_live 3 h'.out (by omega)).mono ?_; rintro e w1 ⟨rfl, hr1, hg1⟩))
        go_ret
        rw [HR.out]
        exact ⟨rfl, hr1, hg1⟩
      · have hf : true = if k = 9 then cc.toNat == 1 else (k == 0 || decide (0 < cc.toNat)) := by
          by_cases h9 : k = 9
          · rw [if_pos h9]; symm; simp; omega
          · rw [if_neg h9]; symm; simp; omega
        have HF := hide_ hf
        clear hf
        have hor : bits .or .u64 (acc : Int) (IntKind.u64.wrap ((cc.toNat : Int) % 128 * 2 ^ (7 * k))) = ((acc + cc.toNat % 128 * 128 ^ k : Nat) : Int) :=
          or_num acc (cc.toNat % 128) k HA.out (by omega) hk9 (by omega)
        have HO := hide_ hor
        clear hor
        have q1 : k + 1 ≤ l.length := by omega
        by_cases hsm : cc.toNat < 128
        · have hres : takeN 0 0 l = .inl (acc + cc.toNat % 128 * 128 ^ k, l.drop (k + 1)) := by rw [← HT.out, hdrop, takeN, if_neg hbad, if_pos hsm]
          have HR := hide_ hres
          have HD := hide_ hdrop
          have HB := hide_ hbad
          clear hres hdrop hbad
          go_wp2_with (refine (fits_any k cc true w hk9 HF.out).mono ?_; rintro e w1 ⟨rfl, rfl⟩)
          all_goals go_ret
          all_goals rw [HR.out]
          · exact Takes.ok (congrArg (fun z => Ending.returned (Value.int .u64 z)) HO.out) (Rdr_cut (k := k + 1) HG.out hs hlc (by rw [if_pos ‹c = k + 1›]) q1 rfl (by omega)) (grown_set (World.grownBy.refl w _) _ _)
          · exact Takes.ok (congrArg (fun z => Ending.returned (Value.int .u64 z)) HO.out) (Rdr_cut (k := k + 1) HG.out hs hlc (by rw [if_neg ‹¬c = k + 1›]; simp [Addr.add]) q1 rfl rfl) (grown_set (World.grownBy.refl w _) _ _)
        · have hstep : takeN (k + 1) (acc + cc.toNat % 128 * 128 ^ k) (l.drop (k + 1)) = takeN 0 0 l := by rw [← HT.out, hdrop, takeN, if_neg hbad, if_neg hsm]
          have h9 : k ≠ 9 := by omega
          have q2 : k + 1 ≤ 9 := by omega
          have Q3 := hide_ (step_lt acc (cc.toNat % 128) k HA.out (by omega))
          have HS := hide_ hstep
          have HD := hide_ hdrop
          have HB := hide_ hbad
          clear hstep hdrop hbad
          go_wp2_with (refine (fits_any k cc true w hk9 HF.out).mono ?_; rintro e w1 ⟨rfl, rfl⟩)
          go_round
          case rel =>
            clear hs hck c1
            refine ⟨k + 1, acc + cc.toNat % 128 * 128 ^ k, q1, q2, ?_, ?_, Q3.out, HS.out⟩
            · simp
            · exact congrArg (Value.int .u64) HO.out
          case measure => simp [intOf]; omega
    · obtain rfl : k = l.length := by omega
      have hres : takeN 0 0 l = .inr 2 := by rw [← HT.out, List.drop_length, takeN]
      have HR := hide_ hres
      clear hres
      go_wp2_with (first | (go_at_call 137; refine (Fail_live 2 h'.out (by omega)).mono ?_; rintro e w1 ⟨rfl, hr1, hg1⟩))
      go_ret
      rw [HR.out]
      exact ⟨rfl, hr1, hg1⟩
end Go.Proofs.YtnkjdijbfnmnhaaGreat

/-
  Contracts of pack's reader's methods: numbers, whole numbers, rows, the end.
-/
namespace Go.Proofs.YtnkjdijbfnmnhaaGreat
open Go.RowKit

theorem takeN_left {n : Nat} {t : List UInt8} : ∀ (l : List UInt8) (i acc : Nat), takeN i acc l = .inl (n, t) → t.length < l.length
  | [], _, _, h => by simp [takeN] at h
  | c :: l, i, acc, h => by
    rw [takeN] at h
    split at h
    · cases h
    · split at h
      · injection h with h
        injection h with _ h
        subst h
        simp
      · have := takeN_left l _ _ h
        simp
        omega
theorem takeN_er {er : Int} : ∀ (l : List UInt8) (i acc : Nat), takeN i acc l = .inr er → er = 2 ∨ er = 3
  | [], _, _, h => by
    simp [takeN] at h
    omega
  | c :: l, i, acc, h => by
    rw [takeN] at h
    split at h
    · injection h with h
      omega
    · split at h
      · cases h
      · exact takeN_er l _ _ h
theorem takeN_lt {n : Nat} {t : List UInt8} : ∀ (l : List UInt8) (i acc : Nat), acc < 128 ^ i → i ≤ 9 → takeN i acc l = .inl (n, t) → n < 18446744073709551616
  | [], _, _, _, _, h => by simp [takeN] at h
  | c :: l, i, acc, ha, hi, h => by
    rw [takeN] at h
    split at h
    · cases h
    · rename_i hbad
      have h1 := num_lt (c.toNat % 128) i (by omega) hi (by omega)
      have h2 := pow_lt9 acc i ha hi
      split at h
      · injection h with h
        injection h with h _
        have h3 := step_lt acc (c.toNat % 128) i ha (by omega)
        by_cases h9 : i = 9
        · subst h9
          have : c.toNat = 1 := by omega
          rw [this] at h
          omega
        · have h4 : 128 ^ (i + 1) ≤ 128 ^ 9 := Nat.pow_le_pow_right (by omega) (by omega)
          omega
      · exact takeN_lt l _ _ (step_lt acc _ i ha (by omega)) (by omega) h

theorem number_err {g : Nat} {l : List UInt8} {er : Int} {w : World} (h : Rdr w g l er) (her : er ≠ 0) : Calls Tryz.prog 207 #[.pointer (some ⟨g, 0, none⟩)] w fun e w' => e = .returned (.int .u64 0) ∧ w = w' := by
  go_enter Tryz.func207, Tryz.ntmps207
  go_wp2_with (refine (takes_err h her).mono ?_; rintro e w1 ⟨rfl, rfl⟩)
  go_ret
  exact ⟨rfl, rfl⟩

/-- a number up to most -/
def takeUp (most : Nat) (l : List UInt8) : (Nat × List UInt8) ⊕ Int :=
  match takeN 0 0 l with
  | .inl (n, t) => if most < n then .inr 6 else .inl (n, t)
  | .inr er => .inr er

set_option maxRecDepth 100000 in
theorem Num_live {g : Nat} {l : List UInt8} {w : World} (x : Nat) (h : Rdr w g l 0) (hl : l.length ≤ 281474976710656) : Calls Tryz.prog 135 #[.pointer (some ⟨g, 0, none⟩), .int .u64 x] w (Takes w g (takeUp x l)) := by
  rcases ht : takeN 0 0 l with ⟨n, t⟩ | er
  · by_cases hm : x < n
    · have hr : takeUp x l = .inr 6 := by simp [takeUp, ht, hm]
      rw [hr]
      have HT := hide_ ht
      clear hr ht
      go_enter Tryz.func135, Tryz.ntmps135
      go_wp2_with fail
      refine (number_live h hl).mono ?_
      rw [HT.out]
      rintro e w1 ⟨rfl, hr1, hg1⟩
      go_wp2_with fail
      refine (Fail_live 6 hr1 (by omega)).mono ?_
      rintro e w2 ⟨rfl, hr2, hg2⟩
      go_wp2
      go_ret
      exact Takes.no rfl hr2 (grown_join hg1 hg2)
    · have hr : takeUp x l = .inl (n, t) := by simp [takeUp, ht, hm]
      rw [hr]
      have HT := hide_ ht
      clear hr ht
      go_enter Tryz.func135, Tryz.ntmps135
      go_wp2_with fail
      refine (number_live h hl).mono ?_
      rw [HT.out]
      rintro e w1 ⟨rfl, hr1, hg1⟩
      go_wp2
      go_ret
      exact Takes.ok rfl hr1 hg1
  · have hr : takeUp x l = .inr er := by simp [takeUp, ht]
    rw [hr]
    have HT := hide_ ht
    clear hr ht
    go_enter Tryz.func135, Tryz.ntmps135
    go_wp2_with fail
    refine (number_live h hl).mono ?_
    rw [HT.out]
    rintro e w1 ⟨rfl, hr1, hg1⟩
    go_wp2
    go_ret
    exact Takes.no rfl hr1 hg1

theorem Num_err {g : Nat} {l : List UInt8} {er : Int} {w : World} (x : Nat) (h : Rdr w g l er) (her : er ≠ 0) : Calls Tryz.prog 135 #[.pointer (some ⟨g, 0, none⟩), .int .u64 x] w fun e w' => e = .returned (.int .u64 0) ∧ w = w' := by
  go_enter Tryz.func135, Tryz.ntmps135
  go_wp2_with (refine (number_err h her).mono ?_; rintro e w1 ⟨rfl, rfl⟩)
  go_ret
  exact ⟨rfl, rfl⟩

/-- the whole number that a number stands for -/
def unfoldN (n : Nat) : Int := if n % 2 = 1 then -1 - (n / 2 : Nat) else (n / 2 : Nat)
theorem unfold_fold (n : Int) : unfoldN (foldN n) = n := by
  unfold unfoldN foldN
  split <;> split <;> omega

set_option maxRecDepth 100000 in
theorem unfold_any (n : Nat) (hn : n < 18446744073709551616) (w : World) : Calls Tryz.prog 320 #[.int .u64 n] w fun e w' => e = .returned (.int .i64 (unfoldN n)) ∧ w = w' := by
  have e : ∀ a b : Int, a = b → Ending.returned (.int .i64 a) = .returned (.int .i64 b) := fun a b h => by rw [h]
  by_cases h : n % 2 = 1
  · have hb : ((n : Int) % 2 == 1) = true := beq_iff_eq.2 (by omega)
    go_enter Tryz.func320, Tryz.ntmps320
    go_wp2
    go_ret
    exact ⟨e _ _ (by unfold unfoldN; rw [if_pos h]; omega), rfl⟩
  · have hb : ((n : Int) % 2 == 1) = false := beq_eq_false_iff_ne.2 (by omega)
    go_enter Tryz.func320, Tryz.ntmps320
    go_wp2
    go_ret
    exact ⟨e _ _ (by unfold unfoldN; rw [if_neg (by omega)]; omega), rfl⟩

/-- what a call leaves that takes a whole number -/
def TakesI (w : World) (g : Nat) (r : (Nat × List UInt8) ⊕ Int) (e : Ending) (w' : World) : Prop :=
  match r with
  | .inl (n, t) => Leaves w g (.int .i64 (unfoldN n)) t 0 e w'
  | .inr er => Leaves w g (.int .i64 0) [] er e w'

set_option maxRecDepth 100000 in
theorem Int_live {g : Nat} {l : List UInt8} {w : World} (h : Rdr w g l 0) (hl : l.length ≤ 281474976710656) : Calls Tryz.prog 267 #[.pointer (some ⟨g, 0, none⟩)] w (TakesI w g (takeN 0 0 l)) := by
  rcases ht : takeN 0 0 l with ⟨n, t⟩ | er
  · have hn := takeN_lt l 0 0 (by simp) (by omega) ht
    have HT := hide_ ht
    have HN := hide_ hn
    clear ht hn
    go_enter Tryz.func267, Tryz.ntmps267
    go_wp2_with fail
    refine (number_live h hl).mono ?_
    rw [HT.out]
    rintro e w1 ⟨rfl, hr1, hg1⟩
    go_wp2_with (refine (unfold_any n HN.out _).mono ?_; rintro e w2 ⟨rfl, rfl⟩)
    go_ret
    exact ⟨rfl, hr1, hg1⟩
  · have HT := hide_ ht
    clear ht
    go_enter Tryz.func267, Tryz.ntmps267
    go_wp2_with fail
    refine (number_live h hl).mono ?_
    rw [HT.out]
    rintro e w1 ⟨rfl, hr1, hg1⟩
    go_wp2_with (refine (unfold_any 0 (by omega) _).mono ?_; rintro e w2 ⟨rfl, rfl⟩)
    go_ret
    exact ⟨rfl, hr1, hg1⟩

theorem End_live {g : Nat} {l : List UInt8} {er : Int} {w : World} (h : Rdr w g l er) (v : Int) (hv : v = if er = 0 then (if l = [] then 0 else 4) else er) : Calls Tryz.prog 67 #[.pointer (some ⟨g, 0, none⟩)] w fun e w' => e = .returned (.int .i64 v) ∧ w = w' := by
  have h' := hide_ h
  obtain ⟨A, c, hg, _, _⟩ := h
  have c2 : w.cell? ⟨g, 2, none⟩ = some (.int .i64 er) := by rw [cell_of_row w g 2 _ _ _ hg]; rfl
  have c1 : w.cell? ⟨g, 1, none⟩ = some (.slice A l.length c) := by rw [cell_of_row w g 1 _ _ _ hg]; rfl
  clear hg
  by_cases her : er = 0
  · subst her
    rw [if_pos rfl] at hv
    by_cases hl : l = []
    · subst hl
      rw [if_pos rfl] at hv
      subst hv
      go_enter Tryz.func67, Tryz.ntmps67
      go_wp2_with (refine (isNone_live h'.out).mono ?_; rintro e w1 ⟨rfl, rfl⟩)
      go_ret
      exact ⟨rfl, rfl⟩
    · rw [if_neg hl] at hv
      subst hv
      have hpos : 0 < l.length := List.length_pos_iff.2 hl
      go_enter Tryz.func67, Tryz.ntmps67
      go_wp2_with (refine (isNone_live h'.out).mono ?_; rintro e w1 ⟨rfl, rfl⟩)
      go_ret
      exact ⟨rfl, rfl⟩
  · rw [if_neg her] at hv
    subst hv
    have hb : (v == 0) = false := beq_eq_false_iff_ne.2 her
    clear her
    go_enter Tryz.func67, Tryz.ntmps67
    go_wp2_with (refine (isNone_live h'.out).mono ?_; rintro e w1 ⟨rfl, rfl⟩)
    go_ret
    exact ⟨rfl, rfl⟩
end Go.Proofs.YtnkjdijbfnmnhaaGreat

/-
  Contracts of pack's reader: a row; and what is put is what is taken, as plain facts on lists.
-/
namespace Go.Proofs.YtnkjdijbfnmnhaaGreat
open Go.RowKit

/-- a row of at most so many bytes -/
def takeR (most : Int) (l : List UInt8) : (List UInt8 × List UInt8) ⊕ Int :=
  match takeN 0 0 l with
  | .inr er => .inr er
  | .inl (n, t) => if max most 0 < (n : Int) then .inr 4 else if t.length < n then .inr 2 else .inl (t.take n, t.drop n)

/-- what a call leaves that takes a row -/
def TakesR (w : World) (g : Nat) (r : (List UInt8 × List UInt8) ⊕ Int) (e : Ending) (w' : World) : Prop :=
  match r with
  | .inl (row, t) => ∃ A c, Leaves w g (.slice A row.length c) t 0 e w' ∧ w'.ownsRow w.heap.size 5 1 (.slice A row.length c) row.length (bv row)
  | .inr er => Leaves w g (.slice none 0 0) [] er e w'

theorem Rdr.lt {w : World} {g : Nat} {l : List UInt8} {er : Int} (h : Rdr w g l er) : g < w.heap.size := by
  obtain ⟨A, c, hg, _, _⟩ := h
  exact (Array.getElem?_eq_some_iff.1 hg).1
theorem Rdr.below {w w' : World} {g : Nat} {l : List UInt8} {er : Int} (h : Rdr w g l er) (hb : Below w.heap.size w w') : Rdr w' g l er := by
  have hlt := h.lt
  obtain ⟨A, c, hg, hs, hc⟩ := h
  exact ⟨A, c, (hb.block g hlt).trans hg, hs.below (hb.mono (by omega)), hc⟩

theorem copyOf_n (l : List UInt8) (B : Nat) (A : Option Addr) (n c room : Nat) (w : World) (hn : l.length = n) (hs : Sees w B A (bv l)) (hB : B ≤ w.heap.size) (hr : n + room ≤ 281474976710656) :
    Calls Tryz.prog 118 #[.slice A n c, .int .i64 room] w fun e w' => e = .returned (.slice (some ⟨w.heap.size, 0, none⟩) n (n + room)) ∧
      w'.ownsRow w.heap.size 5 1 (.slice (some ⟨w.heap.size, 0, none⟩) n (n + room)) n (bv l) ∧ Below w.heap.size w w' ∧ w'.heap.size = w.heap.size + 1 := by
  subst hn
  exact copyOf_any l B A c room w hs hB hr

theorem TakesR.mk {w w1 w3 : World} {g n c1 c' : Nat} {t : List UInt8} {A1 A' : Option Addr} (hn : n ≤ t.length) (hg : w1.heap[g]? = some (.cells #[.bool true, .slice A1 t.length c1, .int .i64 0] 210 (0, 0)))
    (hs : Sees w1 g A1 (bv t)) (hc : t.length ≤ c1) (hA : A' = if c1 = n then A1 else A1.map (·.add n)) (hc' : c1 - n = c') (hg1 : w.grownBy w1 (some g)) (hlt : g < w1.heap.size)
    (hown : w3.ownsRow w1.heap.size 5 1 (.slice (some ⟨w1.heap.size, 0, none⟩) n (n + 0)) n (bv (t.take n))) (hb : Below w1.heap.size w1 w3) :
    TakesR w g (.inl (t.take n, t.drop n)) (.returned (.slice (some ⟨w1.heap.size, 0, none⟩) n n)) (w3.setCell ⟨g, 1, none⟩ (.slice A' (t.length - n) c')) := by
  have hl : (t.take n).length = n := by simp; omega
  refine ⟨some ⟨w1.heap.size, 0, none⟩, n, ⟨by rw [hl], Rdr_cut ((hb.block g hlt).trans hg) (hs.below (hb.mono (by omega))) hc hA hn rfl hc', grown_set (grown_below hg1 hb) _ _⟩, ?_⟩
  rw [hl]
  exact own_mono (ownsRow_setCell_below hown (a := ⟨g, 1, none⟩) hlt _) hg1.size

end Go.Proofs.YtnkjdijbfnmnhaaGreat
/-
  Plain facts on lists of bytes: what is put is taken; what is cut off is short.
-/
namespace Go.Proofs.YtnkjdijbfnmnhaaGreat

theorem pow9 (i : Nat) (x : Nat) (hi : i ≤ 9) (hx : x * 128 ^ i < 18446744073709551616) (h9 : i = 9) : x ≤ 1 := by
  subst h9
  omega
theorem toNat_of {n : Nat} (h : n < 256) : (UInt8.ofNat n).toNat = n := by simp; omega

theorem takeN_num (t : List UInt8) : ∀ (x i acc : Nat), i ≤ 9 → x * 128 ^ i < 18446744073709551616 → (i = 0 ∨ 0 < x) → takeN i acc (numB x ++ t) = .inl (acc + x * 128 ^ i, t) := by
  intro x
  induction x using Nat.strongRecOn with
  | _ x ih =>
    intro i acc hi hx h0
    have h9 := pow9 i x hi hx
    by_cases hs : x < 128
    · rw [numB_small hs, List.singleton_append, takeN, toNat_of (by omega), if_neg (by omega), if_pos hs, Nat.mod_eq_of_lt hs]
    · have e1 : x % 128 * 128 ^ i + x / 128 * 128 ^ (i + 1) = x * 128 ^ i := by
        rw [Nat.pow_succ, Nat.mul_comm (128 ^ i) 128, ← Nat.mul_assoc, ← Nat.add_mul]
        congr 1
        omega
      rw [numB_big (by omega), List.cons_append, takeN, toNat_of (by omega), if_neg (by omega), if_neg (by omega), ih (x / 128) (by omega) (i + 1) _ (by omega) (by omega) (by omega)]
      congr 2
      rw [show (x % 128 + 128) % 128 = x % 128 by omega]
      omega

theorem takeN_cut : ∀ (x i acc k : Nat), i ≤ 9 → x * 128 ^ i < 18446744073709551616 → (i = 0 ∨ 0 < x) → k < (numB x).length → takeN i acc ((numB x).take k) = .inr 2 := by
  intro x
  induction x using Nat.strongRecOn with
  | _ x ih =>
    intro i acc k hi hx h0 hk
    have h9 := pow9 i x hi hx
    rcases k with _ | k
    · rw [List.take_zero, takeN]
    · by_cases hs : x < 128
      · rw [numB_small hs] at hk
        simp at hk
      · have e1 : x % 128 * 128 ^ i + x / 128 * 128 ^ (i + 1) = x * 128 ^ i := by
          rw [Nat.pow_succ, Nat.mul_comm (128 ^ i) 128, ← Nat.mul_assoc, ← Nat.add_mul]
          congr 1
          omega
        rw [numB_big (by omega), List.length_cons] at hk
        rw [numB_big (by omega), List.take_succ_cons, takeN, toNat_of (by omega), if_neg (by omega), if_neg (by omega), ih (x / 128) (by omega) (i + 1) _ k (by omega) (by omega) (by omega) (by omega)]

theorem takeN_put (x : Nat) (t : List UInt8) (hx : x < 18446744073709551616) : takeN 0 0 (numB x ++ t) = .inl (x, t) := by
  rw [takeN_num t x 0 0 (by omega) (by simpa using hx) (.inl rfl)]
  simp
theorem takeN_short (x k : Nat) (hx : x < 18446744073709551616) (hk : k < (numB x).length) : takeN 0 0 ((numB x).take k) = .inr 2 :=
  takeN_cut x 0 0 k (by omega) (by simpa using hx) (.inl rfl) hk
theorem takeUp_put (x most : Nat) (t : List UInt8) (hx : x < 18446744073709551616) (hm : x ≤ most) : takeUp most (numB x ++ t) = .inl (x, t) := by
  rw [takeUp, takeN_put x t hx]
  simp only
  rw [if_neg (by omega)]
theorem takeUp_short (x k most : Nat) (hx : x < 18446744073709551616) (hk : k < (numB x).length) : takeUp most ((numB x).take k) = .inr 2 := by
  rw [takeUp, takeN_short x k hx hk]
theorem takeR_put (row t : List UInt8) (most : Int) (hr : row.length < 18446744073709551616) (hm : (row.length : Int) ≤ max most 0) : takeR most (rowB row ++ t) = .inl (row, t) := by
  rw [takeR, rowB, List.append_assoc, takeN_put _ _ hr]
  simp only
  rw [if_neg (by omega), if_neg (by simp)]
  simp
theorem takeR_short (row : List UInt8) (most : Int) (k : Nat) (hr : row.length < 18446744073709551616) (hm : (row.length : Int) ≤ max most 0) (hk : k < (rowB row).length) : takeR most ((rowB row).take k) = .inr 2 := by
  rw [takeR, rowB, List.take_append]
  by_cases h : k < (numB row.length).length
  · rw [Nat.sub_eq_zero_of_le (by omega), List.take_zero, List.append_nil, takeN_short _ k hr h]
  · rw [List.take_of_length_le (by omega), takeN_put _ _ hr]
    simp only
    rw [rowB, List.length_append] at hk
    rw [if_neg (by omega), if_pos (by simp; omega)]
end Go.Proofs.YtnkjdijbfnmnhaaGreat

/-
  A reader's calls by one contract each: the reader's state (what is left, its error) as a pair; what is taken and the state behind it are plain functions of it.
-/
namespace Go.Proofs.YtnkjdijbfnmnhaaGreat
open Go.RowKit

theorem upTo_er {most : Nat} {l : List UInt8} {er : Int} (h : takeUp most l = .inr er) : er = 2 ∨ er = 3 ∨ er = 6 := by
  rw [takeUp] at h
  rcases ht : takeN 0 0 l with ⟨n, t⟩ | e
  · rw [ht] at h
    simp only at h
    split at h
    · injection h with h
      omega
    · cases h
  · rw [ht] at h
    injection h with h
    rcases takeN_er l 0 0 ht with rfl | rfl <;> omega
theorem upTo_left {most n : Nat} {l t : List UInt8} (h : takeUp most l = .inl (n, t)) : t.length < l.length ∧ n ≤ most := by
  rw [takeUp] at h
  rcases ht : takeN 0 0 l with ⟨x, u⟩ | e
  · rw [ht] at h
    simp only at h
    split at h
    · cases h
    · injection h with h
      injection h with h1 h2
      subst h1 h2
      exact ⟨takeN_left l 0 0 ht, by omega⟩
  · rw [ht] at h
    cases h

/-- a reader's state: what is left, the error -/
abbrev RS := List UInt8 × Int
/-- an error that numbers fail with, or none -/
def RSok (s : RS) : Prop := (s.2 = 0 ∨ s.2 = 2 ∨ s.2 = 3 ∨ s.2 = 6) ∧ s.1.length ≤ 1000000
def numS (most : Nat) (s : RS) : Nat × RS :=
  if s.2 = 0 then (match takeUp most s.1 with | .inl (n, t) => (n, (t, 0)) | .inr er => (0, ([], er))) else (0, s)
def intS (s : RS) : Int × RS :=
  if s.2 = 0 then (match takeN 0 0 s.1 with | .inl (n, t) => (unfoldN n, (t, 0)) | .inr er => (0, ([], er))) else (0, s)
theorem numS_ok {most : Nat} {s : RS} (h : RSok s) : RSok (numS most s).2 ∧ (numS most s).1 ≤ most := by
  obtain ⟨l, er⟩ := s
  unfold numS
  by_cases h0 : er = 0
  · subst h0
    rw [if_pos rfl]
    rcases ht : takeUp most l with ⟨n, t⟩ | e
    · have h1 := upTo_left ht
      exact ⟨⟨.inl rfl, by have := h.2; simp only at this ⊢; omega⟩, h1.2⟩
    · have h1 := upTo_er ht
      refine ⟨⟨?_, by simp⟩, by simp⟩
      simp only
      omega
  · rw [if_neg h0]
    exact ⟨h, by simp⟩
theorem intS_ok {s : RS} (h : RSok s) : RSok (intS s).2 ∧ (-9223372036854775808 ≤ (intS s).1 ∧ (intS s).1 ≤ 9223372036854775807) := by
  obtain ⟨l, er⟩ := s
  unfold intS
  by_cases h0 : er = 0
  · subst h0
    rw [if_pos rfl]
    rcases ht : takeN 0 0 l with ⟨n, t⟩ | e
    · have h1 := takeN_left l 0 0 ht
      have h2 := takeN_lt l 0 0 (by simp) (by omega) ht
      refine ⟨⟨.inl rfl, by have := h.2; simp only at this ⊢; omega⟩, ?_⟩
      simp only
      unfold unfoldN
      split <;> omega
    · have h1 := takeN_er l 0 0 ht
      refine ⟨⟨?_, by simp⟩, by simp⟩
      simp only
      omega
  · rw [if_neg h0]
    exact ⟨h, by simp⟩

/-- what a call leaves that takes something of a reader -/
def LeavesS (w : World) (g : Nat) (v : Value) (s : RS) (e : Ending) (w' : World) : Prop := e = .returned v ∧ Rdr w' g s.1 s.2 ∧ w.grownBy w' (some g)

theorem Num_st {g : Nat} {s : RS} {w : World} (x : Nat) (h : Rdr w g s.1 s.2) (hs : RSok s) : Calls Tryz.prog 135 #[.pointer (some ⟨g, 0, none⟩), .int .u64 x] w (LeavesS w g (.int .u64 (numS x s).1) (numS x s).2) := by
  obtain ⟨l, er⟩ := s
  have hl := hs.2
  simp only at h hl
  unfold numS
  by_cases h0 : er = 0
  · subst h0
    rw [if_pos rfl]
    refine (Num_live x h (by omega)).mono ?_
    rcases ht : takeUp x l with ⟨n, t⟩ | e
    · rintro en w1 ⟨rfl, hr, hg⟩
      exact ⟨rfl, hr, hg⟩
    · rintro en w1 ⟨rfl, hr, hg⟩
      exact ⟨rfl, hr, hg⟩
  · rw [if_neg h0]
    refine (Num_err x h h0).mono ?_
    rintro en w1 ⟨rfl, rfl⟩
    exact ⟨rfl, h, World.grownBy.refl _ _⟩

theorem Int_err {g : Nat} {l : List UInt8} {er : Int} {w : World} (h : Rdr w g l er) (her : er ≠ 0) : Calls Tryz.prog 267 #[.pointer (some ⟨g, 0, none⟩)] w fun e w' => e = .returned (.int .i64 0) ∧ w = w' := by
  go_enter Tryz.func267, Tryz.ntmps267
  go_wp2_with fail
  refine (number_err h her).mono ?_
  rintro e w1 ⟨rfl, rfl⟩
  go_wp2_with (refine (unfold_any 0 (by omega) _).mono ?_; rintro e w2 ⟨rfl, rfl⟩)
  go_ret
  exact ⟨rfl, rfl⟩

theorem Int_st {g : Nat} {s : RS} {w : World} (h : Rdr w g s.1 s.2) (hs : RSok s) : Calls Tryz.prog 267 #[.pointer (some ⟨g, 0, none⟩)] w (LeavesS w g (.int .i64 (intS s).1) (intS s).2) := by
  obtain ⟨l, er⟩ := s
  have hl := hs.2
  simp only at h hl
  unfold intS
  by_cases h0 : er = 0
  · subst h0
    rw [if_pos rfl]
    refine (Int_live h (by omega)).mono ?_
    rcases ht : takeN 0 0 l with ⟨n, t⟩ | e
    · rintro en w1 ⟨rfl, hr, hg⟩
      exact ⟨rfl, hr, hg⟩
    · rintro en w1 ⟨rfl, hr, hg⟩
      exact ⟨rfl, hr, hg⟩
  · rw [if_neg h0]
    refine (Int_err h h0).mono ?_
    rintro en w1 ⟨rfl, rfl⟩
    exact ⟨rfl, h, World.grownBy.refl _ _⟩

/-- what End tells of a state -/
def endS (s : RS) : Int := if s.2 = 0 then (if s.1 = [] then 0 else 4) else s.2
theorem End_st {g : Nat} {s : RS} {w : World} (h : Rdr w g s.1 s.2) : Calls Tryz.prog 67 #[.pointer (some ⟨g, 0, none⟩)] w fun e w' => e = .returned (.int .i64 (endS s)) ∧ w = w' := End_live h (endS s) rfl

/-- k parts behind each other -/
def iterS {α : Type} (f : RS → α × RS) : Nat → RS → List α × RS
  | 0, s => ([], s)
  | k + 1, s => let r := f s; let q := iterS f k r.2; (r.1 :: q.1, q.2)
theorem iterS_snoc {α : Type} (f : RS → α × RS) : ∀ (k : Nat) (s : RS), iterS f (k + 1) s = ((iterS f k s).1 ++ [(f (iterS f k s).2).1], (f (iterS f k s).2).2) := by
  intro k
  induction k with
  | zero => intro s; rfl
  | succ k ih =>
    intro s
    have h := ih (f s).2
    show ((f s).1 :: (iterS f (k + 1) (f s).2).1, (iterS f (k + 1) (f s).2).2) = _
    rw [h]
    rfl
theorem iterS_len {α : Type} (f : RS → α × RS) : ∀ (k : Nat) (s : RS), (iterS f k s).1.length = k := by
  intro k
  induction k with
  | zero => intro s; rfl
  | succ k ih => intro s; show ((f s).1 :: (iterS f k (f s).2).1).length = k + 1; rw [List.length_cons, ih]
theorem iterS_ok {α : Type} {f : RS → α × RS} (hf : ∀ s, RSok s → RSok (f s).2) : ∀ (k : Nat) (s : RS), RSok s → RSok (iterS f k s).2 := by
  intro k
  induction k with
  | zero => intro s h; exact h
  | succ k ih => intro s h; exact ih _ (hf s h)
/-- how many, and each of them -/
def manyS {α : Type} (most : Nat) (f : RS → α × RS) (s : RS) : List α × RS := iterS f (numS most s).1 (numS most s).2
theorem manyS_ok {α : Type} {most : Nat} {f : RS → α × RS} (hf : ∀ s, RSok s → RSok (f s).2) {s : RS} (h : RSok s) : RSok (manyS most f s).2 := iterS_ok hf _ _ (numS_ok h).1

/-- what is put is taken -/
theorem numS_put {x most : Nat} (t : List UInt8) (hx : x < 18446744073709551616) (hm : x ≤ most) : numS most (numB x ++ t, 0) = (x, (t, 0)) := by
  unfold numS
  rw [if_pos rfl]
  simp only
  rw [takeUp_put x most t hx hm]
theorem intS_put {x : Int} (t : List UInt8) (h1 : -9223372036854775808 ≤ x) (h2 : x ≤ 9223372036854775807) : intS (intB x ++ t, 0) = (x, (t, 0)) := by
  unfold intS intB
  rw [if_pos rfl]
  simp only
  rw [takeN_put _ t (foldN_lt x h1 h2)]
  simp only
  rw [unfold_fold]
theorem iterS_put {α : Type} {f : RS → α × RS} {b : α → List UInt8} : ∀ (l : List α) (t : List UInt8), (∀ x ∈ l, ∀ t, f (b x ++ t, 0) = (x, (t, 0))) → iterS f l.length (l.flatMap b ++ t, 0) = (l, (t, 0)) := by
  intro l
  induction l with
  | nil => intro t _; rfl
  | cons x l ih =>
    intro t h
    rw [List.flatMap_cons, List.length_cons, List.append_assoc]
    show ((f _).1 :: (iterS f l.length (f _).2).1, (iterS f l.length (f _).2).2) = _
    rw [h x (by simp), ih t fun y hy => h y (by simp [hy])]
theorem manyS_put {α : Type} {f : RS → α × RS} {b : α → List UInt8} {most : Nat} (l : List α) (t : List UInt8) (hm : l.length ≤ most) (hl : l.length < 18446744073709551616) (h : ∀ x ∈ l, ∀ t, f (b x ++ t, 0) = (x, (t, 0))) : manyS most f (numB l.length ++ (l.flatMap b ++ t), 0) = (l, (t, 0)) := by
  unfold manyS
  rw [numS_put _ hl hm]
  exact iterS_put l t h

/-- what is cut off is short: f on any head of b but the whole -/
def Cuts {α : Type} (f : RS → α × RS) (b : List UInt8) : Prop := ∀ k, k < b.length → (f (b.take k, 0)).2 = ([], 2)
/-- with an error nothing changes -/
def Holds2 {α : Type} (f : RS → α × RS) : Prop := (f ([], 2)).2 = ([], 2)
theorem numS_cuts {x most : Nat} (hx : x < 18446744073709551616) : Cuts (numS most) (numB x) := fun k hk => by
  unfold numS
  rw [if_pos rfl]
  simp only
  rw [takeUp_short x k most hx hk]
theorem intS_cuts {x : Int} (h1 : -9223372036854775808 ≤ x) (h2 : x ≤ 9223372036854775807) : Cuts intS (intB x) := fun k hk => by
  unfold intS
  unfold intB at hk ⊢
  rw [if_pos rfl]
  simp only
  rw [takeN_short _ k (foldN_lt x h1 h2) hk]
theorem numS_holds (most : Nat) : Holds2 (numS most) := rfl
theorem intS_holds : Holds2 intS := rfl
theorem iterS_holds {α : Type} {f : RS → α × RS} (h : Holds2 f) : ∀ k, (iterS f k ([], 2)).2 = ([], 2) := by
  intro k
  induction k with
  | zero => rfl
  | succ k ih =>
    show (iterS f k (f ([], 2)).2).2 = _
    rw [h, ih]
theorem manyS_holds {α : Type} {f : RS → α × RS} {most : Nat} (h : Holds2 f) : Holds2 (manyS most f) := by
  unfold Holds2 manyS
  exact iterS_holds h _
theorem take_app_lt {l m : List UInt8} {k : Nat} (h : k < l.length) : (l ++ m).take k = l.take k := by
  rw [List.take_append, Nat.sub_eq_zero_of_le (by omega), List.take_zero, List.append_nil]
theorem take_app_ge {l m : List UInt8} {k : Nat} (h : l.length ≤ k) : (l ++ m).take k = l ++ m.take (k - l.length) := by
  rw [List.take_append, List.take_of_length_le h]
theorem iterS_cuts {α : Type} {f : RS → α × RS} {b : α → List UInt8} (hf : Holds2 f) : ∀ (l : List α), (∀ x ∈ l, (∀ t, f (b x ++ t, 0) = (x, (t, 0))) ∧ Cuts f (b x)) → Cuts (iterS f l.length) (l.flatMap b) := by
  intro l
  induction l with
  | nil => intro _ k hk; simp at hk
  | cons x l ih =>
    intro h k hk
    rw [List.flatMap_cons, List.length_append] at hk
    rw [List.flatMap_cons, List.length_cons]
    show (iterS f l.length (f _).2).2 = _
    by_cases hl : k < (b x).length
    · rw [take_app_lt hl, (h x (by simp)).2 k hl]
      exact iterS_holds hf _
    · rw [take_app_ge (by omega), (h x (by simp)).1]
      exact ih (fun y hy => h y (by simp [hy])) _ (by omega)
theorem manyS_cuts {α : Type} {f : RS → α × RS} {b : α → List UInt8} {most : Nat} (hf : Holds2 f) (l : List α) (hm : l.length ≤ most) (hl : l.length < 18446744073709551616) (h : ∀ x ∈ l, (∀ t, f (b x ++ t, 0) = (x, (t, 0))) ∧ Cuts f (b x)) : Cuts (manyS most f) (numB l.length ++ l.flatMap b) := fun k hk => by
  rw [List.length_append] at hk
  unfold manyS
  by_cases h1 : k < (numB l.length).length
  · rw [take_app_lt h1, numS_cuts hl k h1]
    exact iterS_holds hf _
  · rw [take_app_ge (by omega), numS_put _ hl hm]
    exact iterS_cuts hf l h _ (by omega)
end Go.Proofs.YtnkjdijbfnmnhaaGreat
