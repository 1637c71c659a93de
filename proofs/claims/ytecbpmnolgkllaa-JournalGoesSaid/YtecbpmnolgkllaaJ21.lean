/-
  Texts of this claim put together: Read.
-/
import Derived.Test.YtecbpmnolgkllaaJ08
import Derived.WalkSpells
import Derived.Outline
/-
  Contracts of pack's reader: one that New has made.
-/
namespace Go.Proofs.Ytecbpmnolgkllaa
open Go.RowKit

/-- a reader at block g: what is left to it, and its error -/
def Rdr (w : World) (g : Nat) (l : List UInt8) (er : Int) : Prop :=
  ∃ A c, w.heap[g]? = some (.cells #[.bool true, .slice A l.length c, .int .i64 er] 142 (0, 0)) ∧ Sees w g A (bv l) ∧ l.length ≤ c

theorem New_any (l : List UInt8) (B : Nat) (A : Option Addr) (n c : Nat) (w : World) (hn : l.length = n) (hs : Sees w B A (bv l)) (hB : B ≤ w.heap.size) (hl : n ≤ 281474976710656) :
    Calls Try.prog 53 #[.slice A n c] w fun e w' => ∃ g, e = .returned (.pointer (some ⟨g, 0, none⟩)) ∧ w.heap.size ≤ g ∧ Rdr w' g l 0 ∧ Below w.heap.size w w' := by
  subst hn
  go_enter Try.func53, Try.ntmps53
  go_wp2_with fail
  refine (copyOf_any l B A c 0 w hs hB (by omega)).mono ?_
  rintro e w1 ⟨rfl, hown1, hb1, hz1⟩
  have HZ := hide_ hz1
  clear hz1
  go_wp2
  go_ret
  refine ⟨w1.heap.size, rfl, hb1.size, ⟨_, _, heap_alloc_new w1 _, ?_, Nat.le_refl _⟩, hb1.alloc hb1.size _⟩
  exact (Sees.own hown1).below ((Below.refl _ _).alloc (Nat.le_refl _) _)

theorem isNone_live {g : Nat} {l : List UInt8} {er : Int} {w : World} (h : Rdr w g l er) : Calls Try.prog 89 #[.pointer (some ⟨g, 0, none⟩)] w fun e w' => e = .returned (.bool false) ∧ w = w' := by
  obtain ⟨A, c, hg, _, _⟩ := h
  have c0 : w.cell? ⟨g, 0, none⟩ = some (.bool true) := by rw [cell_of_row w g 0 _ _ _ hg]; rfl
  clear hg
  go_enter Try.func89, Try.ntmps89
  go_wp2
  go_ret
  exact ⟨rfl, rfl⟩

theorem takes_live {g : Nat} {l : List UInt8} {w : World} (h : Rdr w g l 0) : Calls Try.prog 88 #[.pointer (some ⟨g, 0, none⟩)] w fun e w' => e = .returned (.bool true) ∧ w = w' := by
  have h' := hide_ h
  obtain ⟨A, c, hg, _, _⟩ := h
  have c0 : w.cell? ⟨g, 2, none⟩ = some (.int .i64 0) := by rw [cell_of_row w g 2 _ _ _ hg]; rfl
  clear hg
  go_enter Try.func88, Try.ntmps88
  go_wp2_with (refine (isNone_live h'.out).mono ?_; rintro e w1 ⟨rfl, rfl⟩)
  go_ret
  exact ⟨rfl, rfl⟩

theorem takes_err {g : Nat} {l : List UInt8} {er : Int} {w : World} (h : Rdr w g l er) (her : er ≠ 0) : Calls Try.prog 88 #[.pointer (some ⟨g, 0, none⟩)] w fun e w' => e = .returned (.bool false) ∧ w = w' := by
  have h' := hide_ h
  obtain ⟨A, c, hg, _, _⟩ := h
  have c0 : w.cell? ⟨g, 2, none⟩ = some (.int .i64 er) := by rw [cell_of_row w g 2 _ _ _ hg]; rfl
  clear hg
  have hb : (er == 0) = false := beq_eq_false_iff_ne.2 her
  go_enter Try.func88, Try.ntmps88
  go_wp2_with (refine (isNone_live h'.out).mono ?_; rintro e w1 ⟨rfl, rfl⟩)
  go_ret
  exact ⟨rfl, rfl⟩

/-- what a reader's call leaves -/
def Leaves (w : World) (g : Nat) (v : Value) (l : List UInt8) (er : Int) (e : Ending) (w' : World) : Prop := e = .returned v ∧ Rdr w' g l er ∧ w.grownBy w' (some g)

theorem Fail_live {g : Nat} {l : List UInt8} {w : World} (er : Int) (h : Rdr w g l 0) (her : er ≠ 0) : Calls Try.prog 87 #[.pointer (some ⟨g, 0, none⟩), .int .i64 er] w (Leaves w g (.tuple #[]) [] er) := by
  have h' := hide_ h
  obtain ⟨A, c, hg, _, _⟩ := h
  have c0 : w.cell? ⟨g, 2, none⟩ = some (.int .i64 0) := by rw [cell_of_row w g 2 _ _ _ hg]; rfl
  have c1 : w.cell? ⟨g, 1, none⟩ = some (.slice A l.length c) := by rw [cell_of_row w g 1 _ _ _ hg]; rfl
  have f0 : ∀ i, w.frozen? ⟨g, i, none⟩ = false := fun i => by simp [World.frozen?, hg]
  have f1 := f0 1
  have f2 := f0 2
  have HG := hide_ hg
  clear hg f0
  have hb : (er == 0) = false := beq_eq_false_iff_ne.2 her
  go_enter Try.func87, Try.ntmps87
  go_wp2_with (refine (takes_live h'.out).mono ?_; rintro e w1 ⟨rfl, rfl⟩)
  refine bodyPost_ret (results_none rfl _ _ _) rfl ?_
  refine ⟨rfl, ⟨none, 0, ?_, Sees.empty _ _ _, Nat.le_refl _⟩, grown_set (grown_set (World.grownBy.refl w _) _ _) _ _⟩
  exact heap_set 1 _ (heap_set 2 _ HG.out)

theorem fits_any (i : Nat) (c : UInt8) (b : Bool) (w : World) (hi : i ≤ 9) (h : b = if i = 9 then c.toNat == 1 else (i == 0 || decide (0 < c.toNat))) : Calls Try.prog 112 #[.int .i64 i, .int .u8 (c.toNat : Int)] w fun e w' => e = .returned (.bool b) ∧ w = w' := by
  obtain ⟨n, hn⟩ : ∃ n, n = c.toNat := ⟨_, rfl⟩
  rw [← hn] at h ⊢
  clear hn
  by_cases h9 : i = 9
  · rw [if_pos h9] at h
    by_cases h1 : n = 1
    · subst h1 h9
      obtain rfl : b = true := by simpa using h
      clear h
      go_enter Try.func112, Try.ntmps112
      go_wp2
      go_ret
      exact ⟨rfl, rfl⟩
    · obtain rfl : b = false := by rw [h]; simpa using h1
      subst h9
      clear h
      have hb : ((n : Int) == 1) = false := beq_eq_false_iff_ne.2 (by omega)
      go_enter Try.func112, Try.ntmps112
      go_wp2
      go_ret
      exact ⟨rfl, rfl⟩
  · rw [if_neg h9] at h
    have hb9 : ((i : Int) == 9) = false := beq_eq_false_iff_ne.2 (by omega)
    by_cases h0 : i = 0
    · subst h0
      obtain rfl : b = true := by simpa using h
      clear h
      go_enter Try.func112, Try.ntmps112
      go_wp2
      go_ret
      exact ⟨rfl, rfl⟩
    · have hb0 : ((i : Int) == 0) = false := beq_eq_false_iff_ne.2 (by omega)
      by_cases hn : 0 < n
      · obtain rfl : b = true := by rw [h]; simp [hn]
        have hd : decide ((0 : Int) < n) = true := by simp; omega
        clear h
        go_enter Try.func112, Try.ntmps112
        go_wp2
        go_ret
        exact ⟨rfl, rfl⟩
      · obtain rfl : n = 0 := by omega
        obtain rfl : b = false := by rw [h]; simpa using h0
        clear h
        go_enter Try.func112, Try.ntmps112
        go_wp2
        go_ret
        exact ⟨rfl, rfl⟩

/-- a number's bytes taken: from the byte numbered i on, with what stood ahead: the number and what is left, or the error -/
def takeN : Nat → Nat → List UInt8 → (Nat × List UInt8) ⊕ Int
  | _, _, [] => .inr 2
  | i, acc, c :: t =>
    if (i = 9 ∧ c.toNat ≠ 1) ∨ (i ≠ 9 ∧ i ≠ 0 ∧ c.toNat = 0) then .inr 3
    else if c.toNat < 128 then .inl (acc + c.toNat % 128 * 128 ^ i, t)
    else takeN (i + 1) (acc + c.toNat % 128 * 128 ^ i) t

/-- what a call leaves that takes a number -/
def Takes (w : World) (g : Nat) (r : (Nat × List UInt8) ⊕ Int) (e : Ending) (w' : World) : Prop :=
  match r with
  | .inl (n, t) => Leaves w g (.int .u64 n) t 0 e w'
  | .inr er => Leaves w g (.int .u64 0) [] er e w'

theorem Rdr_cut {w : World} {g : Nat} {l : List UInt8} {er : Int} {c c' k n : Nat} {A A' : Option Addr} (hg : w.heap[g]? = some (.cells #[.bool true, .slice A l.length c, .int .i64 er] 142 (0, 0)))
    (hs : Sees w g A (bv l)) (hlc : l.length ≤ c) (hA : A' = if c = k then A else A.map (·.add k)) (hk : k ≤ l.length) (hn : l.length - k = n) (hc : c - k = c') :
    Rdr (w.setCell ⟨g, 1, none⟩ (.slice A' n c')) g (l.drop k) er := by
  have hlt : g < w.heap.size := (Array.getElem?_eq_some_iff.1 hg).1
  subst hn hc
  refine ⟨A', c - k, ?_, ?_, by simp; omega⟩
  · rw [List.length_drop]
    exact heap_set 1 _ hg
  · have h := hs.drop k c (by rw [bv_length]; exact hlc)
    rw [← bv_drop] at h
    rw [hA]
    exact Sees.grown h (grown_set (World.grownBy.refl w _) _ _) (by omega)

theorem Takes.ok {w w' : World} {g n : Nat} {t : List UInt8} {e : Ending} (h1 : e = .returned (.int .u64 n)) (h2 : Rdr w' g t 0) (h3 : w.grownBy w' (some g)) : Takes w g (.inl (n, t)) e w' := ⟨h1, h2, h3⟩
theorem Takes.no {w w' : World} {g : Nat} {er : Int} {e : Ending} (h1 : e = .returned (.int .u64 0)) (h2 : Rdr w' g [] er) (h3 : w.grownBy w' (some g)) : Takes w g (.inr er) e w' := ⟨h1, h2, h3⟩
theorem pow_128 (k : Nat) : 128 ^ k = 2 ^ (7 * k) := by rw [Nat.pow_mul]
theorem num_lt (m k : Nat) (hm : m < 128) (hk : k ≤ 9) (h9 : k = 9 → m ≤ 1) : m * 128 ^ k < 18446744073709551616 := by
  have hc : k = 0 ∨ k = 1 ∨ k = 2 ∨ k = 3 ∨ k = 4 ∨ k = 5 ∨ k = 6 ∨ k = 7 ∨ k = 8 ∨ k = 9 := by omega
  rcases hc with rfl | rfl | rfl | rfl | rfl | rfl | rfl | rfl | rfl | rfl
  all_goals first | omega | (have := h9 rfl; omega)
theorem pow_lt9 (acc k : Nat) (ha : acc < 128 ^ k) (hk : k ≤ 9) : acc < 9223372036854775808 := by
  have h : 128 ^ k ≤ 128 ^ 9 := Nat.pow_le_pow_right (by omega) hk
  omega
theorem step_lt (acc m k : Nat) (ha : acc < 128 ^ k) (hm : m < 128) : acc + m * 128 ^ k < 128 ^ (k + 1) := by
  have h : m * 128 ^ k ≤ 127 * 128 ^ k := Nat.mul_le_mul_right _ (by omega)
  rw [Nat.pow_succ]
  omega
theorem or_num (acc m k : Nat) (ha : acc < 128 ^ k) (hm : m < 128) (hk : k ≤ 9) (h9 : k = 9 → m ≤ 1) :
    bits .or .u64 (acc : Int) (IntKind.u64.wrap ((m : Int) * 2 ^ (7 * k))) = ((acc + m * 128 ^ k : Nat) : Int) := by
  have h1 := num_lt m k hm hk h9
  have h2 := pow_lt9 acc k ha hk
  have e1 : (m : Int) * 2 ^ (7 * k) = ((m * 128 ^ k : Nat) : Int) := by rw [pow_128]; simp
  have e2 : IntKind.u64.wrap ((m * 128 ^ k : Nat) : Int) = ((m * 128 ^ k : Nat) : Int) := by rw [IntKind.wrap_u64]; omega
  rw [e1, e2, u64_or_nat acc _ (by omega) h1]
  rw [pow_128] at ha ⊢
  have h := Nat.shiftLeft_add_eq_or_of_lt ha m
  rw [Nat.shiftLeft_eq] at h
  rw [Nat.or_comm, ← h]
  congr 1
  omega

set_option maxRecDepth 100000 in
set_option maxHeartbeats 400000 in
theorem number_live {g : Nat} {l : List UInt8} {w : World} (h : Rdr w g l 0) (hl : l.length ≤ 281474976710656) : Calls Try.prog 86 #[.pointer (some ⟨g, 0, none⟩)] w (Takes w g (takeN 0 0 l)) := by
  have h' := hide_ h
  obtain ⟨A, c, hg, hs, hlc⟩ := h
  have c1 : w.cell? ⟨g, 1, none⟩ = some (.slice A l.length c) := by rw [cell_of_row w g 1 _ _ _ hg]; rfl
  have f1 : w.frozen? ⟨g, 1, none⟩ = false := by simp [World.frozen?, hg]
  have HG := hide_ hg
  clear hg
  go_enter Try.func86, Try.ntmps86
  go_wp2_with (refine (takes_live h'.out).mono ?_; rintro e w1 ⟨rfl, rfl⟩)
  go_loop [3, 4] (fun n i => ∃ k acc : Nat, k ≤ l.length ∧ k ≤ 9 ∧ i = .int .i64 k ∧ n = .int .u64 acc ∧ Hid (acc < 128 ^ k) ∧ Hid (takeN k acc (l.drop k) = takeN 0 0 l)) (fun _ i => l.length - (intOf i).toNat)
  case atStart => exact ⟨0, 0, Nat.zero_le _, Nat.zero_le _, rfl, rfl, by show _ < _; simp, by show _ = _; simp⟩
  case round =>
    obtain ⟨k, acc, hk, hk9, rfl, rfl, HA, HT⟩ := hrel
    by_cases hlt : k < l.length
    · have hj : (bv l)[k]? = some (.int .u8 (l[k].toNat : Int)) := by rw [bv_getElem?, List.getElem?_eq_getElem hlt]; rfl
      obtain ⟨ad, rfl, hab, hcell⟩ := hs (by rw [bv_length]; omega)
      have hck := hcell k _ hj
      obtain ⟨cc, hcc⟩ : ∃ cc, cc = l[k] := ⟨_, rfl⟩
      rw [← hcc] at hck
      have HC := hide_ hcc
      clear hcell hj hcc
      have hdrop : l.drop k = cc :: l.drop (k + 1) := by rw [HC.out]; exact List.drop_eq_getElem_cons hlt
      by_cases hbad : (k = 9 ∧ cc.toNat ≠ 1) ∨ (k ≠ 9 ∧ k ≠ 0 ∧ cc.toNat = 0)
      · have hres : takeN 0 0 l = .inr 3 := by rw [← HT.out, hdrop, takeN, if_pos hbad]
        have hf : false = if k = 9 then cc.toNat == 1 else (k == 0 || decide (0 < cc.toNat)) := by
          rcases hbad with ⟨h1, h2⟩ | ⟨h1, h2, h3⟩
          · rw [if_pos h1]; symm; simpa using h2
          · rw [if_neg h1]; symm; simp [h2, h3]
        have HR := hide_ hres
        have HF := hide_ hf
        have HD := hide_ hdrop
        clear hres hf hdrop hbad
        go_wp2_with (first | (go_at_call 112; refine (fits_any k cc false w hk9 HF.out).mono ?_; rintro e w1 ⟨rfl, rfl⟩) | (go_at_call 87; refine (Fail_live 3 h'.out (by omega)).mono ?_; rintro e w1 ⟨rfl, hr1, hg1⟩))
        go_ret
        rw [HR.out]
        exact ⟨rfl, hr1, hg1⟩
      · have hf : true = if k = 9 then cc.toNat == 1 else (k == 0 || decide (0 < cc.toNat)) := by
          by_cases h9 : k = 9
          · rw [if_pos h9]; symm; simp; omega
          · rw [if_neg h9]; symm; simp; omega
        have HF := hide_ hf
        clear hf
        have hor : bits .or .u64 (acc : Int) (IntKind.u64.wrap ((cc.toNat : Int) % 128 * 2 ^ (7 * k))) = ((acc + cc.toNat % 128 * 128 ^ k : Nat) : Int) :=
          or_num acc (cc.toNat % 128) k HA.out (by omega) hk9 (by omega)
        have HO := hide_ hor
        clear hor
        have q1 : k + 1 ≤ l.length := by omega
        by_cases hsm : cc.toNat < 128
        · have hres : takeN 0 0 l = .inl (acc + cc.toNat % 128 * 128 ^ k, l.drop (k + 1)) := by rw [← HT.out, hdrop, takeN, if_neg hbad, if_pos hsm]
          have HR := hide_ hres
          have HD := hide_ hdrop
          have HB := hide_ hbad
          clear hres hdrop hbad
          go_wp2_with (refine (fits_any k cc true w hk9 HF.out).mono ?_; rintro e w1 ⟨rfl, rfl⟩)
          all_goals go_ret
          all_goals rw [HR.out]
          · exact Takes.ok (congrArg (fun z => Ending.returned (Value.int .u64 z)) HO.out) (Rdr_cut (k := k + 1) HG.out hs hlc (by rw [if_pos ‹c = k + 1›]) q1 rfl (by omega)) (grown_set (World.grownBy.refl w _) _ _)
          · exact Takes.ok (congrArg (fun z => Ending.returned (Value.int .u64 z)) HO.out) (Rdr_cut (k := k + 1) HG.out hs hlc (by rw [if_neg ‹¬c = k + 1›]; simp [Addr.add]) q1 rfl rfl) (grown_set (World.grownBy.refl w _) _ _)
        · have hstep : takeN (k + 1) (acc + cc.toNat % 128 * 128 ^ k) (l.drop (k + 1)) = takeN 0 0 l := by rw [← HT.out, hdrop, takeN, if_neg hbad, if_neg hsm]
          have h9 : k ≠ 9 := by omega
          have q2 : k + 1 ≤ 9 := by omega
          have Q3 := hide_ (step_lt acc (cc.toNat % 128) k HA.out (by omega))
          have HS := hide_ hstep
          have HD := hide_ hdrop
          have HB := hide_ hbad
          clear hstep hdrop hbad
          go_wp2_with (refine (fits_any k cc true w hk9 HF.out).mono ?_; rintro e w1 ⟨rfl, rfl⟩)
          go_round
          case rel =>
            clear hs hck c1
            refine ⟨k + 1, acc + cc.toNat % 128 * 128 ^ k, q1, q2, ?_, ?_, Q3.out, HS.out⟩
            · simp
            · exact congrArg (Value.int .u64) HO.out
          case measure => simp [intOf]; omega
    · obtain rfl : k = l.length := by omega
      have hres : takeN 0 0 l = .inr 2 := by rw [← HT.out, List.drop_length, takeN]
      have HR := hide_ hres
      clear hres
      go_wp2_with (first | (go_at_call 87; refine (Fail_live 2 h'.out (by omega)).mono ?_; rintro e w1 ⟨rfl, hr1, hg1⟩))
      go_ret
      rw [HR.out]
      exact ⟨rfl, hr1, hg1⟩
end Go.Proofs.Ytecbpmnolgkllaa
