/-
  Texts of this claim put together: Read2, Row, Nums.
-/
import Derived.Test.YtecbpmnolgkllaaJ21
/-
  Contracts of pack's reader's methods: numbers, whole numbers, rows, the end.
-/
namespace Go.Proofs.Ytecbpmnolgkllaa
open Go.RowKit

theorem takeN_left {n : Nat} {t : List UInt8} : ∀ (l : List UInt8) (i acc : Nat), takeN i acc l = .inl (n, t) → t.length < l.length
  | [], _, _, h => by simp [takeN] at h
  | c :: l, i, acc, h => by
    rw [takeN] at h
    split at h
    · cases h
    · split at h
      · injection h with h
        injection h with _ h
        subst h
        simp
      · have := takeN_left l _ _ h
        simp
        omega
theorem takeN_er {er : Int} : ∀ (l : List UInt8) (i acc : Nat), takeN i acc l = .inr er → er = 2 ∨ er = 3
  | [], _, _, h => by
    simp [takeN] at h
    omega
  | c :: l, i, acc, h => by
    rw [takeN] at h
    split at h
    · injection h with h
      omega
    · split at h
      · cases h
      · exact takeN_er l _ _ h
theorem takeN_lt {n : Nat} {t : List UInt8} : ∀ (l : List UInt8) (i acc : Nat), acc < 128 ^ i → i ≤ 9 → takeN i acc l = .inl (n, t) → n < 18446744073709551616
  | [], _, _, _, _, h => by simp [takeN] at h
  | c :: l, i, acc, ha, hi, h => by
    rw [takeN] at h
    split at h
    · cases h
    · rename_i hbad
      have h1 := num_lt (c.toNat % 128) i (by omega) hi (by omega)
      have h2 := pow_lt9 acc i ha hi
      split at h
      · injection h with h
        injection h with h _
        have h3 := step_lt acc (c.toNat % 128) i ha (by omega)
        by_cases h9 : i = 9
        · subst h9
          have : c.toNat = 1 := by omega
          rw [this] at h
          omega
        · have h4 : 128 ^ (i + 1) ≤ 128 ^ 9 := Nat.pow_le_pow_right (by omega) (by omega)
          omega
      · exact takeN_lt l _ _ (step_lt acc _ i ha (by omega)) (by omega) h

theorem number_err {g : Nat} {l : List UInt8} {er : Int} {w : World} (h : Rdr w g l er) (her : er ≠ 0) : Calls Try.prog 86 #[.pointer (some ⟨g, 0, none⟩)] w fun e w' => e = .returned (.int .u64 0) ∧ w = w' := by
  go_enter Try.func86, Try.ntmps86
  go_wp2_with (refine (takes_err h her).mono ?_; rintro e w1 ⟨rfl, rfl⟩)
  go_ret
  exact ⟨rfl, rfl⟩

/-- a number up to most -/
def takeUp (most : Nat) (l : List UInt8) : (Nat × List UInt8) ⊕ Int :=
  match takeN 0 0 l with
  | .inl (n, t) => if most < n then .inr 6 else .inl (n, t)
  | .inr er => .inr er

set_option maxRecDepth 100000 in
theorem Num_live {g : Nat} {l : List UInt8} {w : World} (x : Nat) (h : Rdr w g l 0) (hl : l.length ≤ 281474976710656) : Calls Try.prog 54 #[.pointer (some ⟨g, 0, none⟩), .int .u64 x] w (Takes w g (takeUp x l)) := by
  rcases ht : takeN 0 0 l with ⟨n, t⟩ | er
  · by_cases hm : x < n
    · have hr : takeUp x l = .inr 6 := by simp [takeUp, ht, hm]
      rw [hr]
      have HT := hide_ ht
      clear hr ht
      go_enter Try.func54, Try.ntmps54
      go_wp2_with fail
      refine (number_live h hl).mono ?_
      rw [HT.out]
      rintro e w1 ⟨rfl, hr1, hg1⟩
      go_wp2_with fail
      refine (Fail_live 6 hr1 (by omega)).mono ?_
      rintro e w2 ⟨rfl, hr2, hg2⟩
      go_wp2
      go_ret
      exact Takes.no rfl hr2 (grown_join hg1 hg2)
    · have hr : takeUp x l = .inl (n, t) := by simp [takeUp, ht, hm]
      rw [hr]
      have HT := hide_ ht
      clear hr ht
      go_enter Try.func54, Try.ntmps54
      go_wp2_with fail
      refine (number_live h hl).mono ?_
      rw [HT.out]
      rintro e w1 ⟨rfl, hr1, hg1⟩
      go_wp2
      go_ret
      exact Takes.ok rfl hr1 hg1
  · have hr : takeUp x l = .inr er := by simp [takeUp, ht]
    rw [hr]
    have HT := hide_ ht
    clear hr ht
    go_enter Try.func54, Try.ntmps54
    go_wp2_with fail
    refine (number_live h hl).mono ?_
    rw [HT.out]
    rintro e w1 ⟨rfl, hr1, hg1⟩
    go_wp2
    go_ret
    exact Takes.no rfl hr1 hg1

theorem Num_err {g : Nat} {l : List UInt8} {er : Int} {w : World} (x : Nat) (h : Rdr w g l er) (her : er ≠ 0) : Calls Try.prog 54 #[.pointer (some ⟨g, 0, none⟩), .int .u64 x] w fun e w' => e = .returned (.int .u64 0) ∧ w = w' := by
  go_enter Try.func54, Try.ntmps54
  go_wp2_with (refine (number_err h her).mono ?_; rintro e w1 ⟨rfl, rfl⟩)
  go_ret
  exact ⟨rfl, rfl⟩

/-- the whole number that a number stands for -/
def unfoldN (n : Nat) : Int := if n % 2 = 1 then -1 - (n / 2 : Nat) else (n / 2 : Nat)
theorem unfold_fold (n : Int) : unfoldN (foldN n) = n := by
  unfold unfoldN foldN
  split <;> split <;> omega

/-- what a call leaves that takes a whole number -/
def TakesI (w : World) (g : Nat) (r : (Nat × List UInt8) ⊕ Int) (e : Ending) (w' : World) : Prop :=
  match r with
  | .inl (n, t) => Leaves w g (.int .i64 (unfoldN n)) t 0 e w'
  | .inr er => Leaves w g (.int .i64 0) [] er e w'

theorem End_live {g : Nat} {l : List UInt8} {er : Int} {w : World} (h : Rdr w g l er) (v : Int) (hv : v = if er = 0 then (if l = [] then 0 else 4) else er) : Calls Try.prog 56 #[.pointer (some ⟨g, 0, none⟩)] w fun e w' => e = .returned (.int .i64 v) ∧ w = w' := by
  have h' := hide_ h
  obtain ⟨A, c, hg, _, _⟩ := h
  have c2 : w.cell? ⟨g, 2, none⟩ = some (.int .i64 er) := by rw [cell_of_row w g 2 _ _ _ hg]; rfl
  have c1 : w.cell? ⟨g, 1, none⟩ = some (.slice A l.length c) := by rw [cell_of_row w g 1 _ _ _ hg]; rfl
  clear hg
  by_cases her : er = 0
  · subst her
    rw [if_pos rfl] at hv
    by_cases hl : l = []
    · subst hl
      rw [if_pos rfl] at hv
      subst hv
      go_enter Try.func56, Try.ntmps56
      go_wp2_with (refine (isNone_live h'.out).mono ?_; rintro e w1 ⟨rfl, rfl⟩)
      go_ret
      exact ⟨rfl, rfl⟩
    · rw [if_neg hl] at hv
      subst hv
      have hpos : 0 < l.length := List.length_pos_iff.2 hl
      go_enter Try.func56, Try.ntmps56
      go_wp2_with (refine (isNone_live h'.out).mono ?_; rintro e w1 ⟨rfl, rfl⟩)
      go_ret
      exact ⟨rfl, rfl⟩
  · rw [if_neg her] at hv
    subst hv
    have hb : (v == 0) = false := beq_eq_false_iff_ne.2 her
    clear her
    go_enter Try.func56, Try.ntmps56
    go_wp2_with (refine (isNone_live h'.out).mono ?_; rintro e w1 ⟨rfl, rfl⟩)
    go_ret
    exact ⟨rfl, rfl⟩
end Go.Proofs.Ytecbpmnolgkllaa

/-
  Contracts of pack's reader: a row; and what is put is what is taken, as plain facts on lists.
-/
namespace Go.Proofs.Ytecbpmnolgkllaa
open Go.RowKit

/-- a row of at most so many bytes -/
def takeR (most : Int) (l : List UInt8) : (List UInt8 × List UInt8) ⊕ Int :=
  match takeN 0 0 l with
  | .inr er => .inr er
  | .inl (n, t) => if max most 0 < (n : Int) then .inr 4 else if t.length < n then .inr 2 else .inl (t.take n, t.drop n)

/-- what a call leaves that takes a row -/
def TakesR (w : World) (g : Nat) (r : (List UInt8 × List UInt8) ⊕ Int) (e : Ending) (w' : World) : Prop :=
  match r with
  | .inl (row, t) => ∃ A c, Leaves w g (.slice A row.length c) t 0 e w' ∧ w'.ownsRow w.heap.size 5 1 (.slice A row.length c) row.length (bv row)
  | .inr er => Leaves w g (.slice none 0 0) [] er e w'

theorem Rdr.lt {w : World} {g : Nat} {l : List UInt8} {er : Int} (h : Rdr w g l er) : g < w.heap.size := by
  obtain ⟨A, c, hg, _, _⟩ := h
  exact (Array.getElem?_eq_some_iff.1 hg).1
theorem Rdr.below {w w' : World} {g : Nat} {l : List UInt8} {er : Int} (h : Rdr w g l er) (hb : Below w.heap.size w w') : Rdr w' g l er := by
  have hlt := h.lt
  obtain ⟨A, c, hg, hs, hc⟩ := h
  exact ⟨A, c, (hb.block g hlt).trans hg, hs.below (hb.mono (by omega)), hc⟩

theorem copyOf_n (l : List UInt8) (B : Nat) (A : Option Addr) (n c room : Nat) (w : World) (hn : l.length = n) (hs : Sees w B A (bv l)) (hB : B ≤ w.heap.size) (hr : n + room ≤ 281474976710656) :
    Calls Try.prog 85 #[.slice A n c, .int .i64 room] w fun e w' => e = .returned (.slice (some ⟨w.heap.size, 0, none⟩) n (n + room)) ∧
      w'.ownsRow w.heap.size 5 1 (.slice (some ⟨w.heap.size, 0, none⟩) n (n + room)) n (bv l) ∧ Below w.heap.size w w' ∧ w'.heap.size = w.heap.size + 1 := by
  subst hn
  exact copyOf_any l B A c room w hs hB hr

theorem TakesR.mk {w w1 w3 : World} {g n c1 c' : Nat} {t : List UInt8} {A1 A' : Option Addr} (hn : n ≤ t.length) (hg : w1.heap[g]? = some (.cells #[.bool true, .slice A1 t.length c1, .int .i64 0] 142 (0, 0)))
    (hs : Sees w1 g A1 (bv t)) (hc : t.length ≤ c1) (hA : A' = if c1 = n then A1 else A1.map (·.add n)) (hc' : c1 - n = c') (hg1 : w.grownBy w1 (some g)) (hlt : g < w1.heap.size)
    (hown : w3.ownsRow w1.heap.size 5 1 (.slice (some ⟨w1.heap.size, 0, none⟩) n (n + 0)) n (bv (t.take n))) (hb : Below w1.heap.size w1 w3) :
    TakesR w g (.inl (t.take n, t.drop n)) (.returned (.slice (some ⟨w1.heap.size, 0, none⟩) n n)) (w3.setCell ⟨g, 1, none⟩ (.slice A' (t.length - n) c')) := by
  have hl : (t.take n).length = n := by simp; omega
  refine ⟨some ⟨w1.heap.size, 0, none⟩, n, ⟨by rw [hl], Rdr_cut ((hb.block g hlt).trans hg) (hs.below (hb.mono (by omega))) hc hA hn rfl hc', grown_set (grown_below hg1 hb) _ _⟩, ?_⟩
  rw [hl]
  exact own_mono (ownsRow_setCell_below hown (a := ⟨g, 1, none⟩) hlt _) hg1.size

theorem Row_err {g : Nat} {l : List UInt8} {er : Int} {w : World} (x : Value) (h : Rdr w g l er) (her : er ≠ 0) : Calls Try.prog 55 #[.pointer (some ⟨g, 0, none⟩), x] w fun e w' => e = .returned (.slice none 0 0) ∧ w = w' := by
  go_enter Try.func55, Try.ntmps55
  go_wp2_with (first | (go_at_call 86; refine (number_err h her).mono ?_; rintro e w1 ⟨rfl, rfl⟩) | (go_at_call 88; refine (takes_err h her).mono ?_; rintro e w1 ⟨rfl, rfl⟩))
  go_ret
  exact ⟨rfl, rfl⟩

set_option maxRecDepth 100000 in
set_option maxHeartbeats 400000 in
theorem Row_live {g : Nat} {l : List UInt8} {w : World} (x : Int) (h : Rdr w g l 0) (hl : l.length ≤ 281474976710656) (hx1 : -9223372036854775808 ≤ x) (hx2 : x ≤ 9223372036854775807) :
    Calls Try.prog 55 #[.pointer (some ⟨g, 0, none⟩), .int .i64 x] w (TakesR w g (takeR x l)) := by
  rcases ht : takeN 0 0 l with ⟨n, t⟩ | er
  · have hn := takeN_lt l 0 0 (by simp) (by omega) ht
    have htl := takeN_left l 0 0 ht
    by_cases h4 : max x 0 < (n : Int)
    · have hr : takeR x l = .inr 4 := by simp [takeR, ht, h4]
      rw [hr]
      have HT := hide_ ht
      clear hr ht
      go_enter Try.func55, Try.ntmps55
      go_wp2_with fail
      refine (number_live h hl).mono ?_
      rw [HT.out]
      rintro e w1 ⟨rfl, hr1, hg1⟩
      go_wp2_with (first | (go_at_call 88; refine (takes_live hr1).mono ?_; rintro e w2 ⟨rfl, rfl⟩) | (go_at_call 87; refine (Fail_live 4 hr1 (by omega)).mono ?_; rintro e w2 ⟨rfl, hr2, hg2⟩))
      all_goals go_ret
      all_goals exact ⟨rfl, hr2, grown_join hg1 hg2⟩
    · by_cases h2 : t.length < n
      · have hr : takeR x l = .inr 2 := by simp [takeR, ht, h4, h2]
        rw [hr]
        have HT := hide_ ht
        clear hr ht
        go_enter Try.func55, Try.ntmps55
        go_wp2_with fail
        refine (number_live h hl).mono ?_
        rw [HT.out]
        rintro e w1 ⟨rfl, hr1, hg1⟩
        have hr1' := hide_ hr1
        obtain ⟨A1, c1, hgg, hs1, hc1⟩ := hr1
        have k1 : w1.cell? ⟨g, 1, none⟩ = some (.slice A1 t.length c1) := by rw [cell_of_row w1 g 1 _ _ _ hgg]; rfl
        clear hgg
        go_wp2_with (first | (go_at_call 88; refine (takes_live hr1'.out).mono ?_; rintro e w2 ⟨rfl, rfl⟩) | (go_at_call 87; refine (Fail_live 2 hr1'.out (by omega)).mono ?_; rintro e w2 ⟨rfl, hr2, hg2⟩))
        all_goals go_ret
        all_goals exact ⟨rfl, hr2, grown_join hg1 hg2⟩
      · have hr : takeR x l = .inl (t.take n, t.drop n) := by simp [takeR, ht, h4, h2]
        rw [hr]
        have HT := hide_ ht
        clear hr ht
        go_enter Try.func55, Try.ntmps55
        go_wp2_with fail
        refine (number_live h hl).mono ?_
        rw [HT.out]
        rintro e w1 ⟨rfl, hr1, hg1⟩
        have hr1' := hide_ hr1
        obtain ⟨A1, c1, hgg, hs1, hc1⟩ := hr1
        have k1 : w1.cell? ⟨g, 1, none⟩ = some (.slice A1 t.length c1) := by rw [cell_of_row w1 g 1 _ _ _ hgg]; rfl
        have f1 : w1.frozen? ⟨g, 1, none⟩ = false := by simp [World.frozen?, hgg]
        have HG := hide_ hgg
        clear hgg
        go_wp2_with ((go_at_call 88; refine (takes_live hr1'.out).mono ?_; rintro e w2 ⟨rfl, rfl⟩))
        all_goals refine (copyOf_n (t.take n) w1.heap.size A1 n c1 0 w1 (by simp; omega) (by rw [bv_take]; exact (hs1.more (Nat.le_of_lt hr1'.out.lt)).take n) (Nat.le_refl _) (by omega)).mono ?_
        all_goals rintro e w3 ⟨rfl, hown3, hb3, hz3⟩
        all_goals have Z3 := hide_ hz3
        all_goals clear hz3
        all_goals have k3 := (hb3.cell (p := ⟨g, 1, none⟩) hr1'.out.lt).trans k1
        all_goals have f3 := (hb3.frozen (p := ⟨g, 1, none⟩) hr1'.out.lt).trans f1
        all_goals go_wp2
        all_goals go_ret
        all_goals refine TakesR.mk (by omega) HG.out hs1 hc1 ?_ ?_ hg1 hr1'.out.lt hown3 hb3
        all_goals first | (rw [if_pos ‹c1 = n›]; done) | (rw [if_neg ‹¬c1 = n›]; done) | omega
  · have hr : takeR x l = .inr er := by simp [takeR, ht]
    rw [hr]
    have her : er ≠ 0 := by rcases takeN_er l 0 0 ht with rfl | rfl <;> omega
    have HT := hide_ ht
    clear hr ht
    go_enter Try.func55, Try.ntmps55
    go_wp2_with fail
    refine (number_live h hl).mono ?_
    rw [HT.out]
    rintro e w1 ⟨rfl, hr1, hg1⟩
    go_wp2_with (refine (takes_err hr1 her).mono ?_; rintro e w2 ⟨rfl, rfl⟩)
    go_ret
    exact ⟨rfl, hr1, hg1⟩
end Go.Proofs.Ytecbpmnolgkllaa

/-
  Plain facts on lists of bytes: what is put is taken; what is cut off is short.
-/
namespace Go.Proofs.Ytecbpmnolgkllaa

theorem pow9 (i : Nat) (x : Nat) (hi : i ≤ 9) (hx : x * 128 ^ i < 18446744073709551616) (h9 : i = 9) : x ≤ 1 := by
  subst h9
  omega
theorem toNat_of {n : Nat} (h : n < 256) : (UInt8.ofNat n).toNat = n := by simp; omega

theorem takeN_num (t : List UInt8) : ∀ (x i acc : Nat), i ≤ 9 → x * 128 ^ i < 18446744073709551616 → (i = 0 ∨ 0 < x) → takeN i acc (numB x ++ t) = .inl (acc + x * 128 ^ i, t) := by
  intro x
  induction x using Nat.strongRecOn with
  | _ x ih =>
    intro i acc hi hx h0
    have h9 := pow9 i x hi hx
    by_cases hs : x < 128
    · rw [numB_small hs, List.singleton_append, takeN, toNat_of (by omega), if_neg (by omega), if_pos hs, Nat.mod_eq_of_lt hs]
    · have e1 : x % 128 * 128 ^ i + x / 128 * 128 ^ (i + 1) = x * 128 ^ i := by
        rw [Nat.pow_succ, Nat.mul_comm (128 ^ i) 128, ← Nat.mul_assoc, ← Nat.add_mul]
        congr 1
        omega
      rw [numB_big (by omega), List.cons_append, takeN, toNat_of (by omega), if_neg (by omega), if_neg (by omega), ih (x / 128) (by omega) (i + 1) _ (by omega) (by omega) (by omega)]
      congr 2
      rw [show (x % 128 + 128) % 128 = x % 128 by omega]
      omega

theorem takeN_cut : ∀ (x i acc k : Nat), i ≤ 9 → x * 128 ^ i < 18446744073709551616 → (i = 0 ∨ 0 < x) → k < (numB x).length → takeN i acc ((numB x).take k) = .inr 2 := by
  intro x
  induction x using Nat.strongRecOn with
  | _ x ih =>
    intro i acc k hi hx h0 hk
    have h9 := pow9 i x hi hx
    rcases k with _ | k
    · rw [List.take_zero, takeN]
    · by_cases hs : x < 128
      · rw [numB_small hs] at hk
        simp at hk
      · have e1 : x % 128 * 128 ^ i + x / 128 * 128 ^ (i + 1) = x * 128 ^ i := by
          rw [Nat.pow_succ, Nat.mul_comm (128 ^ i) 128, ← Nat.mul_assoc, ← Nat.add_mul]
          congr 1
          omega
        rw [numB_big (by omega), List.length_cons] at hk
        rw [numB_big (by omega), List.take_succ_cons, takeN, toNat_of (by omega), if_neg (by omega), if_neg (by omega), ih (x / 128) (by omega) (i + 1) _ k (by omega) (by omega) (by omega) (by omega)]

theorem takeN_put (x : Nat) (t : List UInt8) (hx : x < 18446744073709551616) : takeN 0 0 (numB x ++ t) = .inl (x, t) := by
  rw [takeN_num t x 0 0 (by omega) (by simpa using hx) (.inl rfl)]
  simp
theorem takeN_short (x k : Nat) (hx : x < 18446744073709551616) (hk : k < (numB x).length) : takeN 0 0 ((numB x).take k) = .inr 2 :=
  takeN_cut x 0 0 k (by omega) (by simpa using hx) (.inl rfl) hk
theorem takeUp_put (x most : Nat) (t : List UInt8) (hx : x < 18446744073709551616) (hm : x ≤ most) : takeUp most (numB x ++ t) = .inl (x, t) := by
  rw [takeUp, takeN_put x t hx]
  simp only
  rw [if_neg (by omega)]
theorem takeUp_short (x k most : Nat) (hx : x < 18446744073709551616) (hk : k < (numB x).length) : takeUp most ((numB x).take k) = .inr 2 := by
  rw [takeUp, takeN_short x k hx hk]
theorem takeR_put (row t : List UInt8) (most : Int) (hr : row.length < 18446744073709551616) (hm : (row.length : Int) ≤ max most 0) : takeR most (rowB row ++ t) = .inl (row, t) := by
  rw [takeR, rowB, List.append_assoc, takeN_put _ _ hr]
  simp only
  rw [if_neg (by omega), if_neg (by simp)]
  simp
theorem takeR_short (row : List UInt8) (most : Int) (k : Nat) (hr : row.length < 18446744073709551616) (hm : (row.length : Int) ≤ max most 0) (hk : k < (rowB row).length) : takeR most ((rowB row).take k) = .inr 2 := by
  rw [takeR, rowB, List.take_append]
  by_cases h : k < (numB row.length).length
  · rw [Nat.sub_eq_zero_of_le (by omega), List.take_zero, List.append_nil, takeN_short _ k hr h]
  · rw [List.take_of_length_le (by omega), takeN_put _ _ hr]
    simp only
    rw [rowB, List.length_append] at hk
    rw [if_neg (by omega), if_pos (by simp; omega)]
end Go.Proofs.Ytecbpmnolgkllaa
