/-
  Contracts of the reference's May, Eval and Holds.
-/
import Derived.Test.YtkjgplcfoihohaaRefExpr
import Derived.Outline
namespace Go.Proofs.Ytkjgplcfoihohaa
open Go.RowKit

theorem ret_bool {a b : Bool} (h : a = b) : Ending.returned (.bool a) = .returned (.bool b) := by rw [h]
theorem std_yes {vs o N : Int} (h : stdB vs (o, N) = true) : o = 1 ∨ (o = 2 ∧ 0 ≤ N ∧ N < vs) ∨ (3 ≤ o ∧ o ≤ 11 ∧ N = 0) := by
  unfold stdB at h
  simp only at h
  split at h
  · exact .inl ‹_›
  · split at h
    · exact .inr (.inl ⟨‹_›, by simpa using h⟩)
    · split at h
      · rename_i h3
        exact .inr (.inr ⟨h3.1, h3.2, by simpa using h⟩)
      · cases h
theorem std_no {vs o N : Int} (h : stdB vs (o, N) = false) : o < 1 ∨ 11 < o ∨ (o = 2 ∧ N < 0) ∨ (o = 2 ∧ 0 ≤ N ∧ vs ≤ N) ∨ (3 ≤ o ∧ o ≤ 11 ∧ N ≠ 0) := by
  unfold stdB at h
  simp only at h
  split at h
  · cases h
  · split at h
    · have : ¬(0 ≤ N ∧ N < vs) := by simpa using h
      omega
    · split at h
      · have : N ≠ 0 := by simpa using h
        omega
      · omega

set_option maxHeartbeats 800000 in
theorem refMay_any (l : List (Int × Int)) (B : Nat) (A : Option Addr) (n c : Nat) (vs : Int) (w : World) (hn : l.length = n) (hc : n ≤ maxLen) (hs : Sees w B A (tv l)) (hB : B ≤ w.heap.size) (hl : ∀ t ∈ l, TokIn t) :
    Calls Try.prog 80 #[.slice A n c, .int .i64 vs] w fun e w' => e = .returned (.bool (mayB l vs)) ∧ Below w.heap.size w w' := by
  have HC := hide_ hc
  unfold maxLen at hc
  by_cases h0 : n = 0
  · have HR := hide_ (show mayB l vs = false from mayB_count (c := 0) (by rw [hn, h0]; rfl) (by omega))
    have e0 : ((n : Int) == 0) = true := by rw [beq_iff_eq]; omega
    clear hn hl hs h0
    go_enter Try.func80, Try.ntmps80
    go_wp2
    go_ret
    exact ⟨ret_bool HR.out.symm, Below.refl _ _⟩
  by_cases h24 : 24 < n
  · have HR := hide_ (show mayB l vs = false from mayB_long (by omega))
    have e0 : ((n : Int) == 0) = false := beq_eq_false_iff_ne.2 (by omega)
    clear hn hl hs h0
    go_enter Try.func80, Try.ntmps80
    go_wp2
    go_ret
    exact ⟨ret_bool HR.out.symm, Below.refl _ _⟩
  have e0 : ((n : Int) == 0) = false := beq_eq_false_iff_ne.2 (by omega)
  have e24 : n ≤ 24 := by omega
  have hp : 0 < n := by omega
  have HL := hide_ hl
  have HS := hide_ hs
  have HN := hide_ hn
  clear hn hl hs h0 h24
  go_enter Try.func80, Try.ntmps80
  go_wp2
  go_loopw [17] (fun i wr => ∃ k : Nat, k ≤ n ∧ i = .int .i64 k ∧ Hid (∀ j, j < k → stdB vs (tk l j) = true) ∧ Below w.heap.size w wr) (fun i _ => n - (intOf i).toNat)
  case atStart => exact ⟨0, Nat.zero_le _, rfl, (fun j hj => absurd hj (by omega)), Below.refl _ _⟩
  case round =>
    obtain ⟨k, hk, rfl, HJ, hb⟩ := hrel
    have hs1 := HS.out.below (hb.mono hB)
    by_cases hlt : k < n
    · obtain ⟨tb, ot, rfl, hab, h0, h1⟩ := hs1.tok (k := k) (by rw [HN.out]; exact hlt)
      have hwz : tb < wr.heap.size := by have := hb.size; omega
      clear hs1
      cases hst : stdB vs (tk l k) with
      | true =>
        have HJ2 := hide_ (show ∀ j, j < k + 1 → stdB vs (tk l j) = true from fun j hj => by
          by_cases h : j = k
          · rw [h]; exact hst
          · exact HJ.out j (by omega))
        generalize tk l k = t at h0 h1 hst
        obtain ⟨o, N⟩ := t
        simp only at h0 h1
        have hy := std_yes hst
        clear hst
        rcases hy with rfl | ⟨rfl, hN1, hN2⟩ | ⟨ho1, ho2, rfl⟩
        · go_wp2
          go_roundw
          case rel => exact ⟨k + 1, by omega, by go_num, HJ2, hb.alloc hb.size _⟩
          case measure => simp [intOf]; omega
        · go_wp2
          go_roundw
          case rel => exact ⟨k + 1, by omega, by go_num, HJ2, hb.alloc hb.size _⟩
          case measure => simp [intOf]; omega
        · have ho3 : 2 < o := by omega
          have ho4 : (o == 2) = false := beq_eq_false_iff_ne.2 (by omega)
          go_wp2
          go_roundw
          case rel => exact ⟨k + 1, by omega, by go_num, HJ2, hb.alloc hb.size _⟩
          case measure => simp [intOf]; omega
      | false =>
        have HR := hide_ (show mayB l vs = false from mayB_odd (k := k) (by rw [HN.out]; exact hlt) hst)
        generalize tk l k = t at h0 h1 hst
        obtain ⟨o, N⟩ := t
        simp only at h0 h1
        have hy := std_no hst
        clear hst
        rcases hy with ho | ho | ⟨rfl, hN1⟩ | ⟨rfl, hN1, hN2⟩ | ⟨ho1, ho2, hN⟩
        · go_wp2
          go_ret
          exact ⟨ret_bool HR.out.symm, hb.alloc hb.size _⟩
        · go_wp2
          go_ret
          exact ⟨ret_bool HR.out.symm, hb.alloc hb.size _⟩
        · go_wp2
          go_ret
          exact ⟨ret_bool HR.out.symm, hb.alloc hb.size _⟩
        · go_wp2
          go_ret
          exact ⟨ret_bool HR.out.symm, hb.alloc hb.size _⟩
        · have ho3 : 2 < o := by omega
          have ho4 : (o == 2) = false := beq_eq_false_iff_ne.2 (by omega)
          have hN2 : (N != 0) = true := by simpa using hN
          clear hN
          go_wp2
          go_ret
          exact ⟨ret_bool HR.out.symm, hb.alloc hb.size _⟩
    · obtain rfl : k = n := by omega
      have hr : ∃ q, begI l k = q ∧ (q == 0) = mayB l vs := by
        refine ⟨_, rfl, ?_⟩
        have hN := HN.out
        subst hN
        by_cases hbg : beg l l.length = some 0
        · rw [mayB_mk e24 HJ.out ((cnt_one l _).2 hbg)]
          unfold begI
          rw [hbg]
          rfl
        · rw [mayB_beg hbg]
          unfold begI
          cases hq : beg l l.length with
          | none => rfl
          | some b =>
            rw [hq] at hbg
            simp only [beq_eq_false_iff_ne]
            intro h
            apply hbg
            congr 1
            omega
      obtain ⟨q, hq, hqm⟩ := hr
      have HQ := hide_ hq
      have HM := hide_ hqm
      clear hq hqm
      go_wp2_with fail
      refine (begins_any l B _ k c _ HN.out HC.out hs1 HL.out k _ rfl (Nat.le_refl _)).mono ?_
      rw [HQ.out]
      rintro en w2 ⟨rfl, rfl⟩
      go_wp2
      go_ret
      exact ⟨ret_bool HM.out, hb⟩

theorem refEval_any (l : List (Int × Int)) (vars : List Int) (arg : Int) (B : Nat) (A V : Option Addr) (n c m k : Nat) (w : World) (hn : l.length = n) (hc : n ≤ maxLen) (hm : vars.length = m)
    (hs : Sees w B A (tv l)) (hsv : Sees w B V (iv vars)) (hB : B ≤ w.heap.size) (hl : ∀ t ∈ l, TokIn t) (hv : ∀ v ∈ vars, I64 v) (ha : I64 arg) :
    Calls Try.prog 44 #[.slice A n c, .slice V m k, .int .i64 arg] w fun e w' => e = .returned (.tuple #[.int .i64 (evalR l vars arg).1, .int .i64 (evalR l vars arg).2]) ∧ Below w.heap.size w w' := by
  have HC := hide_ hc
  unfold maxLen at hc
  have HN := hide_ hn
  have HM := hide_ hm
  have HL := hide_ hl
  have HV := hide_ hv
  have HS := hide_ hs
  have HSV := hide_ hsv
  clear hn hm hl hv hs hsv
  cases hb : mayB l m with
  | false =>
    have HR := hide_ (show evalR l vars arg = (0, 3) by unfold evalR; rw [HM.out, hb]; rfl)
    have HB := hide_ hb
    clear hb
    go_enter Try.func44, Try.ntmps44
    go_wp2_with fail
    refine (refMay_any l B A n c m _ HN.out HC.out HS.out hB HL.out).mono ?_
    rw [HB.out]
    rintro en w1 ⟨rfl, hb1⟩
    go_wp2
    go_ret2
    exact ⟨by rw [HR.out]; exact rfl, hb1⟩
  | true =>
    have ht := mayB_true hb
    have HB := hide_ hb
    have HT := hide_ (show beg l n = some 0 from HN.out ▸ ht.2.2)
    have HST := hide_ ht.2.1
    have HR := hide_ (show evalR l vars arg = match pv l vars arg n with | some v => (v, 0) | none => (0, 18) by unfold evalR; rw [HM.out, HN.out, hb]; rfl)
    clear hb ht
    go_enter Try.func44, Try.ntmps44
    go_wp2_with fail
    refine (refMay_any l B A n c m _ HN.out HC.out HS.out hB HL.out).mono ?_
    rw [HB.out]
    rintro en w1 ⟨rfl, hb1⟩
    have HS1 := hide_ (HS.out.below (hb1.mono hB))
    have HV1 := hide_ (HSV.out.below (hb1.mono hB))
    have hz1 := hb1.size
    go_wp2_with fail
    refine (part_any l vars arg B A V n c m k HN.out HC.out HM.out HL.out HV.out ha HST.out n 0 _ _ rfl (Nat.le_refl _) HT.out HS1.out HV1.out (by omega)).mono ?_
    rintro en w2 ⟨v, r, rfl, hor, hb2⟩
    rcases hor with ⟨rfl, hp⟩ | ⟨rfl, hp⟩
    · have HR2 := hide_ (show evalR l vars arg = (v, 0) by rw [HR.out, hp])
      clear hp
      go_wp2
      go_ret2
      exact ⟨by rw [HR2.out]; exact rfl, hb1.trans (hb2.mono hb1.size)⟩
    · have HR2 := hide_ (show evalR l vars arg = (0, 18) by rw [HR.out, hp])
      clear hp
      go_wp2
      go_ret2
      exact ⟨by rw [HR2.out]; exact rfl, hb1.trans (hb2.mono hb1.size)⟩

theorem refHolds_any (l : List (Int × Int)) (vars : List Int) (arg : Int) (B : Nat) (A V : Option Addr) (n c m k : Nat) (w : World) (hn : l.length = n) (hc : n ≤ maxLen) (hm : vars.length = m)
    (hs : Sees w B A (tv l)) (hsv : Sees w B V (iv vars)) (hB : B ≤ w.heap.size) (hl : ∀ t ∈ l, TokIn t) (hv : ∀ v ∈ vars, I64 v) (ha : I64 arg) :
    Calls Try.prog 85 #[.slice A n c, .slice V m k, .int .i64 arg] w fun e w' => e = .returned (.bool (holdsB l vars arg)) ∧ Below w.heap.size w w' := by
  have HC := hide_ hc
  unfold maxLen at hc
  have HN := hide_ hn
  have HM := hide_ hm
  have HH := hide_ (show holdsB l vars arg = (decide (n = 0) || (decide ((evalR l vars arg).2 = 0) && decide ((evalR l vars arg).1 ≠ 0))) by unfold holdsB; rw [hn])
  clear hn hm
  obtain ⟨⟨x, y⟩, hxy⟩ : ∃ q, evalR l vars arg = q := ⟨_, rfl⟩
  have HE := hide_ hxy
  clear hxy
  go_enter Try.func85, Try.ntmps85
  go_wp2_with fail
  refine (refEval_any l vars arg B A V n c m k _ HN.out HC.out HM.out hs hsv hB hl hv ha).mono ?_
  rw [HE.out]
  rintro en w1 ⟨rfl, hb1⟩
  go_wp2
  all_goals
    go_ret
    refine ⟨ret_bool ?_, hb1⟩
    rw [HH.out, HE.out, Bool.eq_iff_iff]
    simp [*]
end Go.Proofs.Ytkjgplcfoihohaa
