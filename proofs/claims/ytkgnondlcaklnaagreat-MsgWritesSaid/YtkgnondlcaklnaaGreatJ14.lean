/-
  Texts of this claim put together: Eval.
-/
import Derived.Test.YtkgnondlcaklnaaGreatJ13
import Derived.Test.YtkgnondlcaklnaaGreatJ08
import Derived.Outline
/-
  Contracts of expr's May, Eval and Holds.
-/
namespace Go.Proofs.YtkgnondlcaklnaaGreat
open Go.RowKit

theorem StkIs.keep {w w' : World} {g : Nat} {S : List Int} (h : StkIs w g S) (hk : w'.heap[g]? = w.heap[g]?) : StkIs w' g S := by
  obtain ⟨cur, hg, h2⟩ := h
  exact ⟨cur, hk.trans hg, h2⟩
theorem StkIs.lt {w : World} {g : Nat} {S : List Int} (h : StkIs w g S) : g < w.heap.size := by
  obtain ⟨cur, hg, _⟩ := h
  exact (Array.getElem?_eq_some_iff.1 hg).1
theorem StkIs.below {w w' : World} {g B : Nat} {S : List Int} (h : StkIs w g S) (hb : Below B w w') (hB : g < B) : StkIs w' g S := h.keep (hb.block g hB)
theorem grown_alloc (w : World) (o : Obj) (row : Option Nat) : w.grownBy (w.alloc o) row := ⟨rfl, rfl, rfl, by simp, fun k hk _ => ((Below.refl w.heap.size w).alloc (Nat.le_refl _) o).block k hk⟩
theorem box_cell (w : World) (a b : Value) (t : TypeId) : (w.alloc (.cells #[a, b] t)).cell? ⟨w.heap.size, 0, none⟩ = some a := by
  rw [cell_of_row _ _ 0 _ _ _ (heap_alloc_new w _)]; rfl

set_option maxHeartbeats 800000 in
theorem May_any (l : List (Int × Int)) (B : Nat) (A : Option Addr) (n c : Nat) (vs : Int) (w : World) (hn : l.length = n) (hc : n ≤ maxLen) (hs : Sees w B A (tv l)) (hB : B ≤ w.heap.size) :
    Calls Tryz.prog 135 #[.slice A n c, .int .i64 vs] w fun e w' => e = .returned (.bool (mayB l vs)) ∧ Below w.heap.size w w' := by
  unfold maxLen at hc
  by_cases h24 : 24 < n
  · have HR := hide_ (show mayB l vs = false from mayB_long (by omega))
    clear hn hs
    go_enter Tryz.func135, Tryz.ntmps135
    go_wp2
    go_ret
    exact ⟨ret_bool HR.out.symm, Below.refl _ _⟩
  have e24 : n ≤ 24 := by omega
  have HS := hide_ hs
  have HN := hide_ hn
  clear hn hs h24
  go_enter Tryz.func135, Tryz.ntmps135
  go_wp2
  go_loopw [5, 14] (fun ct i wr => ∃ k d : Nat, k ≤ n ∧ d ≤ k ∧ i = .int .i64 k ∧ ct = .int .i64 d ∧ Hid (∀ j, j < k → stdB vs (tk l j) = true) ∧ Hid (cnt l k = some d) ∧ Below w.heap.size w wr) (fun _ i _ => n - (intOf i).toNat)
  case atStart => exact ⟨0, 0, Nat.zero_le _, Nat.le_refl _, rfl, rfl, (fun j hj => absurd hj (by omega)), (rfl : _ = _), Below.refl _ _⟩
  case round =>
    obtain ⟨k, d, hk, hd, rfl, rfl, HJ, HD, hb⟩ := hrel
    by_cases hlt : k < n
    · have hs1 := HS.out.below (hb.mono hB)
      obtain ⟨tb, ot, rfl, hab, h0, h1⟩ := hs1.tok (k := k) (by rw [HN.out]; exact hlt)
      have hwz : tb < wr.heap.size := by have := hb.size; omega
      have hstep := cnt_step HD.out
      have hle := takesN_le (tk l k).1
      clear hs1
      cases hst : stdB vs (tk l k) with
      | false =>
        have HR := hide_ (show mayB l vs = false from mayB_odd (k := k) (by rw [HN.out]; exact hlt) hst)
        clear hstep
        generalize tk l k = t at h0 h1 hst hle
        obtain ⟨o, N⟩ := t
        simp only at h0 h1 hle
        have HST := hide_ hst
        clear hst
        go_wp2_with fail
        refine (takes_any o _).mono ?_
        rintro en w2 ⟨rfl, rfl⟩
        go_wp2_with fail
        refine (mayStand_any o N vs _).mono ?_
        rw [HST.out]
        rintro en w2 ⟨rfl, hb2⟩
        go_wp2
        go_ret
        exact ⟨ret_bool HR.out.symm, (hb.alloc hb.size _).trans (hb2.mono (hb.alloc hb.size _).size)⟩
      | true =>
        have HJ2 := hide_ (show ∀ j, j < k + 1 → stdB vs (tk l j) = true from fun j hj => by
          by_cases h : j = k
          · rw [h]; exact hst
          · exact HJ.out j (by omega))
        by_cases hd2 : takesN (tk l k).1 ≤ d
        · rw [if_pos hd2] at hstep
          generalize tk l k = t at h0 h1 hst hle hd2 hstep
          obtain ⟨o, N⟩ := t
          simp only at h0 h1 hle hd2 hstep
          have HST := hide_ hst
          have HT := hide_ hstep
          clear hst hstep
          obtain ⟨q, hq⟩ : ∃ q, takesN o = q := ⟨_, rfl⟩
          rw [hq] at hle hd2
          have HQ := hide_ hq
          clear hq
          go_wp2_with fail
          refine (takes_any o _).mono ?_
          rw [HQ.out]
          rintro en w2 ⟨rfl, rfl⟩
          go_wp2_with fail
          refine (mayStand_any o N vs _).mono ?_
          rw [HST.out]
          rintro en w2 ⟨rfl, hb2⟩
          go_wp2
          go_roundw
          case rel =>
            refine ⟨k + 1, d + 1 - q, by omega, by omega, by go_num, ?_, HJ2, by rw [← HQ.out]; exact HT, (hb.alloc hb.size _).trans (hb2.mono (hb.alloc hb.size _).size)⟩
            exact congrArg (Value.int .i64) (by omega)
          case measure => simp [intOf]; omega
        · rw [if_neg hd2] at hstep
          have HR := hide_ (show mayB l vs = false from mayB_less (k := k + 1) (by rw [HN.out]; exact hlt) hstep)
          clear hstep
          generalize tk l k = t at h0 h1 hst hle hd2
          obtain ⟨o, N⟩ := t
          simp only at h0 h1 hle hd2
          have HST := hide_ hst
          clear hst
          obtain ⟨q, hq⟩ : ∃ q, takesN o = q := ⟨_, rfl⟩
          rw [hq] at hle hd2
          have HQ := hide_ hq
          clear hq
          go_wp2_with fail
          refine (takes_any o _).mono ?_
          rw [HQ.out]
          rintro en w2 ⟨rfl, rfl⟩
          go_wp2_with fail
          refine (mayStand_any o N vs _).mono ?_
          rw [HST.out]
          rintro en w2 ⟨rfl, hb2⟩
          go_wp2
          go_ret
          exact ⟨ret_bool HR.out.symm, (hb.alloc hb.size _).trans (hb2.mono (hb.alloc hb.size _).size)⟩
    · obtain rfl : k = n := by omega
      have hr : ((d : Int) == 1) = mayB l vs := by
        have hN := HN.out
        subst hN
        by_cases h1 : d = 1
        · subst h1
          rw [mayB_mk e24 HJ.out HD.out]
          rfl
        · rw [mayB_count HD.out h1, beq_eq_false_iff_ne]
          omega
      have HR := hide_ hr
      clear hr
      go_wp2
      go_ret
      exact ⟨ret_bool HR.out, hb⟩

/-- what next leaves: the number and what lies beneath it, or none -/
def NextIs (r : Option (List Int)) (w : World) (g : Nat) (e : Ending) (w' : World) : Prop :=
  (∃ v S, r = some (v :: S) ∧ e = .returned (.tuple #[.int .i64 v, .bool true]) ∧ StkIs w' g S ∧ w.grownBy w' (some g)) ∨
  (∃ v, r = none ∧ e = .returned (.tuple #[.int .i64 v, .bool false]) ∧ w.grownBy w' (some g))
theorem NextIs.yes {r : Option (List Int)} {w w' : World} {g : Nat} {v : Int} {S : List Int} (h : r = some (v :: S)) (hs : StkIs w' g S) (hg : w.grownBy w' (some g)) : NextIs r w g (.returned (.tuple #[.int .i64 v, .bool true])) w' := .inl ⟨v, S, h, rfl, hs, hg⟩
theorem NextIs.no {r : Option (List Int)} {w w' : World} {g : Nat} {v : Int} (h : r = none) (hg : w.grownBy w' (some g)) : NextIs r w g (.returned (.tuple #[.int .i64 v, .bool false])) w' := .inr ⟨v, h, rfl, hg⟩

theorem next_any (vars : List Int) (arg o N : Int) (g B : Nat) (V : Option Addr) (m k : Nat) (S : List Int) (w : World) (hm : vars.length = m) (hsv : Sees w B V (iv vars)) (hB : B ≤ g) (hk : StkIs w g S) (hst : stdB m (o, N) = true)
    (hd : takesN o ≤ S.length) (hS : ∀ x ∈ S, I64 x) :
    Calls Tryz.prog 212 #[.pointer (some ⟨g, 0, none⟩), .agg #[.int .u8 o, .int .i64 N], .slice V m k, .int .i64 arg] w (NextIs (stepV vars arg (o, N) S) w g) := by
  have hgl := hk.lt
  have hg0 := grown_alloc w (.cells #[.int .u8 o, .int .i64 N] 203) (some g)
  have hk0 : StkIs (w.alloc (.cells #[.int .u8 o, .int .i64 N] 203)) g S := hk.below ((Below.refl w.heap.size w).alloc (Nat.le_refl _) _) hgl
  have hv0 := hsv.below ((Below.refl B w).alloc (by omega) (.cells #[.int .u8 o, .int .i64 N] 203))
  have HK := hide_ hk0
  have HV := hide_ hv0
  have HG := hide_ hg0
  have HM := hide_ hm
  clear hk0 hv0 hg0 hm hsv hk
  have hle := takesN_le o
  rcases (show takesN o = 0 ∨ takesN o = 1 ∨ takesN o = 2 by omega) with h0 | h0 | h0
  · have HR := hide_ (show stepV vars arg (o, N) S = some (named vars arg (o, N) :: S) by unfold stepV; rw [if_pos h0])
    have H0 := hide_ h0
    have HST := hide_ hst
    clear h0 hst hle hd
    go_enter Tryz.func212, Tryz.ntmps212
    go_wp2_with fail
    refine (takes_any o _).mono ?_
    rw [H0.out]
    rintro en w2 ⟨rfl, rfl⟩
    go_wp2_with fail
    refine (named_any vars arg o N B V m k _ HM.out HV.out (by simp; omega) H0.out HST.out).mono ?_
    rintro en w2 ⟨rfl, hb2⟩
    go_wp2
    go_ret2
    exact NextIs.yes HR.out (HK.out.below hb2 (by simp; omega)) (grown_below HG.out hb2)
  · match S, hd, hS, HK with
    | [], hd, _, _ => exact absurd hd (by rw [h0]; simp)
    | x :: S, _, hS, HK =>
    have HR := hide_ (show stepV vars arg (o, N) (x :: S) = some (tru (decide (x = 0)) :: S) by unfold stepV; rw [if_neg (show ¬takesN o = 0 by omega), if_pos h0])
    have H0 := hide_ h0
    clear h0 hst hle hS hd
    go_enter Tryz.func212, Tryz.ntmps212
    go_wp2_with fail
    refine (takes_any o _).mono ?_
    rw [H0.out]
    rintro en w2 ⟨rfl, rfl⟩
    go_wp2_with fail
    refine (pop_any HK.out).mono ?_
    rintro en w2 ⟨rfl, hk2, hg2⟩
    go_wp2_with fail
    refine (truth_any _ _).mono ?_
    rintro en w3 ⟨rfl, rfl⟩
    go_wp2
    go_ret2
    refine NextIs.yes ?_ hk2 (grown_join HG.out hg2)
    rw [HR.out]
    congr 3
  · match S, hd, hS, HK with
    | [], hd, _, _ => exact absurd hd (by rw [h0]; simp)
    | [_], hd, _, _ => exact absurd hd (by rw [h0]; simp)
    | y :: x :: S, _, hS, HK =>
    have hr : stepV vars arg (o, N) (y :: x :: S) = (two o x y).map (· :: S) := by unfold stepV; rw [if_neg (show ¬takesN o = 0 by omega), if_neg (show ¬takesN o = 1 by omega)]
    have hx : I64 x := hS x (by simp)
    have hy : I64 y := hS y (by simp)
    have ho : 4 ≤ o ∧ o ≤ 10 := by
      obtain ⟨o1, o2, o3, o11⟩ := takes2 h0
      simp only [beq_eq_false_iff_ne] at o1 o2 o3 o11
      unfold stdB at hst
      simp only at hst
      rw [if_neg o1, if_neg o2] at hst
      split at hst
      · omega
      · cases hst
    have hc0 := box_cell w (.int .u8 o) (.int .i64 N) 203
    have hne : w.heap.size ≠ g := by omega
    have HR := hide_ hr
    have H0 := hide_ h0
    have HC := hide_ hc0
    clear h0 hst hle hS hd hr hc0
    go_enter Tryz.func212, Tryz.ntmps212
    go_wp2_with fail
    refine (takes_any o _).mono ?_
    rw [H0.out]
    rintro en w2 ⟨rfl, rfl⟩
    go_wp2_with fail
    refine (pop_any HK.out).mono ?_
    rintro en w2 ⟨rfl, hk2, hg2⟩
    go_wp2_with fail
    refine (pop_any hk2).mono ?_
    rintro en w3 ⟨rfl, hk3, hg3⟩
    have hg23 := grown_join hg2 hg3
    have hc3 : w3.cell? ⟨w.heap.size, 0, none⟩ = some (.int .u8 o) := (World.cell?_of_block (hg23.block w.heap.size (by simp) (by simpa using hne))).trans HC.out
    go_wp2_with fail
    refine (both_any o x y _ ho hx hy).mono ?_
    rintro en w4 ⟨v, r, rfl, hor, rfl⟩
    rcases hor with ⟨rfl, hp⟩ | ⟨rfl, hp⟩
    · have HR2 := hide_ (show stepV vars arg (o, N) (y :: x :: S) = some (v :: S) by rw [HR.out, hp]; rfl)
      clear hp
      go_wp2
      go_ret2
      exact NextIs.yes HR2.out hk3 (grown_join HG.out hg23)
    · have HR2 := hide_ (show stepV vars arg (o, N) (y :: x :: S) = none by rw [HR.out, hp]; rfl)
      clear hp
      go_wp2
      go_ret2
      exact NextIs.no HR2.out (grown_join HG.out hg23)

theorem stk_nil (w : World) : StkIs (w.alloc (.cells (Array.replicate 25 (.int .i64 0)) 260)) w.heap.size [] :=
  ⟨_, heap_alloc_new w _, by simp, by simp, by simp, fun i v h => by simp at h⟩

set_option maxHeartbeats 800000 in
theorem Eval_any (l : List (Int × Int)) (vars : List Int) (arg : Int) (B : Nat) (A V : Option Addr) (n c m k : Nat) (w : World) (hn : l.length = n) (hc : n ≤ maxLen) (hm : vars.length = m)
    (hs : Sees w B A (tv l)) (hsv : Sees w B V (iv vars)) (hB : B ≤ w.heap.size) (hl : ∀ t ∈ l, TokIn t) (hv : ∀ v ∈ vars, I64 v) (ha : I64 arg) :
    Calls Tryz.prog 196 #[.slice A n c, .slice V m k, .int .i64 arg] w fun e w' => e = .returned (.tuple #[.int .i64 (evalR l vars arg).1, .int .i64 (evalR l vars arg).2]) ∧ Below w.heap.size w w' := by
  have HC := hide_ hc
  unfold maxLen at hc
  have HN := hide_ hn
  have HM := hide_ hm
  have HL := hide_ hl
  have HV := hide_ hv
  have HS := hide_ hs
  have HSV := hide_ hsv
  clear hn hm hl hv hs hsv
  cases hb : mayB l m with
  | false =>
    have HR := hide_ (show evalR l vars arg = (0, 3) by unfold evalR; rw [HM.out, hb]; rfl)
    have HB := hide_ hb
    clear hb
    go_enter Tryz.func196, Tryz.ntmps196
    go_wp2_with fail
    refine (May_any l B A n c m _ HN.out HC.out HS.out hB).mono ?_
    rw [HB.out]
    rintro en w1 ⟨rfl, hb1⟩
    go_wp2
    go_ret2
    exact ⟨by rw [HR.out]; exact rfl, hb1⟩
  | true =>
    have ht := mayB_true hb
    have HB := hide_ hb
    have h24 : n ≤ 24 := HN.out ▸ ht.1
    have HT := hide_ (show beg l n = some 0 from HN.out ▸ ht.2.2)
    have HST := hide_ ht.2.1
    have HI := hide_ (fun (e : Nat) (S : List Int) => stk_I64 (e := e) (S := S) (fun t ht => (HL.out t ht).2.2) HV.out ha)
    have HR := hide_ (show evalR l vars arg = match pv l vars arg n with | some v => (v, 0) | none => (0, 18) by unfold evalR; rw [HM.out, HN.out, hb]; rfl)
    have HF := hide_ (stk_of_beg (vars := vars) (arg := arg) n 0 [] HT.out rfl)
    clear hb ht
    go_enter Tryz.func196, Tryz.ntmps196
    go_wp2_with fail
    refine (May_any l B A n c m _ HN.out HC.out HS.out hB).mono ?_
    rw [HB.out]
    rintro en w1 ⟨rfl, hb1⟩
    have hz1 := hb1.size
    go_wp2
    go_loopw [20] (fun i wr => ∃ (j : Nat) (S : List Int), j ≤ n ∧ i = .int .i64 j ∧ Hid (stk l vars arg j = some S) ∧ Hid (StkIs wr w1.heap.size S) ∧ Below w.heap.size w wr) (fun i _ => n - (intOf i).toNat)
    case atStart => exact ⟨0, [], Nat.zero_le _, rfl, (rfl : _ = _), stk_nil w1, hb1.alloc hz1 _⟩
    case round =>
      obtain ⟨j, S, hj, rfl, HSt, HSk, hb⟩ := hrel
      have hgl := HSk.out.lt
      by_cases hlt : j < n
      · have hs1 := HS.out.below (hb.mono hB)
        obtain ⟨tb, ot, rfl, hab, h0, h1⟩ := hs1.tok (k := j) (by rw [HN.out]; exact hlt)
        have hwz : tb < wr.heap.size := by have := hb.size; omega
        have hst := HST.out j (by rw [HN.out]; exact hlt)
        have hd : takesN (tk l j).1 ≤ S.length := by
          have h2 := cnt_step (stk_cnt HSt.out)
          split at h2
          · assumption
          · have h3 := cnt_none h2 (show j + 1 ≤ n by omega)
            rw [cnt_of_beg l n 0 0 HT.out rfl] at h3
            cases h3
        have hstep := stk_step HSt.out
        have HSI := hide_ (HI.out j S (by rw [HN.out]; omega) HSt.out)
        clear hs1
        generalize tk l j = t at h0 h1 hst hd hstep
        obtain ⟨o, N⟩ := t
        simp only at h0 h1 hd
        have hba := hb.alloc hb.size (.cells #[.int .u8 o, .int .i64 N] 203)
        have HK1 := hide_ (HSk.out.below ((Below.refl wr.heap.size wr).alloc (Nat.le_refl _) (.cells #[.int .u8 o, .int .i64 N] 203)) hgl)
        have HV1 := hide_ (HSV.out.below (hba.mono hB))
        have HD := hide_ hd
        have HP := hide_ hstep
        have HT1 := hide_ hst
        have HBA := hide_ hba
        clear hd hstep hst hba
        go_wp2_with fail
        refine (next_any vars arg o N w1.heap.size B V m k S _ HM.out HV1.out (by omega) HK1.out HT1.out HD.out HSI.out).mono ?_
        rintro en w2 (⟨v, S', hr, rfl, hk2, hg2⟩ | ⟨v, hr, rfl, hg2⟩)
        · have HN1 := hide_ (HP.out.trans hr)
          have hlen : S'.length < 24 := by
            have h2 := cnt_le (stk_cnt HN1.out)
            simp at h2
            omega
          clear hr
          go_wp2_with fail
          refine (lay_any v hk2 hlen).mono ?_
          rintro en w3 ⟨rfl, hk3, hg3⟩
          go_wp2
          go_roundw
          case rel => exact ⟨j + 1, v :: S', by omega, by go_num, HN1.out, hk3, HBA.out.grown (grown_join hg2 hg3) HBA.out.size (fun q hq => by injection hq with hq; omega)⟩
          case measure => simp [intOf]; omega
        · have HN1 := hide_ (stk_none (HP.out.trans hr) (show j + 1 ≤ n by omega))
          have HR2 := hide_ (show evalR l vars arg = (0, 18) by
            have h2 := HF.out
            rw [HN1.out] at h2
            cases hp : pv l vars arg n with
            | none => rw [HR.out, hp]
            | some q => rw [hp] at h2; cases h2)
          clear hr
          go_wp2
          go_ret2
          exact ⟨by rw [HR2.out]; exact rfl, HBA.out.grown hg2 HBA.out.size (fun q hq => by injection hq with hq; omega)⟩
      · obtain rfl : j = n := by omega
        have hv : ∃ v, S = [v] ∧ evalR l vars arg = (v, 0) := by
          have h2 := HF.out
          rw [HSt.out] at h2
          cases hp : pv l vars arg j with
          | none => rw [hp] at h2; cases h2
          | some q =>
            rw [hp] at h2
            injection h2 with h2
            exact ⟨q, h2, by rw [HR.out, hp]⟩
        obtain ⟨v, rfl, hr2⟩ := hv
        have HR2 := hide_ hr2
        clear hr2
        go_wp2_with fail
        refine (pop_any HSk.out).mono ?_
        rintro en w2 ⟨rfl, hk2, hg2⟩
        go_wp2
        go_ret2
        exact ⟨by rw [HR2.out]; exact rfl, hb.grown hg2 hb.size (fun q hq => by injection hq with hq; omega)⟩

theorem Holds_any (l : List (Int × Int)) (vars : List Int) (arg : Int) (B : Nat) (A V : Option Addr) (n c m k : Nat) (w : World) (hn : l.length = n) (hc : n ≤ maxLen) (hm : vars.length = m)
    (hs : Sees w B A (tv l)) (hsv : Sees w B V (iv vars)) (hB : B ≤ w.heap.size) (hl : ∀ t ∈ l, TokIn t) (hv : ∀ v ∈ vars, I64 v) (ha : I64 arg) :
    Calls Tryz.prog 195 #[.slice A n c, .slice V m k, .int .i64 arg] w fun e w' => e = .returned (.bool (holdsB l vars arg)) ∧ Below w.heap.size w w' := by
  have HC := hide_ hc
  unfold maxLen at hc
  have HN := hide_ hn
  have HM := hide_ hm
  have HH := hide_ (show holdsB l vars arg = (decide (n = 0) || (decide ((evalR l vars arg).2 = 0) && decide ((evalR l vars arg).1 ≠ 0))) by unfold holdsB; rw [hn])
  clear hn hm
  by_cases h0 : n = 0
  · have HH2 := hide_ (show holdsB l vars arg = true by rw [HH.out, h0]; rfl)
    have e0 : ((n : Int) == 0) = true := by rw [beq_iff_eq]; omega
    clear h0
    go_enter Tryz.func195, Tryz.ntmps195
    go_wp2
    go_ret
    exact ⟨ret_bool HH2.out.symm, Below.refl _ _⟩
  have e0 : ((n : Int) == 0) = false := by rw [beq_eq_false_iff_ne]; omega
  obtain ⟨⟨x, y⟩, hxy⟩ : ∃ q, evalR l vars arg = q := ⟨_, rfl⟩
  have HE := hide_ hxy
  have H0 := hide_ h0
  clear hxy h0
  go_enter Tryz.func195, Tryz.ntmps195
  go_wp2_with fail
  refine (Eval_any l vars arg B A V n c m k _ HN.out HC.out HM.out hs hsv hB hl hv ha).mono ?_
  rw [HE.out]
  rintro en w1 ⟨rfl, hb1⟩
  go_wp2
  all_goals
    go_ret
    refine ⟨ret_bool ?_, hb1⟩
    have h0 := H0.out
    rw [HH.out, HE.out, Bool.eq_iff_iff]
    simp [*]
end Go.Proofs.YtkgnondlcaklnaaGreat
