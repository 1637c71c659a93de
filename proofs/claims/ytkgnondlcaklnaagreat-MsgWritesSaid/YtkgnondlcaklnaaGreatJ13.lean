/-
  Texts of this claim put together: RefExpr, RefMay, Expr.
-/
import Derived.Test.YtkgnondlcaklnaaGreatJ08
import Derived.Test.YtkgnondlcaklnaaGreatJ10
import Derived.Test.YtkgnondlcaklnaaGreatJ03
import Derived.Outline
/-
  Contracts of the reference's functions on formulas.
-/
namespace Go.Proofs.YtkgnondlcaklnaaGreat
open Go.RowKit

/-- where a part begins, or -1 -/
def begI (l : List (Int × Int)) (e : Nat) : Int := match beg l e with | some b => (b : Int) | none => -1

theorem begins_any (l : List (Int × Int)) (B : Nat) (A : Option Addr) (n c : Nat) (w : World) (hn : l.length = n) (hc : n ≤ maxLen) (hs : Sees w B A (tv l)) (hl : ∀ t ∈ l, TokIn t) :
    ∀ (e : Nat) (x : Int), x = (e : Int) - 1 → e ≤ n → Calls Tryz.prog 152 #[.slice A n c, .int .i64 x] w fun en w' => en = .returned (.int .i64 (begI l e)) ∧ w = w' := by
  unfold maxLen at hc
  intro e
  induction e using Nat.strongRecOn with
  | ind e ih =>
    intro x hx he
    have IH := hide_ ih
    have HL := hide_ hl
    clear ih hl
    cases e with
    | zero =>
      have h0 : x < 0 := by omega
      have HR := hide_ (show begI l 0 = -1 by unfold begI; rw [beg_zero])
      clear hx
      go_enter Tryz.func152, Tryz.ntmps152
      go_wp2
      go_ret
      exact ⟨ret_i64 HR.out.symm, rfl⟩
    | succ e =>
      obtain rfl : x = (e : Int) := by omega
      clear hx
      obtain ⟨tb, ot, rfl, hab, h0, h1⟩ := hs.tok (k := e) (by omega)
      have hle := takesN_le (tk l e).1
      rcases (show takesN (tk l e).1 = 0 ∨ takesN (tk l e).1 = 1 ∨ takesN (tk l e).1 = 2 by omega) with hk | hk | hk
      · have HR := hide_ (show begI l (e + 1) = e by unfold begI; rw [beg_leaf hk])
        have h3 : (tk l e).1 = 1 ∨ (tk l e).1 = 2 ∨ (tk l e).1 = 3 := by
          unfold takesN at hk
          split at hk
          · assumption
          · split at hk <;> omega
        clear hk hle
        have HN := hide_ hn
        clear hn
        generalize (tk l e).1 = o at h0 h3
        rcases h3 with rfl | rfl | rfl
        all_goals
          go_enter Tryz.func152, Tryz.ntmps152
          go_wp2
          go_ret
          exact ⟨ret_i64 HR.out.symm, rfl⟩
      · have HR := hide_ (show begI l (e + 1) = begI l e by unfold begI; rw [beg_not hk])
        have h3 : (tk l e).1 = 11 := by
          unfold takesN at hk
          split at hk
          · cases hk
          · split at hk
            · assumption
            · cases hk
        clear hk hle
        have HN := hide_ hn
        clear hn
        generalize (tk l e).1 = o at h0 h3
        subst h3
        go_enter Tryz.func152, Tryz.ntmps152
        go_wp2_with fail
        refine (IH.out e (by omega) _ rfl (by omega)).mono ?_
        rintro en w1 ⟨rfl, rfl⟩
        go_wp2
        go_ret
        exact ⟨ret_i64 HR.out.symm, rfl⟩
      · have hb1 : ((tk l e).1 == 1) = false ∧ ((tk l e).1 == 2) = false ∧ ((tk l e).1 == 3) = false ∧ ((tk l e).1 == 11) = false := by
          unfold takesN at hk
          split at hk
          · cases hk
          · split at hk
            · cases hk
            · simp only [beq_eq_false_iff_ne]
              omega
        obtain ⟨o1, o2, o3, o11⟩ := hb1
        have HN := hide_ hn
        clear hn hle
        cases hb : beg l e with
        | none =>
          have HR := hide_ (show begI l (e + 1) = -1 by unfold begI; rw [beg_two hk, hb]; rfl)
          have HB := hide_ (show begI l e = -1 by unfold begI; rw [hb])
          clear hk hb
          generalize (tk l e).1 = o at h0 o1 o2 o3 o11
          go_enter Tryz.func152, Tryz.ntmps152
          go_wp2_with fail
          refine (IH.out e (by omega) _ rfl (by omega)).mono ?_
          rw [HB.out]
          rintro en w1 ⟨rfl, rfl⟩
          go_wp2
          go_ret
          exact ⟨ret_i64 HR.out.symm, rfl⟩
        | some b =>
          have hbl := beg_lt l e b hb
          have HR := hide_ (show begI l (e + 1) = begI l b by unfold begI; rw [beg_two hk, hb]; rfl)
          have HB := hide_ (show begI l e = b by unfold begI; rw [hb])
          clear hk hb
          generalize (tk l e).1 = o at h0 o1 o2 o3 o11
          go_enter Tryz.func152, Tryz.ntmps152
          go_wp2_with fail
          refine (IH.out e (by omega) _ rfl (by omega)).mono ?_
          rw [HB.out]
          rintro en w1 ⟨rfl, rfl⟩
          go_wp2_with fail
          refine (IH.out b (by omega) _ rfl (by omega)).mono ?_
          rintro en w1 ⟨rfl, rfl⟩
          go_wp2
          go_ret
          exact ⟨ret_i64 HR.out.symm, rfl⟩

/-- a number or none -/
def OptR (o : Option Int) (v : Int) (r : Bool) : Prop := (r = true ∧ o = some v) ∨ (r = false ∧ o = none)
/-- what the part's call leaves -/
def PartIs (o : Option Int) (w : World) (e : Ending) (w' : World) : Prop := ∃ v r, e = .returned (.tuple #[.int .i64 v, .bool r]) ∧ OptR o v r ∧ Below w.heap.size w w'
theorem takes0 {o : Int} (h : takesN o = 0) : o = 1 ∨ o = 2 ∨ o = 3 := by
  unfold takesN at h
  split at h
  · assumption
  · split at h <;> omega
theorem takes1 {o : Int} (h : takesN o = 1) : o = 11 := by
  unfold takesN at h
  split at h
  · cases h
  · split at h
    · assumption
    · cases h
theorem takes2 {o : Int} (h : takesN o = 2) : (o == 1) = false ∧ (o == 2) = false ∧ (o == 3) = false ∧ (o == 11) = false := by
  unfold takesN at h
  split at h
  · cases h
  · split at h
    · cases h
    · simp only [beq_eq_false_iff_ne]
      omega

set_option maxHeartbeats 800000 in
theorem part_any (l : List (Int × Int)) (vars : List Int) (arg : Int) (B : Nat) (A V : Option Addr) (n c m k : Nat) (hn : l.length = n) (hc : n ≤ maxLen) (hm : vars.length = m)
    (hl : ∀ t ∈ l, TokIn t) (hv : ∀ v ∈ vars, I64 v) (ha : I64 arg) (hst : ∀ k, k < l.length → stdB m (tk l k) = true) :
    ∀ (e b : Nat) (x : Int) (w : World), x = (e : Int) - 1 → e ≤ n → beg l e = some b → Sees w B A (tv l) → Sees w B V (iv vars) → B ≤ w.heap.size →
      Calls Tryz.prog 202 #[.slice A n c, .int .i64 x, .slice V m k, .int .i64 arg] w (PartIs (pv l vars arg e) w) := by
  unfold maxLen at hc
  have HI := hide_ (pv_I64 (arg := arg) (fun t ht => (hl t ht).2.2) hv ha)
  intro e
  induction e using Nat.strongRecOn with
  | ind e ih =>
    intro b x w hx he hbg hs hsv hB
    have IH := hide_ ih
    have HL := hide_ hl
    have HV := hide_ hv
    have HS := hide_ hst
    clear ih hl hv hst
    cases e with
    | zero => rw [beg_zero] at hbg; cases hbg
    | succ e =>
      obtain rfl : x = (e : Int) := by omega
      clear hx
      have hst := HS.out e (by omega)
      have hs' := hide_ hs
      obtain ⟨tb, ot, rfl, hab, h0, h1⟩ := hs.tok (k := e) (by omega)
      clear hs
      have hle := takesN_le (tk l e).1
      rcases (show takesN (tk l e).1 = 0 ∨ takesN (tk l e).1 = 1 ∨ takesN (tk l e).1 = 2 by omega) with hk | hk | hk
      · have hr := pv_leaf (vars := vars) (arg := arg) hk
        have h3 := takes0 hk
        have HN := hide_ hn
        have HM := hide_ hm
        clear hk hle hn hm hbg
        generalize tk l e = t at h0 h1 h3 hr hst
        obtain ⟨o, N⟩ := t
        simp only at h0 h1 h3
        rcases h3 with rfl | rfl | rfl
        · have HR := hide_ hr
          clear hr hst
          go_enter Tryz.func202, Tryz.ntmps202
          go_wp2
          go_ret2
          exact ⟨_, _, rfl, .inl ⟨rfl, HR.out⟩, (Below.refl _ _).alloc (Nat.le_refl _) _⟩
        · have hN : 0 ≤ N ∧ N < m := by simpa [stdB] using hst
          obtain ⟨N, rfl⟩ := Int.eq_ofNat_of_zero_le hN.1
          have HR := hide_ hr
          have hN2 : N < m := by omega
          clear hr hst hN
          obtain ⟨vb, vo, rfl, hvb, hvc⟩ := hsv.int (k := N) (by rw [HM.out]; exact hN2)
          have hvw : vb < w.heap.size := by omega
          go_enter Tryz.func202, Tryz.ntmps202
          go_wp2
          go_ret2
          exact ⟨_, _, rfl, .inl ⟨rfl, HR.out⟩, (Below.refl _ _).alloc (Nat.le_refl _) _⟩
        · have HR := hide_ hr
          clear hr hst
          go_enter Tryz.func202, Tryz.ntmps202
          go_wp2
          go_ret2
          exact ⟨_, _, rfl, .inl ⟨rfl, HR.out⟩, (Below.refl _ _).alloc (Nat.le_refl _) _⟩
      · have hr := pv_not (vars := vars) (arg := arg) hk
        rw [beg_not hk] at hbg
        have h3 := takes1 hk
        have HN := hide_ hn
        have HM := hide_ hm
        clear hk hle hn hm hst
        generalize tk l e = t at h0 h1 h3 hr
        obtain ⟨o, N⟩ := t
        simp only at h0 h1 h3
        subst h3
        have hwz := Nat.lt_of_lt_of_le hab hB
        have hb0 := (Below.refl w.heap.size w).alloc (Nat.le_refl _) (.cells #[.int .u8 11, .int .i64 N] 203)
        have HS1 := hide_ (hs'.out.below (hb0.mono hB))
        have HV1 := hide_ (hsv.below (hb0.mono hB))
        have HB0 := hide_ hb0
        have HG := hide_ hbg
        clear hsv hb0 hbg
        cases hp : pv l vars arg e with
        | none =>
          have HP := hide_ hp
          have HR := hide_ (show pv l vars arg (e + 1) = none by rw [hr, hp]; rfl)
          clear hp hr
          go_enter Tryz.func202, Tryz.ntmps202
          go_wp2_with fail
          refine (IH.out e (by omega) b _ _ rfl (by omega) HG.out HS1.out HV1.out (by simp; omega)).mono ?_
          rw [HP.out]
          rintro en w1 ⟨v, r, rfl, hor, hb1⟩
          obtain rfl : r = false := by
            rcases hor with ⟨_, h⟩ | ⟨h, _⟩
            · cases h
            · exact h
          clear hor
          go_wp2
          go_ret2
          exact ⟨_, _, rfl, .inr ⟨rfl, HR.out⟩, HB0.out.trans (hb1.mono HB0.out.size)⟩
        | some y =>
          have HP := hide_ hp
          have HR := hide_ (show pv l vars arg (e + 1) = some (tru (decide (y = 0))) by rw [hr, hp]; rfl)
          clear hp hr
          go_enter Tryz.func202, Tryz.ntmps202
          go_wp2_with fail
          refine (IH.out e (by omega) b _ _ rfl (by omega) HG.out HS1.out HV1.out (by simp; omega)).mono ?_
          rw [HP.out]
          rintro en w1 ⟨v, r, rfl, hor, hb1⟩
          obtain ⟨rfl, rfl⟩ : r = true ∧ v = y := by
            rcases hor with ⟨h, h'⟩ | ⟨_, h⟩
            · injection h' with h'
              exact ⟨h, h'.symm⟩
            · cases h
          clear hor
          obtain ⟨hc1, hf1⟩ := bcell hb1
          have hz1 : w.heap.size < w1.heap.size := by have := hb1.size; simp at this; omega
          go_wp2_with fail
          refine (refTruth_any _ _).mono ?_
          rintro en w2 ⟨rfl, rfl⟩
          go_wp2
          go_ret2
          refine ⟨_, _, rfl, .inl ⟨rfl, ?_⟩, HB0.out.trans (hb1.mono HB0.out.size)⟩
          rw [HR.out]
          congr 2
          
      · rw [beg_two hk] at hbg
        cases hbe : beg l e with
        | none => rw [hbe] at hbg; cases hbg
        | some b1 =>
        rw [hbe] at hbg
        have hbb : beg l b1 = some b := hbg
        have hbl := beg_lt l e b1 hbe
        have hr := pv_two (vars := vars) (arg := arg) hk hbe
        obtain ⟨o1, o2, o3, o11⟩ := takes2 hk
        have HBI := hide_ (show begI l e = b1 by unfold begI; rw [hbe])
        have HN := hide_ hn
        have HM := hide_ hm
        have ho : 4 ≤ (tk l e).1 ∧ (tk l e).1 ≤ 10 := by
          simp only [beq_eq_false_iff_ne] at o1 o2 o3 o11
          unfold stdB at hst
          rw [if_neg o1, if_neg o2] at hst
          split at hst
          · omega
          · cases hst
        clear hk hle hn hm hst hbg
        generalize tk l e = t at h0 h1 hr o1 o2 o3 o11 ho
        obtain ⟨o, N⟩ := t
        simp only at h0 h1 hr o1 o2 o3 o11 ho
        have hwz := Nat.lt_of_lt_of_le hab hB
        have hb0 := (Below.refl w.heap.size w).alloc (Nat.le_refl _) (.cells #[.int .u8 o, .int .i64 N] 203)
        have hs1 := hs'.out.below (hb0.mono hB)
        have hv1 := hsv.below (hb0.mono hB)
        have HS1 := hide_ hs1
        have HV1 := hide_ hv1
        have HB0 := hide_ hb0
        have HBE := hide_ hbe
        have HBB := hide_ hbb
        clear hsv hb0 hbe hbb hs1 hv1
        cases hp : pv l vars arg e with
        | none =>
          have HP := hide_ hp
          have HR := hide_ (show pv l vars arg (e + 1) = none by rw [hr, hp]; rfl)
          clear hp hr
          go_enter Tryz.func202, Tryz.ntmps202
          go_wp2_with fail
          refine (IH.out e (by omega) b1 _ _ rfl (by omega) HBE.out HS1.out HV1.out (by simp; omega)).mono ?_
          rw [HP.out]
          rintro en w1 ⟨v, r, rfl, hor, hb1⟩
          obtain rfl : r = false := by
            rcases hor with ⟨_, h⟩ | ⟨h, _⟩
            · cases h
            · exact h
          clear hor
          go_wp2
          go_ret2
          exact ⟨_, _, rfl, .inr ⟨rfl, HR.out⟩, HB0.out.trans (hb1.mono HB0.out.size)⟩
        | some y =>
          have HP := hide_ hp
          have hy := HI.out e y (by rw [HN.out]; omega) hp
          rw [hp] at hr
          simp only [Option.bind_some] at hr
          have H1 := hide_ hr
          clear hp hr
          go_enter Tryz.func202, Tryz.ntmps202
          go_wp2_with fail
          refine (IH.out e (by omega) b1 _ _ rfl (by omega) HBE.out HS1.out HV1.out (by simp; omega)).mono ?_
          rw [HP.out]
          rintro en w1 ⟨v, r, rfl, hor, hb1⟩
          obtain ⟨rfl, rfl⟩ : r = true ∧ y = v := by
            rcases hor with ⟨h, h'⟩ | ⟨_, h⟩
            · injection h' with h'
              exact ⟨h, h'⟩
            · cases h
          clear hor
          have hb01 := HB0.out.trans (hb1.mono HB0.out.size)
          have HS2 := hide_ (hs'.out.below (hb01.mono hB))
          have HV2 := hide_ (HV1.out.below (hb1.mono (by simp; omega)))
          obtain ⟨hc1, hf1⟩ := bcell hb1
          have hz1 : w.heap.size < w1.heap.size := by have := hb1.size; simp at this; omega
          go_wp2_with fail
          refine (begins_any l B _ n c _ HN.out (by unfold maxLen; omega) HS2.out HL.out e _ rfl (by omega)).mono ?_
          rw [HBI.out]
          rintro en w2 ⟨rfl, rfl⟩
          go_wp2_with fail
          refine (IH.out b1 (by omega) b _ _ rfl (by omega) HBB.out HS2.out HV2.out (by omega)).mono ?_
          cases hx : pv l vars arg b1 with
          | none =>
            rintro en w3 ⟨v, r, rfl, hor, hb3⟩
            obtain rfl : r = false := by
              rcases hor with ⟨_, h⟩ | ⟨h, _⟩
              · cases h
              · exact h
            have HR := hide_ (show pv l vars arg (e + 1) = none by rw [H1.out, hx]; rfl)
            clear hor hx
            go_wp2
            go_ret2
            exact ⟨_, _, rfl, .inr ⟨rfl, HR.out⟩, hb01.trans (hb3.mono hb01.size)⟩
          | some x =>
            have hxi := HI.out b1 x (by rw [HN.out]; omega) hx
            rintro en w3 ⟨v, r, rfl, hor, hb3⟩
            obtain ⟨rfl, rfl⟩ : r = true ∧ x = v := by
              rcases hor with ⟨h, h'⟩ | ⟨_, h⟩
              · injection h' with h'
                exact ⟨h, h'⟩
              · cases h
            have HR := hide_ (show pv l vars arg (e + 1) = two o x y by rw [H1.out, hx]; rfl)
            clear hor hx
            obtain ⟨hc3, hf3⟩ := bcell hb3
            have hz3 : w.heap.size < w3.heap.size := by have := hb3.size; omega
            go_wp2_with fail
            refine (refTwo_any o x y _ ho hxi hy).mono ?_
            rintro en w4 ⟨z, r4, rfl, hr4, hb4⟩
            go_wp2
            go_ret2
            refine ⟨_, _, rfl, ?_, ?_⟩
            · rw [HR.out]
              exact hr4
            · have hb03 := hb01.trans (hb3.mono hb01.size)
              exact hb03.trans (hb4.mono hb03.size)
end Go.Proofs.YtkgnondlcaklnaaGreat

/-
  Contracts of the reference's May, Eval and Holds.
-/
namespace Go.Proofs.YtkgnondlcaklnaaGreat
open Go.RowKit

theorem ret_bool {a b : Bool} (h : a = b) : Ending.returned (.bool a) = .returned (.bool b) := by rw [h]
theorem std_yes {vs o N : Int} (h : stdB vs (o, N) = true) : o = 1 ∨ (o = 2 ∧ 0 ≤ N ∧ N < vs) ∨ (3 ≤ o ∧ o ≤ 11 ∧ N = 0) := by
  unfold stdB at h
  simp only at h
  split at h
  · exact .inl ‹_›
  · split at h
    · exact .inr (.inl ⟨‹_›, by simpa using h⟩)
    · split at h
      · rename_i h3
        exact .inr (.inr ⟨h3.1, h3.2, by simpa using h⟩)
      · cases h
theorem std_no {vs o N : Int} (h : stdB vs (o, N) = false) : o < 1 ∨ 11 < o ∨ (o = 2 ∧ N < 0) ∨ (o = 2 ∧ 0 ≤ N ∧ vs ≤ N) ∨ (3 ≤ o ∧ o ≤ 11 ∧ N ≠ 0) := by
  unfold stdB at h
  simp only at h
  split at h
  · cases h
  · split at h
    · have : ¬(0 ≤ N ∧ N < vs) := by simpa using h
      omega
    · split at h
      · have : N ≠ 0 := by simpa using h
        omega
      · omega

set_option maxHeartbeats 800000 in
theorem refMay_any (l : List (Int × Int)) (B : Nat) (A : Option Addr) (n c : Nat) (vs : Int) (w : World) (hn : l.length = n) (hc : n ≤ maxLen) (hs : Sees w B A (tv l)) (hB : B ≤ w.heap.size) (hl : ∀ t ∈ l, TokIn t) :
    Calls Tryz.prog 114 #[.slice A n c, .int .i64 vs] w fun e w' => e = .returned (.bool (mayB l vs)) ∧ Below w.heap.size w w' := by
  have HC := hide_ hc
  unfold maxLen at hc
  by_cases h0 : n = 0
  · have HR := hide_ (show mayB l vs = false from mayB_count (c := 0) (by rw [hn, h0]; rfl) (by omega))
    have e0 : ((n : Int) == 0) = true := by rw [beq_iff_eq]; omega
    clear hn hl hs h0
    go_enter Tryz.func114, Tryz.ntmps114
    go_wp2
    go_ret
    exact ⟨ret_bool HR.out.symm, Below.refl _ _⟩
  by_cases h24 : 24 < n
  · have HR := hide_ (show mayB l vs = false from mayB_long (by omega))
    have e0 : ((n : Int) == 0) = false := beq_eq_false_iff_ne.2 (by omega)
    clear hn hl hs h0
    go_enter Tryz.func114, Tryz.ntmps114
    go_wp2
    go_ret
    exact ⟨ret_bool HR.out.symm, Below.refl _ _⟩
  have e0 : ((n : Int) == 0) = false := beq_eq_false_iff_ne.2 (by omega)
  have e24 : n ≤ 24 := by omega
  have hp : 0 < n := by omega
  have HL := hide_ hl
  have HS := hide_ hs
  have HN := hide_ hn
  clear hn hl hs h0 h24
  go_enter Tryz.func114, Tryz.ntmps114
  go_wp2
  go_loopw [17] (fun i wr => ∃ k : Nat, k ≤ n ∧ i = .int .i64 k ∧ Hid (∀ j, j < k → stdB vs (tk l j) = true) ∧ Below w.heap.size w wr) (fun i _ => n - (intOf i).toNat)
  case atStart => exact ⟨0, Nat.zero_le _, rfl, (fun j hj => absurd hj (by omega)), Below.refl _ _⟩
  case round =>
    obtain ⟨k, hk, rfl, HJ, hb⟩ := hrel
    have hs1 := HS.out.below (hb.mono hB)
    by_cases hlt : k < n
    · obtain ⟨tb, ot, rfl, hab, h0, h1⟩ := hs1.tok (k := k) (by rw [HN.out]; exact hlt)
      have hwz : tb < wr.heap.size := by have := hb.size; omega
      clear hs1
      cases hst : stdB vs (tk l k) with
      | true =>
        have HJ2 := hide_ (show ∀ j, j < k + 1 → stdB vs (tk l j) = true from fun j hj => by
          by_cases h : j = k
          · rw [h]; exact hst
          · exact HJ.out j (by omega))
        generalize tk l k = t at h0 h1 hst
        obtain ⟨o, N⟩ := t
        simp only at h0 h1
        have hy := std_yes hst
        clear hst
        rcases hy with rfl | ⟨rfl, hN1, hN2⟩ | ⟨ho1, ho2, rfl⟩
        · go_wp2
          go_roundw
          case rel => exact ⟨k + 1, by omega, by go_num, HJ2, hb.alloc hb.size _⟩
          case measure => simp [intOf]; omega
        · go_wp2
          go_roundw
          case rel => exact ⟨k + 1, by omega, by go_num, HJ2, hb.alloc hb.size _⟩
          case measure => simp [intOf]; omega
        · have ho3 : 2 < o := by omega
          have ho4 : (o == 2) = false := beq_eq_false_iff_ne.2 (by omega)
          go_wp2
          go_roundw
          case rel => exact ⟨k + 1, by omega, by go_num, HJ2, hb.alloc hb.size _⟩
          case measure => simp [intOf]; omega
      | false =>
        have HR := hide_ (show mayB l vs = false from mayB_odd (k := k) (by rw [HN.out]; exact hlt) hst)
        generalize tk l k = t at h0 h1 hst
        obtain ⟨o, N⟩ := t
        simp only at h0 h1
        have hy := std_no hst
        clear hst
        rcases hy with ho | ho | ⟨rfl, hN1⟩ | ⟨rfl, hN1, hN2⟩ | ⟨ho1, ho2, hN⟩
        · go_wp2
          go_ret
          exact ⟨ret_bool HR.out.symm, hb.alloc hb.size _⟩
        · go_wp2
          go_ret
          exact ⟨ret_bool HR.out.symm, hb.alloc hb.size _⟩
        · go_wp2
          go_ret
          exact ⟨ret_bool HR.out.symm, hb.alloc hb.size _⟩
        · go_wp2
          go_ret
          exact ⟨ret_bool HR.out.symm, hb.alloc hb.size _⟩
        · have ho3 : 2 < o := by omega
          have ho4 : (o == 2) = false := beq_eq_false_iff_ne.2 (by omega)
          have hN2 : (N != 0) = true := by simpa using hN
          clear hN
          go_wp2
          go_ret
          exact ⟨ret_bool HR.out.symm, hb.alloc hb.size _⟩
    · obtain rfl : k = n := by omega
      have hr : ∃ q, begI l k = q ∧ (q == 0) = mayB l vs := by
        refine ⟨_, rfl, ?_⟩
        have hN := HN.out
        subst hN
        by_cases hbg : beg l l.length = some 0
        · rw [mayB_mk e24 HJ.out ((cnt_one l _).2 hbg)]
          unfold begI
          rw [hbg]
          rfl
        · rw [mayB_beg hbg]
          unfold begI
          cases hq : beg l l.length with
          | none => rfl
          | some b =>
            rw [hq] at hbg
            simp only [beq_eq_false_iff_ne]
            intro h
            apply hbg
            congr 1
            omega
      obtain ⟨q, hq, hqm⟩ := hr
      have HQ := hide_ hq
      have HM := hide_ hqm
      clear hq hqm
      go_wp2_with fail
      refine (begins_any l B _ k c _ HN.out HC.out hs1 HL.out k _ rfl (Nat.le_refl _)).mono ?_
      rw [HQ.out]
      rintro en w2 ⟨rfl, rfl⟩
      go_wp2
      go_ret
      exact ⟨ret_bool HM.out, hb⟩

theorem refEval_any (l : List (Int × Int)) (vars : List Int) (arg : Int) (B : Nat) (A V : Option Addr) (n c m k : Nat) (w : World) (hn : l.length = n) (hc : n ≤ maxLen) (hm : vars.length = m)
    (hs : Sees w B A (tv l)) (hsv : Sees w B V (iv vars)) (hB : B ≤ w.heap.size) (hl : ∀ t ∈ l, TokIn t) (hv : ∀ v ∈ vars, I64 v) (ha : I64 arg) :
    Calls Tryz.prog 154 #[.slice A n c, .slice V m k, .int .i64 arg] w fun e w' => e = .returned (.tuple #[.int .i64 (evalR l vars arg).1, .int .i64 (evalR l vars arg).2]) ∧ Below w.heap.size w w' := by
  have HC := hide_ hc
  unfold maxLen at hc
  have HN := hide_ hn
  have HM := hide_ hm
  have HL := hide_ hl
  have HV := hide_ hv
  have HS := hide_ hs
  have HSV := hide_ hsv
  clear hn hm hl hv hs hsv
  cases hb : mayB l m with
  | false =>
    have HR := hide_ (show evalR l vars arg = (0, 3) by unfold evalR; rw [HM.out, hb]; rfl)
    have HB := hide_ hb
    clear hb
    go_enter Tryz.func154, Tryz.ntmps154
    go_wp2_with fail
    refine (refMay_any l B A n c m _ HN.out HC.out HS.out hB HL.out).mono ?_
    rw [HB.out]
    rintro en w1 ⟨rfl, hb1⟩
    go_wp2
    go_ret2
    exact ⟨by rw [HR.out]; exact rfl, hb1⟩
  | true =>
    have ht := mayB_true hb
    have HB := hide_ hb
    have HT := hide_ (show beg l n = some 0 from HN.out ▸ ht.2.2)
    have HST := hide_ ht.2.1
    have HR := hide_ (show evalR l vars arg = match pv l vars arg n with | some v => (v, 0) | none => (0, 18) by unfold evalR; rw [HM.out, HN.out, hb]; rfl)
    clear hb ht
    go_enter Tryz.func154, Tryz.ntmps154
    go_wp2_with fail
    refine (refMay_any l B A n c m _ HN.out HC.out HS.out hB HL.out).mono ?_
    rw [HB.out]
    rintro en w1 ⟨rfl, hb1⟩
    have HS1 := hide_ (HS.out.below (hb1.mono hB))
    have HV1 := hide_ (HSV.out.below (hb1.mono hB))
    have hz1 := hb1.size
    go_wp2_with fail
    refine (part_any l vars arg B A V n c m k HN.out HC.out HM.out HL.out HV.out ha HST.out n 0 _ _ rfl (Nat.le_refl _) HT.out HS1.out HV1.out (by omega)).mono ?_
    rintro en w2 ⟨v, r, rfl, hor, hb2⟩
    rcases hor with ⟨rfl, hp⟩ | ⟨rfl, hp⟩
    · have HR2 := hide_ (show evalR l vars arg = (v, 0) by rw [HR.out, hp])
      clear hp
      go_wp2
      go_ret2
      exact ⟨by rw [HR2.out]; exact rfl, hb1.trans (hb2.mono hb1.size)⟩
    · have HR2 := hide_ (show evalR l vars arg = (0, 18) by rw [HR.out, hp])
      clear hp
      go_wp2
      go_ret2
      exact ⟨by rw [HR2.out]; exact rfl, hb1.trans (hb2.mono hb1.size)⟩

theorem refHolds_any (l : List (Int × Int)) (vars : List Int) (arg : Int) (B : Nat) (A V : Option Addr) (n c m k : Nat) (w : World) (hn : l.length = n) (hc : n ≤ maxLen) (hm : vars.length = m)
    (hs : Sees w B A (tv l)) (hsv : Sees w B V (iv vars)) (hB : B ≤ w.heap.size) (hl : ∀ t ∈ l, TokIn t) (hv : ∀ v ∈ vars, I64 v) (ha : I64 arg) :
    Calls Tryz.prog 201 #[.slice A n c, .slice V m k, .int .i64 arg] w fun e w' => e = .returned (.bool (holdsB l vars arg)) ∧ Below w.heap.size w w' := by
  have HC := hide_ hc
  unfold maxLen at hc
  have HN := hide_ hn
  have HM := hide_ hm
  have HH := hide_ (show holdsB l vars arg = (decide (n = 0) || (decide ((evalR l vars arg).2 = 0) && decide ((evalR l vars arg).1 ≠ 0))) by unfold holdsB; rw [hn])
  clear hn hm
  obtain ⟨⟨x, y⟩, hxy⟩ : ∃ q, evalR l vars arg = q := ⟨_, rfl⟩
  have HE := hide_ hxy
  clear hxy
  go_enter Tryz.func201, Tryz.ntmps201
  go_wp2_with fail
  refine (refEval_any l vars arg B A V n c m k _ HN.out HC.out HM.out hs hsv hB hl hv ha).mono ?_
  rw [HE.out]
  rintro en w1 ⟨rfl, hb1⟩
  go_wp2
  all_goals
    go_ret
    refine ⟨ret_bool ?_, hb1⟩
    rw [HH.out, HE.out, Bool.eq_iff_iff]
    simp [*]
end Go.Proofs.YtkgnondlcaklnaaGreat

/-
  Contracts of expr's functions.
-/
namespace Go.Proofs.YtkgnondlcaklnaaGreat
open Go.RowKit

theorem std_mid {vs o N : Int} (h : 3 ≤ o ∧ o ≤ 11) : stdB vs (o, N) = (N == 0) := by
  unfold stdB
  simp only
  rw [if_neg (by omega), if_neg (by omega), if_pos h, Bool.eq_iff_iff]
  simp

set_option maxHeartbeats 800000 in
theorem mayStand_any (o N vs : Int) (w : World) : Calls Tryz.prog 189 #[.agg #[.int .u8 o, .int .i64 N], .int .i64 vs] w fun e w' => e = .returned (.bool (stdB vs (o, N))) ∧ Below w.heap.size w w' := by
  by_cases h3 : 3 ≤ o ∧ o ≤ 11
  · have HR := hide_ (std_mid (vs := vs) (N := N) h3)
    rcases (show o = 3 ∨ o = 4 ∨ o = 5 ∨ o = 6 ∨ o = 7 ∨ o = 8 ∨ o = 9 ∨ o = 10 ∨ o = 11 by omega) with rfl | rfl | rfl | rfl | rfl | rfl | rfl | rfl | rfl
    all_goals
      go_enter Tryz.func189, Tryz.ntmps189
      go_wp2
      go_ret
      exact ⟨ret_bool HR.out.symm, (Below.refl _ _).alloc (Nat.le_refl _) _⟩
  cases hst : stdB vs (o, N) with
  | true =>
    rcases std_yes hst with rfl | ⟨rfl, hN1, hN2⟩ | ⟨h1, h2, _⟩
    · clear hst h3
      go_enter Tryz.func189, Tryz.ntmps189
      go_wp2
      go_ret
      exact ⟨rfl, (Below.refl _ _).alloc (Nat.le_refl _) _⟩
    · clear hst h3
      have hd := decide_eq_true hN2
      go_enter Tryz.func189, Tryz.ntmps189
      go_wp2
      go_ret
      exact ⟨rfl, (Below.refl _ _).alloc (Nat.le_refl _) _⟩
    · exact absurd ⟨h1, h2⟩ h3
  | false =>
    have hcs : (o = 2 ∧ N < 0) ∨ (o = 2 ∧ 0 ≤ N ∧ vs ≤ N) ∨ o < 1 ∨ 11 < o := by have := std_no hst; omega
    clear hst h3
    rcases hcs with ⟨rfl, hN⟩ | ⟨rfl, hN1, hN2⟩ | ho | ho
    · go_enter Tryz.func189, Tryz.ntmps189
      go_wp2
      go_ret
      exact ⟨rfl, (Below.refl _ _).alloc (Nat.le_refl _) _⟩
    · have hd : decide (N < vs) = false := decide_eq_false (by omega)
      go_enter Tryz.func189, Tryz.ntmps189
      go_wp2
      go_ret
      exact ⟨rfl, (Below.refl _ _).alloc (Nat.le_refl _) _⟩
    all_goals
      have b1 : (o == 1) = false := beq_eq_false_iff_ne.2 (by omega)
      have b2 : (o == 2) = false := beq_eq_false_iff_ne.2 (by omega)
      have b3 : (o == 3) = false := beq_eq_false_iff_ne.2 (by omega)
      have b4 : (o == 4) = false := beq_eq_false_iff_ne.2 (by omega)
      have b5 : (o == 5) = false := beq_eq_false_iff_ne.2 (by omega)
      have b6 : (o == 6) = false := beq_eq_false_iff_ne.2 (by omega)
      have b7 : (o == 7) = false := beq_eq_false_iff_ne.2 (by omega)
      have b8 : (o == 8) = false := beq_eq_false_iff_ne.2 (by omega)
      have b9 : (o == 9) = false := beq_eq_false_iff_ne.2 (by omega)
      have b10 : (o == 10) = false := beq_eq_false_iff_ne.2 (by omega)
      have b11 : (o == 11) = false := beq_eq_false_iff_ne.2 (by omega)
      go_enter Tryz.func189, Tryz.ntmps189
      go_wp2
      go_ret
      exact ⟨rfl, (Below.refl _ _).alloc (Nat.le_refl _) _⟩

theorem named_any (vars : List Int) (arg o N : Int) (B : Nat) (V : Option Addr) (m k : Nat) (w : World) (hm : vars.length = m) (hsv : Sees w B V (iv vars)) (hB : B ≤ w.heap.size) (h0 : takesN o = 0) (hst : stdB m (o, N) = true) :
    Calls Tryz.prog 221 #[.agg #[.int .u8 o, .int .i64 N], .slice V m k, .int .i64 arg] w fun e w' => e = .returned (.int .i64 (named vars arg (o, N))) ∧ Below w.heap.size w w' := by
  have HM := hide_ hm
  clear hm
  rcases takes0 h0 with rfl | rfl | rfl
  · clear h0 hst
    go_enter Tryz.func221, Tryz.ntmps221
    go_wp2
    go_ret
    exact ⟨rfl, (Below.refl _ _).alloc (Nat.le_refl _) _⟩
  · have hN : 0 ≤ N ∧ N < m := by simpa [stdB] using hst
    clear h0 hst
    obtain ⟨N, rfl⟩ := Int.eq_ofNat_of_zero_le hN.1
    have hN2 : N < m := by omega
    clear hN
    obtain ⟨vb, vo, rfl, hvb, hvc⟩ := hsv.int (k := N) (by rw [HM.out]; exact hN2)
    have hvw : vb < w.heap.size := by omega
    go_enter Tryz.func221, Tryz.ntmps221
    go_wp2
    go_ret
    exact ⟨rfl, (Below.refl _ _).alloc (Nat.le_refl _) _⟩
  · clear h0 hst
    go_enter Tryz.func221, Tryz.ntmps221
    go_wp2
    go_ret
    exact ⟨rfl, (Below.refl _ _).alloc (Nat.le_refl _) _⟩

end Go.Proofs.YtkgnondlcaklnaaGreat
