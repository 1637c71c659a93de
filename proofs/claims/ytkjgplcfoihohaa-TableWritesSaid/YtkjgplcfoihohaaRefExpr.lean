/-
  Contracts of the reference's functions on formulas.
-/
import Derived.Test.YtkjgplcfoihohaaOps
import Derived.Test.YtkjgplcfoihohaaTok
import Derived.Test.YtkjgplcfoihohaaBase
namespace Go.Proofs.Ytkjgplcfoihohaa
open Go.RowKit

/-- where a part begins, or -1 -/
def begI (l : List (Int × Int)) (e : Nat) : Int := match beg l e with | some b => (b : Int) | none => -1

theorem begins_any (l : List (Int × Int)) (B : Nat) (A : Option Addr) (n c : Nat) (w : World) (hn : l.length = n) (hc : n ≤ maxLen) (hs : Sees w B A (tv l)) (hl : ∀ t ∈ l, TokIn t) :
    ∀ (e : Nat) (x : Int), x = (e : Int) - 1 → e ≤ n → Calls Try.prog 118 #[.slice A n c, .int .i64 x] w fun en w' => en = .returned (.int .i64 (begI l e)) ∧ w = w' := by
  unfold maxLen at hc
  intro e
  induction e using Nat.strongRecOn with
  | ind e ih =>
    intro x hx he
    have IH := hide_ ih
    have HL := hide_ hl
    clear ih hl
    cases e with
    | zero =>
      have h0 : x < 0 := by omega
      have HR := hide_ (show begI l 0 = -1 by unfold begI; rw [beg_zero])
      clear hx
      go_enter Try.func118, Try.ntmps118
      go_wp2
      go_ret
      exact ⟨ret_i64 HR.out.symm, rfl⟩
    | succ e =>
      obtain rfl : x = (e : Int) := by omega
      clear hx
      obtain ⟨tb, ot, rfl, hab, h0, h1⟩ := hs.tok (k := e) (by omega)
      have hle := takesN_le (tk l e).1
      rcases (show takesN (tk l e).1 = 0 ∨ takesN (tk l e).1 = 1 ∨ takesN (tk l e).1 = 2 by omega) with hk | hk | hk
      · have HR := hide_ (show begI l (e + 1) = e by unfold begI; rw [beg_leaf hk])
        have h3 : (tk l e).1 = 1 ∨ (tk l e).1 = 2 ∨ (tk l e).1 = 3 := by
          unfold takesN at hk
          split at hk
          · assumption
          · split at hk <;> omega
        clear hk hle
        have HN := hide_ hn
        clear hn
        generalize (tk l e).1 = o at h0 h3
        rcases h3 with rfl | rfl | rfl
        all_goals
          go_enter Try.func118, Try.ntmps118
          go_wp2
          go_ret
          exact ⟨ret_i64 HR.out.symm, rfl⟩
      · have HR := hide_ (show begI l (e + 1) = begI l e by unfold begI; rw [beg_not hk])
        have h3 : (tk l e).1 = 11 := by
          unfold takesN at hk
          split at hk
          · cases hk
          · split at hk
            · assumption
            · cases hk
        clear hk hle
        have HN := hide_ hn
        clear hn
        generalize (tk l e).1 = o at h0 h3
        subst h3
        go_enter Try.func118, Try.ntmps118
        go_wp2_with fail
        refine (IH.out e (by omega) _ rfl (by omega)).mono ?_
        rintro en w1 ⟨rfl, rfl⟩
        go_wp2
        go_ret
        exact ⟨ret_i64 HR.out.symm, rfl⟩
      · have hb1 : ((tk l e).1 == 1) = false ∧ ((tk l e).1 == 2) = false ∧ ((tk l e).1 == 3) = false ∧ ((tk l e).1 == 11) = false := by
          unfold takesN at hk
          split at hk
          · cases hk
          · split at hk
            · cases hk
            · simp only [beq_eq_false_iff_ne]
              omega
        obtain ⟨o1, o2, o3, o11⟩ := hb1
        have HN := hide_ hn
        clear hn hle
        cases hb : beg l e with
        | none =>
          have HR := hide_ (show begI l (e + 1) = -1 by unfold begI; rw [beg_two hk, hb]; rfl)
          have HB := hide_ (show begI l e = -1 by unfold begI; rw [hb])
          clear hk hb
          generalize (tk l e).1 = o at h0 o1 o2 o3 o11
          go_enter Try.func118, Try.ntmps118
          go_wp2_with fail
          refine (IH.out e (by omega) _ rfl (by omega)).mono ?_
          rw [HB.out]
          rintro en w1 ⟨rfl, rfl⟩
          go_wp2
          go_ret
          exact ⟨ret_i64 HR.out.symm, rfl⟩
        | some b =>
          have hbl := beg_lt l e b hb
          have HR := hide_ (show begI l (e + 1) = begI l b by unfold begI; rw [beg_two hk, hb]; rfl)
          have HB := hide_ (show begI l e = b by unfold begI; rw [hb])
          clear hk hb
          generalize (tk l e).1 = o at h0 o1 o2 o3 o11
          go_enter Try.func118, Try.ntmps118
          go_wp2_with fail
          refine (IH.out e (by omega) _ rfl (by omega)).mono ?_
          rw [HB.out]
          rintro en w1 ⟨rfl, rfl⟩
          go_wp2_with fail
          refine (IH.out b (by omega) _ rfl (by omega)).mono ?_
          rintro en w1 ⟨rfl, rfl⟩
          go_wp2
          go_ret
          exact ⟨ret_i64 HR.out.symm, rfl⟩

/-- a number or none -/
def OptR (o : Option Int) (v : Int) (r : Bool) : Prop := (r = true ∧ o = some v) ∨ (r = false ∧ o = none)
/-- what the part's call leaves -/
def PartIs (o : Option Int) (w : World) (e : Ending) (w' : World) : Prop := ∃ v r, e = .returned (.tuple #[.int .i64 v, .bool r]) ∧ OptR o v r ∧ Below w.heap.size w w'
theorem takes0 {o : Int} (h : takesN o = 0) : o = 1 ∨ o = 2 ∨ o = 3 := by
  unfold takesN at h
  split at h
  · assumption
  · split at h <;> omega
theorem takes1 {o : Int} (h : takesN o = 1) : o = 11 := by
  unfold takesN at h
  split at h
  · cases h
  · split at h
    · assumption
    · cases h
theorem takes2 {o : Int} (h : takesN o = 2) : (o == 1) = false ∧ (o == 2) = false ∧ (o == 3) = false ∧ (o == 11) = false := by
  unfold takesN at h
  split at h
  · cases h
  · split at h
    · cases h
    · simp only [beq_eq_false_iff_ne]
      omega

set_option maxHeartbeats 800000 in
theorem part_any (l : List (Int × Int)) (vars : List Int) (arg : Int) (B : Nat) (A V : Option Addr) (n c m k : Nat) (hn : l.length = n) (hc : n ≤ maxLen) (hm : vars.length = m)
    (hl : ∀ t ∈ l, TokIn t) (hv : ∀ v ∈ vars, I64 v) (ha : I64 arg) (hst : ∀ k, k < l.length → stdB m (tk l k) = true) :
    ∀ (e b : Nat) (x : Int) (w : World), x = (e : Int) - 1 → e ≤ n → beg l e = some b → Sees w B A (tv l) → Sees w B V (iv vars) → B ≤ w.heap.size →
      Calls Try.prog 86 #[.slice A n c, .int .i64 x, .slice V m k, .int .i64 arg] w (PartIs (pv l vars arg e) w) := by
  unfold maxLen at hc
  have HI := hide_ (pv_I64 (arg := arg) (fun t ht => (hl t ht).2.2) hv ha)
  intro e
  induction e using Nat.strongRecOn with
  | ind e ih =>
    intro b x w hx he hbg hs hsv hB
    have IH := hide_ ih
    have HL := hide_ hl
    have HV := hide_ hv
    have HS := hide_ hst
    clear ih hl hv hst
    cases e with
    | zero => rw [beg_zero] at hbg; cases hbg
    | succ e =>
      obtain rfl : x = (e : Int) := by omega
      clear hx
      have hst := HS.out e (by omega)
      have hs' := hide_ hs
      obtain ⟨tb, ot, rfl, hab, h0, h1⟩ := hs.tok (k := e) (by omega)
      clear hs
      have hle := takesN_le (tk l e).1
      rcases (show takesN (tk l e).1 = 0 ∨ takesN (tk l e).1 = 1 ∨ takesN (tk l e).1 = 2 by omega) with hk | hk | hk
      · have hr := pv_leaf (vars := vars) (arg := arg) hk
        have h3 := takes0 hk
        have HN := hide_ hn
        have HM := hide_ hm
        clear hk hle hn hm hbg
        generalize tk l e = t at h0 h1 h3 hr hst
        obtain ⟨o, N⟩ := t
        simp only at h0 h1 h3
        rcases h3 with rfl | rfl | rfl
        · have HR := hide_ hr
          clear hr hst
          go_enter Try.func86, Try.ntmps86
          go_wp2
          go_ret2
          exact ⟨_, _, rfl, .inl ⟨rfl, HR.out⟩, (Below.refl _ _).alloc (Nat.le_refl _) _⟩
        · have hN : 0 ≤ N ∧ N < m := by simpa [stdB] using hst
          obtain ⟨N, rfl⟩ := Int.eq_ofNat_of_zero_le hN.1
          have HR := hide_ hr
          have hN2 : N < m := by omega
          clear hr hst hN
          obtain ⟨vb, vo, rfl, hvb, hvc⟩ := hsv.int (k := N) (by rw [HM.out]; exact hN2)
          have hvw : vb < w.heap.size := by omega
          go_enter Try.func86, Try.ntmps86
          go_wp2
          go_ret2
          exact ⟨_, _, rfl, .inl ⟨rfl, HR.out⟩, (Below.refl _ _).alloc (Nat.le_refl _) _⟩
        · have HR := hide_ hr
          clear hr hst
          go_enter Try.func86, Try.ntmps86
          go_wp2
          go_ret2
          exact ⟨_, _, rfl, .inl ⟨rfl, HR.out⟩, (Below.refl _ _).alloc (Nat.le_refl _) _⟩
      · have hr := pv_not (vars := vars) (arg := arg) hk
        rw [beg_not hk] at hbg
        have h3 := takes1 hk
        have HN := hide_ hn
        have HM := hide_ hm
        clear hk hle hn hm hst
        generalize tk l e = t at h0 h1 h3 hr
        obtain ⟨o, N⟩ := t
        simp only at h0 h1 h3
        subst h3
        have hwz := Nat.lt_of_lt_of_le hab hB
        have hb0 := (Below.refl w.heap.size w).alloc (Nat.le_refl _) (.cells #[.int .u8 11, .int .i64 N] 127)
        have HS1 := hide_ (hs'.out.below (hb0.mono hB))
        have HV1 := hide_ (hsv.below (hb0.mono hB))
        have HB0 := hide_ hb0
        have HG := hide_ hbg
        clear hsv hb0 hbg
        cases hp : pv l vars arg e with
        | none =>
          have HP := hide_ hp
          have HR := hide_ (show pv l vars arg (e + 1) = none by rw [hr, hp]; rfl)
          clear hp hr
          go_enter Try.func86, Try.ntmps86
          go_wp2_with fail
          refine (IH.out e (by omega) b _ _ rfl (by omega) HG.out HS1.out HV1.out (by simp; omega)).mono ?_
          rw [HP.out]
          rintro en w1 ⟨v, r, rfl, hor, hb1⟩
          obtain rfl : r = false := by
            rcases hor with ⟨_, h⟩ | ⟨h, _⟩
            · cases h
            · exact h
          clear hor
          go_wp2
          go_ret2
          exact ⟨_, _, rfl, .inr ⟨rfl, HR.out⟩, HB0.out.trans (hb1.mono HB0.out.size)⟩
        | some y =>
          have HP := hide_ hp
          have HR := hide_ (show pv l vars arg (e + 1) = some (tru (decide (y = 0))) by rw [hr, hp]; rfl)
          clear hp hr
          go_enter Try.func86, Try.ntmps86
          go_wp2_with fail
          refine (IH.out e (by omega) b _ _ rfl (by omega) HG.out HS1.out HV1.out (by simp; omega)).mono ?_
          rw [HP.out]
          rintro en w1 ⟨v, r, rfl, hor, hb1⟩
          obtain ⟨rfl, rfl⟩ : r = true ∧ v = y := by
            rcases hor with ⟨h, h'⟩ | ⟨_, h⟩
            · injection h' with h'
              exact ⟨h, h'.symm⟩
            · cases h
          clear hor
          obtain ⟨hc1, hf1⟩ := bcell hb1
          have hz1 : w.heap.size < w1.heap.size := by have := hb1.size; simp at this; omega
          go_wp2_with fail
          refine (refTruth_any _ _).mono ?_
          rintro en w2 ⟨rfl, rfl⟩
          go_wp2
          go_ret2
          refine ⟨_, _, rfl, .inl ⟨rfl, ?_⟩, HB0.out.trans (hb1.mono HB0.out.size)⟩
          rw [HR.out]
          congr 2
          
      · rw [beg_two hk] at hbg
        cases hbe : beg l e with
        | none => rw [hbe] at hbg; cases hbg
        | some b1 =>
        rw [hbe] at hbg
        have hbb : beg l b1 = some b := hbg
        have hbl := beg_lt l e b1 hbe
        have hr := pv_two (vars := vars) (arg := arg) hk hbe
        obtain ⟨o1, o2, o3, o11⟩ := takes2 hk
        have HBI := hide_ (show begI l e = b1 by unfold begI; rw [hbe])
        have HN := hide_ hn
        have HM := hide_ hm
        have ho : 4 ≤ (tk l e).1 ∧ (tk l e).1 ≤ 10 := by
          simp only [beq_eq_false_iff_ne] at o1 o2 o3 o11
          unfold stdB at hst
          rw [if_neg o1, if_neg o2] at hst
          split at hst
          · omega
          · cases hst
        clear hk hle hn hm hst hbg
        generalize tk l e = t at h0 h1 hr o1 o2 o3 o11 ho
        obtain ⟨o, N⟩ := t
        simp only at h0 h1 hr o1 o2 o3 o11 ho
        have hwz := Nat.lt_of_lt_of_le hab hB
        have hb0 := (Below.refl w.heap.size w).alloc (Nat.le_refl _) (.cells #[.int .u8 o, .int .i64 N] 127)
        have hs1 := hs'.out.below (hb0.mono hB)
        have hv1 := hsv.below (hb0.mono hB)
        have HS1 := hide_ hs1
        have HV1 := hide_ hv1
        have HB0 := hide_ hb0
        have HBE := hide_ hbe
        have HBB := hide_ hbb
        clear hsv hb0 hbe hbb hs1 hv1
        cases hp : pv l vars arg e with
        | none =>
          have HP := hide_ hp
          have HR := hide_ (show pv l vars arg (e + 1) = none by rw [hr, hp]; rfl)
          clear hp hr
          go_enter Try.func86, Try.ntmps86
          go_wp2_with fail
          refine (IH.out e (by omega) b1 _ _ rfl (by omega) HBE.out HS1.out HV1.out (by simp; omega)).mono ?_
          rw [HP.out]
          rintro en w1 ⟨v, r, rfl, hor, hb1⟩
          obtain rfl : r = false := by
            rcases hor with ⟨_, h⟩ | ⟨h, _⟩
            · cases h
            · exact h
          clear hor
          go_wp2
          go_ret2
          exact ⟨_, _, rfl, .inr ⟨rfl, HR.out⟩, HB0.out.trans (hb1.mono HB0.out.size)⟩
        | some y =>
          have HP := hide_ hp
          have hy := HI.out e y (by rw [HN.out]; omega) hp
          rw [hp] at hr
          simp only [Option.bind_some] at hr
          have H1 := hide_ hr
          clear hp hr
          go_enter Try.func86, Try.ntmps86
          go_wp2_with fail
          refine (IH.out e (by omega) b1 _ _ rfl (by omega) HBE.out HS1.out HV1.out (by simp; omega)).mono ?_
          rw [HP.out]
          rintro en w1 ⟨v, r, rfl, hor, hb1⟩
          obtain ⟨rfl, rfl⟩ : r = true ∧ y = v := by
            rcases hor with ⟨h, h'⟩ | ⟨_, h⟩
            · injection h' with h'
              exact ⟨h, h'⟩
            · cases h
          clear hor
          have hb01 := HB0.out.trans (hb1.mono HB0.out.size)
          have HS2 := hide_ (hs'.out.below (hb01.mono hB))
          have HV2 := hide_ (HV1.out.below (hb1.mono (by simp; omega)))
          obtain ⟨hc1, hf1⟩ := bcell hb1
          have hz1 : w.heap.size < w1.heap.size := by have := hb1.size; simp at this; omega
          go_wp2_with fail
          refine (begins_any l B _ n c _ HN.out (by unfold maxLen; omega) HS2.out HL.out e _ rfl (by omega)).mono ?_
          rw [HBI.out]
          rintro en w2 ⟨rfl, rfl⟩
          go_wp2_with fail
          refine (IH.out b1 (by omega) b _ _ rfl (by omega) HBB.out HS2.out HV2.out (by omega)).mono ?_
          cases hx : pv l vars arg b1 with
          | none =>
            rintro en w3 ⟨v, r, rfl, hor, hb3⟩
            obtain rfl : r = false := by
              rcases hor with ⟨_, h⟩ | ⟨h, _⟩
              · cases h
              · exact h
            have HR := hide_ (show pv l vars arg (e + 1) = none by rw [H1.out, hx]; rfl)
            clear hor hx
            go_wp2
            go_ret2
            exact ⟨_, _, rfl, .inr ⟨rfl, HR.out⟩, hb01.trans (hb3.mono hb01.size)⟩
          | some x =>
            have hxi := HI.out b1 x (by rw [HN.out]; omega) hx
            rintro en w3 ⟨v, r, rfl, hor, hb3⟩
            obtain ⟨rfl, rfl⟩ : r = true ∧ x = v := by
              rcases hor with ⟨h, h'⟩ | ⟨_, h⟩
              · injection h' with h'
                exact ⟨h, h'⟩
              · cases h
            have HR := hide_ (show pv l vars arg (e + 1) = two o x y by rw [H1.out, hx]; rfl)
            clear hor hx
            obtain ⟨hc3, hf3⟩ := bcell hb3
            have hz3 : w.heap.size < w3.heap.size := by have := hb3.size; omega
            go_wp2_with fail
            refine (refTwo_any o x y _ ho hxi hy).mono ?_
            rintro en w4 ⟨z, r4, rfl, hr4, hb4⟩
            go_wp2
            go_ret2
            refine ⟨_, _, rfl, ?_, ?_⟩
            · rw [HR.out]
              exact hr4
            · have hb03 := hb01.trans (hb3.mono hb01.size)
              exact hb03.trans (hb4.mono hb03.size)
end Go.Proofs.Ytkjgplcfoihohaa
