/-
  What an action does: plain mathematics.
-/
import Derived.Test.YtkjgplcfoihohaaTabF
namespace Go.Proofs.Ytkjgplcfoihohaa
open Go.RowKit

def setOne (vars : List Int) (arg : Int) (cur : List Int) (s : SetM) : Option (List Int) := if (evalR s.val.l vars arg).2 = 0 then some (cur.set s.var.toNat (evalR s.val.l vars arg).1) else none
/-- the variables behind the first j Sets -/
def setRun (l : List SetM) (vars : List Int) (arg : Int) : Nat → Option (List Int)
  | 0 => some vars
  | j + 1 => (setRun l vars arg j).bind fun cur => match l[j]? with | some s => setOne vars arg cur s | none => none
/-- the messages of the first j Emits -/
def emRun (l : List EmM) (vars : List Int) (arg : Int) : Nat → Option (List (Int × Int × Int))
  | 0 => some []
  | j + 1 => (emRun l vars arg j).bind fun cur => match l[j]? with | some e => if (evalR e.arg.l vars arg).2 = 0 then some (cur ++ [(e.tg, e.ac, (evalR e.arg.l vars arg).1)]) else none | none => none
def setAllR (l : List SetM) (vars : List Int) (arg : Int) : Option (List Int) := setRun l vars arg l.length
def emAllR (l : List EmM) (vars : List Int) (arg : Int) : Option (List (Int × Int × Int)) := emRun l vars arg l.length

theorem setRun_yes {l : List SetM} {vars : List Int} {arg : Int} {j : Nat} {cur : List Int} {s : SetM} {x : Int} (h : setRun l vars arg j = some cur) (hs : l[j]? = some s) (he : evalR s.val.l vars arg = (x, 0)) :
    setRun l vars arg (j + 1) = some (cur.set s.var.toNat x) := by
  unfold setRun
  rw [h]
  simp only [Option.bind_some, hs]
  unfold setOne
  rw [he]
  rfl
theorem setRun_step_none {l : List SetM} {vars : List Int} {arg : Int} {k n : Nat} (h : setRun l vars arg k = none) (hk : k ≤ n) : setRun l vars arg n = none := by
  induction n with
  | zero => obtain rfl : k = 0 := by omega
            exact h
  | succ n ih =>
    by_cases e : k = n + 1
    · rw [← e]; exact h
    · show (setRun l vars arg n).bind _ = none
      rw [ih (by omega)]
      rfl
theorem setRun_no {l : List SetM} {vars : List Int} {arg : Int} {j n : Nat} {cur : List Int} {s : SetM} {x e : Int} (h : setRun l vars arg j = some cur) (hs : l[j]? = some s) (he : evalR s.val.l vars arg = (x, e)) (h0 : e ≠ 0) (hn : j + 1 ≤ n) :
    setRun l vars arg n = none := by
  refine setRun_step_none (k := j + 1) ?_ hn
  unfold setRun
  rw [h]
  simp only [Option.bind_some, hs]
  unfold setOne
  rw [he, if_neg h0]
theorem setRun_len {l : List SetM} {vars : List Int} {arg : Int} : ∀ {j : Nat} {cur : List Int}, setRun l vars arg j = some cur → cur.length = vars.length := by
  intro j
  induction j with
  | zero => intro cur h; injection h with h; rw [h]
  | succ j ih =>
    intro cur h
    change (setRun l vars arg j).bind _ = some cur at h
    cases hp : setRun l vars arg j with
    | none => rw [hp] at h; cases h
    | some c =>
      rw [hp] at h
      simp only [Option.bind_some] at h
      cases hl : l[j]? with
      | none => rw [hl] at h; cases h
      | some s =>
        rw [hl] at h
        simp only [setOne] at h
        split at h
        · injection h with h
          rw [← h, List.length_set]
          exact ih hp
        · cases h
theorem emRun_yes {l : List EmM} {vars : List Int} {arg : Int} {j : Nat} {cur : List (Int × Int × Int)} {s : EmM} {x : Int} (h : emRun l vars arg j = some cur) (hs : l[j]? = some s) (he : evalR s.arg.l vars arg = (x, 0)) :
    emRun l vars arg (j + 1) = some (cur ++ [(s.tg, s.ac, x)]) := by
  unfold emRun
  rw [h]
  simp only [Option.bind_some, hs]
  rw [he]
  rfl
theorem emRun_step_none {l : List EmM} {vars : List Int} {arg : Int} {k n : Nat} (h : emRun l vars arg k = none) (hk : k ≤ n) : emRun l vars arg n = none := by
  induction n with
  | zero => obtain rfl : k = 0 := by omega
            exact h
  | succ n ih =>
    by_cases e : k = n + 1
    · rw [← e]; exact h
    · show (emRun l vars arg n).bind _ = none
      rw [ih (by omega)]
      rfl
theorem emRun_no {l : List EmM} {vars : List Int} {arg : Int} {j n : Nat} {cur : List (Int × Int × Int)} {s : EmM} {x e : Int} (h : emRun l vars arg j = some cur) (hs : l[j]? = some s) (he : evalR s.arg.l vars arg = (x, e)) (h0 : e ≠ 0) (hn : j + 1 ≤ n) :
    emRun l vars arg n = none := by
  refine emRun_step_none (k := j + 1) ?_ hn
  unfold emRun
  rw [h]
  simp only [Option.bind_some, hs]
  rw [he, if_neg h0]
theorem emRun_len {l : List EmM} {vars : List Int} {arg : Int} : ∀ {j : Nat} {cur : List (Int × Int × Int)}, emRun l vars arg j = some cur → cur.length = j := by
  intro j
  induction j with
  | zero => intro cur h; injection h with h; rw [← h]; rfl
  | succ j ih =>
    intro cur h
    change (emRun l vars arg j).bind _ = some cur at h
    cases hp : emRun l vars arg j with
    | none => rw [hp] at h; cases h
    | some c =>
      rw [hp] at h
      simp only [Option.bind_some] at h
      cases hl : l[j]? with
      | none => rw [hl] at h; cases h
      | some s =>
        rw [hl] at h
        simp only at h
        split at h
        · injection h with h
          rw [← h, List.length_append, ih hp]
          rfl
        · cases h

/-- what comes of a rule's Sets and Emits -/
def fireOut (tt : Int) : Option (List Int) → Option (List (Int × Int × Int)) → Int × List Int × List (Int × Int × Int) × Int
  | some a, some c => (tt, a, c, 0)
  | _, _ => (0, [], [], 18)
theorem fireOut_yes (tt : Int) (a : List Int) (c : List (Int × Int × Int)) : fireOut tt (some a) (some c) = (tt, a, c, 0) := rfl
theorem fireOut_no1 (tt : Int) (c : Option (List (Int × Int × Int))) : fireOut tt none c = (0, [], [], 18) := rfl
theorem fireOut_no2 (tt : Int) (a : Option (List Int)) : fireOut tt a none = (0, [], [], 18) := by cases a <;> rfl
/-- what an action does: the state, the variables, the messages, the error's number -/
def fireR (st vs : Int) (l : List RuM) (sa ac pa : Int) (vars : List Int) (arg : Int) : Int × List Int × List (Int × Int × Int) × Int :=
  if fireB st vs l vars then
    match idxO (takX sa ac pa vars arg l) l.length with
    | none => (0, [], [], 13)
    | some k => match l[k]? with
      | none => (0, [], [], 13)
      | some r => fireOut r.tt (setAllR r.se.l vars arg) (emAllR r.em.l vars arg)
  else (0, [], [], 10)

/-- what is known of a rule of a contract that may be -/
theorem mayT_rule {st vs : Int} {l : List RuM} {k : Nat} {r : RuM} (h : mayT st vs l = true) (hr : l[k]? = some r) : ruB st vs r = true := by
  unfold mayT rusB at h
  simp only [Bool.and_eq_true, decide_eq_true_eq, Bool.not_eq_true'] at h
  have := anyB_false.1 h.2.2.2 k (List.getElem?_eq_some_iff.1 hr).1
  unfold ruX at this
  rw [hr] at this
  simpa using this
theorem mayT_num {st vs : Int} {l : List RuM} (h : mayT st vs l = true) : (1 ≤ st ∧ st ≤ 32) ∧ (0 ≤ vs ∧ vs ≤ 8) ∧ l.length ≤ 32 := by
  unfold mayT rusB at h
  simp only [Bool.and_eq_true, decide_eq_true_eq] at h
  exact ⟨inB_true.1 h.1, inB_true.1 h.2.1, h.2.2.1⟩
theorem ruB_parts {st vs : Int} {r : RuM} (h : ruB st vs r = true) : (0 ≤ r.fr ∧ r.fr ≤ st - 1) ∧ (0 ≤ r.tt ∧ r.tt ≤ st - 1) ∧ (0 ≤ r.ac ∧ r.ac ≤ 31) ∧ (0 ≤ r.pa ∧ r.pa ≤ 7) ∧ guB vs r.gu.l = true ∧ setsB vs r.se.l = true ∧ emsB vs r.em.l = true := by
  unfold ruB at h
  simp only [Bool.and_eq_true] at h
  exact ⟨inB_true.1 h.1, inB_true.1 h.2.1, inB_true.1 h.2.2.1, inB_true.1 h.2.2.2.1, h.2.2.2.2.1, h.2.2.2.2.2.1, h.2.2.2.2.2.2⟩
theorem setsB_len {vs : Int} {l : List SetM} (h : setsB vs l = true) : l.length ≤ 8 := by
  unfold setsB at h
  simp only [Bool.and_eq_true, decide_eq_true_eq] at h
  exact h.1
theorem emsB_len {vs : Int} {l : List EmM} (h : emsB vs l = true) : l.length ≤ 4 := by
  unfold emsB at h
  simp only [Bool.and_eq_true, decide_eq_true_eq] at h
  exact h.1
theorem setsB_at {vs : Int} {l : List SetM} {k : Nat} {s : SetM} (h : setsB vs l = true) (hs : l[k]? = some s) : (leastB l k ≤ s.var ∧ s.var ≤ vs - 1) ∧ mayB s.val.l vs = true := by
  unfold setsB at h
  simp only [Bool.and_eq_true, Bool.not_eq_true'] at h
  have h2 := anyB_false.1 h.2 k (List.getElem?_eq_some_iff.1 hs).1
  unfold setX at h2
  rw [hs] at h2
  simp only [Bool.or_eq_false_iff, Bool.not_eq_false'] at h2
  exact ⟨inB_true.1 h2.1, h2.2⟩
theorem emsB_at {vs : Int} {l : List EmM} {k : Nat} {s : EmM} (h : emsB vs l = true) (hs : l[k]? = some s) : s.tg < 16 ∧ (0 ≤ s.ac ∧ s.ac ≤ 31) ∧ mayB s.arg.l vs = true := by
  unfold emsB at h
  simp only [Bool.and_eq_true, Bool.not_eq_true'] at h
  have h2 := anyB_false.1 h.2 k (List.getElem?_eq_some_iff.1 hs).1
  unfold emX at h2
  rw [hs] at h2
  simp only [Bool.or_eq_false_iff, Bool.not_eq_false', decide_eq_false_iff_not] at h2
  exact ⟨by omega, inB_true.1 h2.2.1, h2.2.2⟩
theorem setsB_var : ∀ {vs : Int} {l : List SetM} {k : Nat} {s : SetM}, setsB vs l = true → l[k]? = some s → 0 ≤ s.var ∧ s.var < vs := by
  intro vs l k
  induction k with
  | zero =>
    intro s h hs
    have := (setsB_at h hs).1
    have e : leastB l 0 = 0 := rfl
    omega
  | succ k ih =>
    intro s h hs
    have := (setsB_at h hs).1
    have hk : k < l.length := by have := (List.getElem?_eq_some_iff.1 hs).1; omega
    have hp := ih (s := l[k]) h (List.getElem?_eq_getElem hk)
    have e : leastB l (k + 1) = l[k].var + 1 := by
      show (match l[k]? with | some s => s.var + 1 | none => 0) = _
      rw [List.getElem?_eq_getElem hk]
    omega
end Go.Proofs.Ytkjgplcfoihohaa
