/-
  What an action does, variable by variable: plain mathematics.
-/
import Derived.Test.YtkjgplcfoihohaaFireF
namespace Go.Proofs.Ytkjgplcfoihohaa
open Go.RowKit

/-- what a variable has behind the first k Sets -/
def pick (l : List SetM) (vars : List Int) (arg : Int) (v : Nat) : Nat → Int
  | 0 => vars.getD v 0
  | k + 1 => match l[k]? with | some s => if s.var = (v : Int) then (evalR s.val.l vars arg).1 else pick l vars arg v k | none => pick l vars arg v k
theorem pick_hit {l : List SetM} {vars : List Int} {arg : Int} {v k : Nat} {s : SetM} (hs : l[k]? = some s) (h : s.var = (v : Int)) : pick l vars arg v (k + 1) = (evalR s.val.l vars arg).1 := by
  show (match l[k]? with | some s => if s.var = (v : Int) then (evalR s.val.l vars arg).1 else pick l vars arg v k | none => pick l vars arg v k) = _
  rw [hs]
  simp [h]
theorem pick_miss {l : List SetM} {vars : List Int} {arg : Int} {v k : Nat} {s : SetM} (hs : l[k]? = some s) (h : s.var ≠ (v : Int)) : pick l vars arg v (k + 1) = pick l vars arg v k := by
  show (match l[k]? with | some s => if s.var = (v : Int) then (evalR s.val.l vars arg).1 else pick l vars arg v k | none => pick l vars arg v k) = _
  rw [hs]
  simp [h]
theorem setRun_bad {l : List SetM} {vars : List Int} {arg : Int} {j n : Nat} {s : SetM} (hs : l[j]? = some s) (h : (evalR s.val.l vars arg).2 ≠ 0) (hn : j + 1 ≤ n) : setRun l vars arg n = none := by
  cases hp : setRun l vars arg j with
  | none => exact setRun_step_none hp (by omega)
  | some c => exact setRun_no hp hs rfl h hn
theorem emRun_bad {l : List EmM} {vars : List Int} {arg : Int} {j n : Nat} {s : EmM} (hs : l[j]? = some s) (h : (evalR s.arg.l vars arg).2 ≠ 0) (hn : j + 1 ≤ n) : emRun l vars arg n = none := by
  cases hp : emRun l vars arg j with
  | none => exact emRun_step_none hp (by omega)
  | some c => exact emRun_no hp hs rfl h hn
/-- where all Sets come to numbers -/
theorem setRun_good {l : List SetM} {vars : List Int} {arg : Int} (hp : ∀ (k : Nat) (s : SetM), l[k]? = some s → 0 ≤ s.var) (h : ∀ (k : Nat) (s : SetM), l[k]? = some s → (evalR s.val.l vars arg).2 = 0) :
    ∀ j, j ≤ l.length → ∃ cur, setRun l vars arg j = some cur ∧ ∀ v, v < vars.length → cur.getD v 0 = pick l vars arg v j := by
  intro j
  induction j with
  | zero => intro _; exact ⟨vars, rfl, fun v _ => rfl⟩
  | succ j ih =>
    intro hj
    obtain ⟨cur, hc, hv⟩ := ih (by omega)
    have hs := List.getElem?_eq_getElem (show j < l.length by omega)
    have h0 := h j _ hs
    have hp0 := hp j _ hs
    have he : evalR l[j].val.l vars arg = ((evalR l[j].val.l vars arg).1, 0) := by rw [← h0]
    refine ⟨_, setRun_yes hc hs he, fun v hlt => ?_⟩
    have hcl := setRun_len hc
    rw [List.getD_eq_getElem?_getD, List.getElem?_set]
    by_cases e : l[j].var = (v : Int)
    · rw [pick_hit hs e, if_pos (by omega), if_pos (by omega)]
      rfl
    · rw [pick_miss hs e, if_neg (by omega), ← hv v hlt, List.getD_eq_getElem?_getD]
theorem setAll_good {l : List SetM} {vars : List Int} {arg : Int} {m : Nat} (hm : vars.length = m) (hp : ∀ (k : Nat) (s : SetM), l[k]? = some s → 0 ≤ s.var) (h : ∀ (k : Nat) (s : SetM), l[k]? = some s → (evalR s.val.l vars arg).2 = 0) :
    setAllR l vars arg = some ((List.range m).map fun v => pick l vars arg v l.length) := by
  obtain ⟨cur, hc, hv⟩ := setRun_good hp h l.length (Nat.le_refl _)
  unfold setAllR
  rw [hc]
  congr 1
  have hcl := setRun_len hc
  apply List.ext_getElem?
  intro i
  by_cases hi : i < m
  · have := hv i (by omega)
    rw [List.getD_eq_getElem?_getD, List.getElem?_eq_getElem (by omega)] at this
    rw [List.getElem?_eq_getElem (by omega)]
    simp [hi] at this ⊢
    exact this
  · rw [List.getElem?_eq_none (by omega), List.getElem?_eq_none (by simp; omega)]
theorem evalR_err {l : List (Int × Int)} {vars : List Int} {arg : Int} (h : mayB l vars.length = true) (he : (evalR l vars arg).2 ≠ 0) : (evalR l vars arg).2 = 18 := by
  unfold evalR at he ⊢
  rw [if_pos h] at he ⊢
  cases hp : pv l vars arg l.length with
  | none => rfl
  | some v => rw [hp] at he; exact absurd rfl he
theorem range_snoc (f : Nat → Int) (v : Nat) : (List.range (v + 1)).map f = (List.range v).map f ++ [f v] := by rw [List.range_succ, List.map_append]; rfl
end Go.Proofs.Ytkjgplcfoihohaa
