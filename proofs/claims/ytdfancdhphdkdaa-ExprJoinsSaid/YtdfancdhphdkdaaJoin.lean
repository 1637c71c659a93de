/-
  Plain mathematics of formulas that stand one behind the other. Nothing here speaks of a program.
-/
import Derived.Test.YtdfancdhphdkdaaForm
namespace Go.Proofs.Ytdfancdhphdkdaa

/-- what the stack comes to in the end -/
def outR (s : Option (List Int)) : Int × Int := match s with | some [v] => (v, 0) | _ => (0, 18)
theorem evalR_may {l : List (Int × Int)} {vars : List Int} {arg : Int} (h : mayB l vars.length = true) : evalR l vars arg = outR (stk l vars arg l.length) := by
  have h2 := stk_of_beg (vars := vars) (arg := arg) l.length 0 [] (mayB_true h).2.2 rfl
  unfold evalR
  rw [if_pos h, h2]
  cases pv l vars arg l.length <;> rfl

section
variable {l m : List (Int × Int)} {vars : List Int} {arg : Int}
theorem tk_left {k : Nat} (h : k < l.length) : tk (l ++ m) k = tk l k := by
  simp only [tk, List.getD_eq_getElem?_getD, List.getElem?_append_left h]
theorem tk_right (k : Nat) : tk (l ++ m) (l.length + k) = tk m k := by
  simp only [tk, List.getD_eq_getElem?_getD]
  rw [List.getElem?_append_right (by omega), Nat.add_sub_cancel_left]
theorem cnt_left {e : Nat} (h : e ≤ l.length) : cnt (l ++ m) e = cnt l e := by
  induction e with
  | zero => rfl
  | succ e ih => rw [cnt, cnt, ih (by omega), tk_left (by omega)]
theorem stk_left {e : Nat} (h : e ≤ l.length) : stk (l ++ m) vars arg e = stk l vars arg e := by
  induction e with
  | zero => rfl
  | succ e ih => rw [stk, stk, ih (by omega), tk_left (by omega)]
theorem cnt_right {c : Nat} (hc : cnt l l.length = some c) : ∀ {e d : Nat}, cnt m e = some d → cnt (l ++ m) (l.length + e) = some (c + d) := by
  intro e
  induction e with
  | zero => intro d h; injection h with h; subst h; rw [Nat.add_zero, cnt_left (Nat.le_refl _), hc]; rfl
  | succ e ih =>
    intro d h
    cases hd : cnt m e with
    | none => rw [cnt, hd] at h; cases h
    | some d' =>
      rw [cnt_step hd] at h
      rw [← Nat.add_assoc, cnt_step (ih hd), tk_right]
      split at h
      · injection h with h
        rw [if_pos (by omega)]
        congr 1
        omega
      · cases h
theorem stepV_frame {t : Int × Int} {T S : List Int} (h : takesN t.1 ≤ T.length) : stepV vars arg t (T ++ S) = (stepV vars arg t T).map (· ++ S) := by
  have hle := takesN_le t.1
  unfold stepV
  rcases (show takesN t.1 = 0 ∨ takesN t.1 = 1 ∨ takesN t.1 = 2 by omega) with h0 | h0 | h0
  · rw [if_pos h0, if_pos h0]; rfl
  · rw [if_neg (by omega), if_pos h0, if_neg (by omega), if_pos h0]
    match T, h with
    | [], h => exact absurd h (by rw [h0]; simp)
    | x :: T, _ => rfl
  · rw [if_neg (by omega), if_neg (by omega), if_neg (by omega), if_neg (by omega)]
    match T, h with
    | [], h => exact absurd h (by rw [h0]; simp)
    | [_], h => exact absurd h (by rw [h0]; simp)
    | y :: x :: T, _ =>
      simp only [List.cons_append]
      cases two t.1 x y <;> rfl
theorem stk_right {S : List Int} (hS : stk l vars arg l.length = some S) : ∀ {e d : Nat}, cnt m e = some d → stk (l ++ m) vars arg (l.length + e) = (stk m vars arg e).map (· ++ S) := by
  intro e
  induction e with
  | zero => intro d h; rw [Nat.add_zero, stk_left (Nat.le_refl _), hS]; rfl
  | succ e ih =>
    intro d h
    cases hd : cnt m e with
    | none => rw [cnt, hd] at h; cases h
    | some d' =>
      rw [cnt_step hd] at h
      have h1 := ih hd
      cases hT : stk m vars arg e with
      | none =>
        rw [hT] at h1
        rw [stk_none h1 (by omega), stk_none hT (by omega)]; rfl
      | some T =>
        rw [hT] at h1
        have hl := stk_cnt hT
        rw [hd] at hl
        injection hl with hl
        rw [← Nat.add_assoc, stk_step h1, stk_step hT, tk_right]
        split at h
        · exact stepV_frame (by omega)
        · cases h

theorem stk_one (h : mayB l vars.length = true) : (∃ x, stk l vars arg l.length = some [x] ∧ evalR l vars arg = (x, 0)) ∨ (stk l vars arg l.length = none ∧ evalR l vars arg = (0, 18)) := by
  have he := evalR_may (arg := arg) h
  cases hs : stk l vars arg l.length with
  | none => exact .inr ⟨rfl, by rw [he, hs]; rfl⟩
  | some S =>
    have h1 := stk_cnt hs
    rw [(cnt_one l _).2 (mayB_true h).2.2] at h1
    injection h1 with h1
    match S, h1 with
    | [x], _ => exact .inl ⟨x, rfl, by rw [he, hs]; rfl⟩

theorem mayB_all {vs : Int} (h : mayB l vs = true) : ∀ t ∈ l, stdB vs t = true := by
  unfold mayB at h
  simp only [Bool.and_eq_true, List.all_eq_true] at h
  exact h.2.1
theorem mayB_of {vs : Int} (h1 : l.length ≤ 24) (h2 : ∀ t ∈ l, stdB vs t = true) (h3 : cnt l l.length = some 1) : mayB l vs = true :=
  mayB_mk h1 (fun _ hk => h2 _ (tk_mem hk)) h3
theorem takesN_two {o : Int} (h : 4 ≤ o ∧ o ≤ 10) : takesN o = 2 := by
  unfold takesN
  rw [if_neg (by omega), if_neg (by omega)]
theorem stdB_op {vs o : Int} (h : 3 ≤ o ∧ o ≤ 11) : stdB vs (o, 0) = true := by
  unfold stdB
  simp only
  rw [if_neg (by omega), if_neg (by omega), if_pos h]
  rfl
theorem I64_stk {x : Int} (hl : ∀ t ∈ l, I64 t.2) (hv : ∀ v ∈ vars, I64 v) (ha : I64 arg) (h : stk l vars arg l.length = some [x]) : I64 x := stk_I64 hl hv ha (Nat.le_refl _) h x (by simp)

theorem may_joins {o vs : Int} (ho : 4 ≤ o ∧ o ≤ 10) (hl : mayB l vs = true) (hm : mayB m vs = true) (h23 : l.length + m.length ≤ 23) : mayB (l ++ m ++ [(o, 0)]) vs = true := by
  refine mayB_of (by simp; omega) ?_ ?_
  · intro t ht
    simp only [List.mem_append, List.mem_singleton] at ht
    rcases ht with (ht | ht) | rfl
    · exact mayB_all hl t ht
    · exact mayB_all hm t ht
    · exact stdB_op (by omega)
  · have h1 := cnt_right ((cnt_one l _).2 (mayB_true hl).2.2) ((cnt_one m _).2 (mayB_true hm).2.2)
    have h2 : cnt (l ++ m ++ [(o, 0)]) (l ++ m).length = some (1 + 1) := by rw [cnt_left (Nat.le_refl _), List.length_append]; exact h1
    have h3 := tk_right (l := l ++ m) (m := [(o, 0)]) 0
    rw [Nat.add_zero] at h3
    rw [List.length_append, List.length_singleton, cnt_step h2, h3]
    show (if takesN o ≤ 1 + 1 then some (1 + 1 + 1 - takesN o) else none) = some 1
    rw [takesN_two ho]
    rfl

theorem may_three {o x y : Int} (ho : 4 ≤ o ∧ o ≤ 10) : mayB [(1, x), (1, y), (o, 0)] 0 = true := by
  refine mayB_of (by simp) ?_ ?_
  · intro t ht
    simp only [List.mem_cons, List.not_mem_nil, or_false] at ht
    rcases ht with rfl | rfl | rfl
    · rfl
    · rfl
    · exact stdB_op (by omega)
  · show (if takesN o ≤ 2 then some (2 + 1 - takesN o) else none) = some 1
    rw [takesN_two ho]
    rfl
theorem eval_three {o x y : Int} (ho : 4 ≤ o ∧ o ≤ 10) : evalR [(1, x), (1, y), (o, 0)] [] 0 = outR ((two o x y).map (· :: [])) := by
  rw [evalR_may (may_three ho)]
  have h : stk [(1, x), (1, y), (o, 0)] [] 0 3 = (two o x y).map (· :: []) := by
    show stepV [] 0 (o, 0) [y, x] = _
    unfold stepV
    rw [if_neg (show ¬takesN o = 0 by rw [takesN_two ho]; omega), if_neg (show ¬takesN o = 1 by rw [takesN_two ho]; omega)]
  exact congrArg outR h

theorem joins {o : Int} (ho : 4 ≤ o ∧ o ≤ 10) (hl : mayB l vars.length = true) (hm : mayB m vars.length = true) (h23 : l.length + m.length ≤ 23) :
    (∃ x y, evalR l vars arg = (x, 0) ∧ evalR m vars arg = (y, 0) ∧ stk l vars arg l.length = some [x] ∧ stk m vars arg m.length = some [y] ∧ evalR (l ++ m ++ [(o, 0)]) vars arg = evalR [(1, x), (1, y), (o, 0)] [] 0) ∨
    (evalR (l ++ m ++ [(o, 0)]) vars arg = (0, 18) ∧ (evalR l vars arg = (0, 18) ∨ ∃ x, evalR l vars arg = (x, 0) ∧ evalR m vars arg = (0, 18))) := by
  have hj := may_joins ho hl hm h23
  have he := evalR_may (arg := arg) hj
  have hlen : (l ++ m ++ [(o, 0)]).length = (l.length + m.length) + 1 := by simp; omega
  rw [hlen] at he
  have hleft : stk (l ++ m ++ [(o, 0)]) vars arg (l.length + m.length) = stk (l ++ m) vars arg (l.length + m.length) := stk_left (by simp)
  have hcm := (cnt_one m _).2 (mayB_true hm).2.2
  rcases stk_one (arg := arg) hl with ⟨x, hx, ex⟩ | ⟨hx, ex⟩
  · have h1 := stk_right hx hcm
    rcases stk_one (arg := arg) hm with ⟨y, hy, ey⟩ | ⟨hy, ey⟩
    · refine .inl ⟨x, y, ex, ey, hx, hy, ?_⟩
      rw [hy] at h1
      rw [h1] at hleft
      have h3 := tk_right (l := l ++ m) (m := [(o, 0)]) 0
      rw [Nat.add_zero, List.length_append] at h3
      have h4 := stk_step hleft
      rw [h3] at h4
      rw [he, h4, eval_three ho]
      show outR (stepV vars arg (o, 0) [y, x]) = _
      unfold stepV
      rw [if_neg (show ¬takesN o = 0 by rw [takesN_two ho]; omega), if_neg (show ¬takesN o = 1 by rw [takesN_two ho]; omega)]
    · rw [hy] at h1
      rw [h1] at hleft
      exact .inr ⟨by rw [he, stk_none hleft (by omega)]; rfl, .inr ⟨x, ex, ey⟩⟩
  · have h1 : stk (l ++ m) vars arg l.length = none := by rw [stk_left (Nat.le_refl _)]; exact hx
    rw [stk_none h1 (by omega)] at hleft
    exact .inr ⟨by rw [he, stk_none hleft (by omega)]; rfl, .inl ex⟩

theorem may_nots {vs : Int} (hl : mayB l vs = true) (h22 : l.length ≤ 22) : mayB (l ++ [(11, 0), (11, 0)]) vs = true := by
  refine mayB_of (by simp; omega) ?_ ?_
  · intro t ht
    simp only [List.mem_append, List.mem_cons, List.not_mem_nil, or_false] at ht
    rcases ht with ht | rfl | rfl
    · exact mayB_all hl t ht
    · exact stdB_op (by omega)
    · exact stdB_op (by omega)
  · have h1 := cnt_right (m := [(11, 0), (11, 0)]) ((cnt_one l _).2 (mayB_true hl).2.2) (e := 0) rfl
    rw [Nat.add_zero] at h1
    have h3 := tk_right (l := l) (m := [(11, 0), (11, 0)]) 0
    have h4 := tk_right (l := l) (m := [(11, 0), (11, 0)]) 1
    rw [Nat.add_zero] at h3
    have h5 := cnt_step h1
    rw [h3] at h5
    have h6 : cnt (l ++ [(11, 0), (11, 0)]) (l.length + 1) = some 1 := h5
    have h7 := cnt_step h6
    rw [h4] at h7
    rw [List.length_append]
    exact h7
theorem nots (hl : mayB l vars.length = true) (h22 : l.length ≤ 22) :
    (∃ x, evalR l vars arg = (x, 0) ∧ evalR (l ++ [(11, 0), (11, 0)]) vars arg = (tru (decide (x ≠ 0)), 0) ∧ holdsB l vars arg = decide (x ≠ 0)) ∨
    (evalR l vars arg = (0, 18) ∧ evalR (l ++ [(11, 0), (11, 0)]) vars arg = (0, 18) ∧ holdsB l vars arg = false) := by
  have hj := may_nots hl h22
  have he := evalR_may (arg := arg) hj
  have h0 : l.length ≠ 0 := by
    intro h
    have h1 := (cnt_one l _).2 (mayB_true hl).2.2
    rw [h] at h1
    injection h1 with h1
    omega
  have hlen : (l ++ [((11 : Int), (0 : Int)), (11, 0)]).length = l.length + 1 + 1 := by simp
  rw [hlen] at he
  rcases stk_one (arg := arg) hl with ⟨x, hx, ex⟩ | ⟨hx, ex⟩
  · have h1 : stk (l ++ [(11, 0), (11, 0)]) vars arg l.length = some [x] := by rw [stk_left (Nat.le_refl _)]; exact hx
    have h3 := tk_right (l := l) (m := [(11, 0), (11, 0)]) 0
    have h4 := tk_right (l := l) (m := [(11, 0), (11, 0)]) 1
    rw [Nat.add_zero] at h3
    have h5 := stk_step h1
    rw [h3] at h5
    have h6 : stk (l ++ [(11, 0), (11, 0)]) vars arg (l.length + 1) = some [tru (decide (x = 0))] := h5
    have h7 := stk_step h6
    rw [h4] at h7
    have h8 : stk (l ++ [(11, 0), (11, 0)]) vars arg (l.length + 1 + 1) = some [tru (decide (tru (decide (x = 0)) = 0))] := h7
    refine .inl ⟨x, ex, ?_, ?_⟩
    · rw [he, h8]
      by_cases h : x = 0 <;> simp [h, tru, outR]
    · unfold holdsB
      rw [ex]
      simp [h0]
  · have h1 : stk (l ++ [(11, 0), (11, 0)]) vars arg l.length = none := by rw [stk_left (Nat.le_refl _)]; exact hx
    refine .inr ⟨ex, by rw [he, stk_none h1 (by omega)]; rfl, ?_⟩
    unfold holdsB
    rw [ex]
    simp [h0]
end
end Go.Proofs.Ytdfancdhphdkdaa
