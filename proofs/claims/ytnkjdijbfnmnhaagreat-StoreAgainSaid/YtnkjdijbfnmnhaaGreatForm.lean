/-
  Plain mathematics of formulas: where a part begins, what lies on the stack, what a part comes to. Nothing here speaks of a program.
-/
import Derived.WalkKit
namespace Go.Proofs.YtnkjdijbfnmnhaaGreat

/-- a number of 64 bits -/
def I64 (x : Int) : Prop := -9223372036854775808 ≤ x ∧ x ≤ 9223372036854775807
instance (x : Int) : Decidable (I64 x) := by unfold I64; infer_instance

/-- how many numbers a sign takes off -/
def takesN (o : Int) : Nat := if o = 1 ∨ o = 2 ∨ o = 3 then 0 else if o = 11 then 1 else 2
theorem takesN_le (o : Int) : takesN o ≤ 2 := by unfold takesN; split <;> (try split) <;> omega

/-- may a sign be, with so many variables, wherever it stands? -/
def stdB (vs : Int) (t : Int × Int) : Bool :=
  if t.1 = 1 then true else if t.1 = 2 then decide (0 ≤ t.2 ∧ t.2 < vs) else if 3 ≤ t.1 ∧ t.1 ≤ 11 then decide (t.2 = 0) else false

/-- 1 or 0 -/
def tru (b : Bool) : Int := if b then 1 else 0
theorem tru_I64 (b : Bool) : I64 (tru b) := by cases b <;> decide
/-- what a sign makes of two numbers, with room for all -/
def twoE (o a b : Int) : Int :=
  if o = 4 then a + b else if o = 5 then a - b else if o = 6 then a * b else if o = 7 then tru (decide (a < b)) else if o = 8 then tru (decide (a = b))
  else if o = 9 then tru (decide (a ≠ 0 ∧ b ≠ 0)) else tru (decide (a ≠ 0 ∨ b ≠ 0))
/-- the same, if it has room -/
def two (o a b : Int) : Option Int := if I64 (twoE o a b) then some (twoE o a b) else none
theorem two_I64 {o a b v : Int} (h : two o a b = some v) : I64 v := by
  unfold two at h
  split at h
  · injection h with h
    rw [← h]
    assumption
  · cases h

/-- the number that a sign names -/
def named (vars : List Int) (arg : Int) (t : Int × Int) : Int := if t.1 = 1 then t.2 else if t.1 = 2 then vars.getD t.2.toNat 0 else arg

def tk (l : List (Int × Int)) (k : Nat) : Int × Int := l.getD k (0, 0)
theorem tk_mem {l : List (Int × Int)} {k : Nat} (h : k < l.length) : tk l k ∈ l := by
  unfold tk
  rw [List.getD_eq_getElem?_getD, List.getElem?_eq_getElem h]
  exact List.getElem_mem h

/-- where the part begins that the first e signs end with -/
def beg (l : List (Int × Int)) : Nat → Option Nat
  | 0 => none
  | e + 1 =>
    if takesN (tk l e).1 = 0 then some e
    else if takesN (tk l e).1 = 1 then beg l e
    else match beg l e with
      | none => none
      | some b => if _h : b < e + 1 then beg l b else none
termination_by e => e

theorem beg_zero (l : List (Int × Int)) : beg l 0 = none := by rw [beg]
theorem beg_lt (l : List (Int × Int)) : ∀ e b, beg l e = some b → b < e := by
  intro e
  induction e using Nat.strongRecOn with
  | ind e ih =>
    intro b h
    match e, ih, h with
    | 0, _, h => rw [beg] at h; cases h
    | e + 1, ih, h =>
      rw [beg] at h
      split at h
      · injection h with h; omega
      · split at h
        · have := ih e (by omega) b h; omega
        · split at h
          · cases h
          · split at h
            · rename_i b' _ hb'
              have := ih b' hb' b h
              omega
            · cases h
theorem beg_leaf {l : List (Int × Int)} {e : Nat} (h : takesN (tk l e).1 = 0) : beg l (e + 1) = some e := by rw [beg, if_pos h]
theorem beg_not {l : List (Int × Int)} {e : Nat} (h : takesN (tk l e).1 = 1) : beg l (e + 1) = beg l e := by rw [beg, if_neg (by omega), if_pos h]
theorem beg_two {l : List (Int × Int)} {e : Nat} (h : takesN (tk l e).1 = 2) : beg l (e + 1) = (beg l e).bind (beg l) := by
  rw [beg, if_neg (by omega), if_neg (by omega)]
  cases hb : beg l e with
  | none => rfl
  | some b =>
    have := beg_lt l e b hb
    simp only [Option.bind_some]
    rw [dif_pos (by omega)]

/-- how many numbers lie on the stack behind the first e signs -/
def cnt (l : List (Int × Int)) : Nat → Option Nat
  | 0 => some 0
  | e + 1 => (cnt l e).bind fun c => if takesN (tk l e).1 ≤ c then some (c + 1 - takesN (tk l e).1) else none
theorem cnt_step {l : List (Int × Int)} {e c : Nat} (h : cnt l e = some c) : cnt l (e + 1) = if takesN (tk l e).1 ≤ c then some (c + 1 - takesN (tk l e).1) else none := by
  rw [cnt, h]; rfl
theorem cnt_le {l : List (Int × Int)} : ∀ {e c : Nat}, cnt l e = some c → c ≤ e := by
  intro e
  induction e with
  | zero => intro c h; injection h with h; omega
  | succ e ih =>
    intro c h
    rw [cnt] at h
    cases hc : cnt l e with
    | none => rw [hc] at h; cases h
    | some d =>
      rw [hc] at h
      have := ih hc
      simp only [Option.bind_some] at h
      split at h
      · injection h with h; omega
      · cases h
theorem cnt_none {l : List (Int × Int)} {k n : Nat} (h : cnt l k = none) (hk : k ≤ n) : cnt l n = none := by
  induction n with
  | zero => obtain rfl : k = 0 := by omega
            exact h
  | succ n ih =>
    rcases Nat.lt_or_ge n k with h1 | h1
    · obtain rfl : k = n + 1 := by omega
      exact h
    · rw [cnt, ih h1]; rfl

theorem cnt_of_beg (l : List (Int × Int)) : ∀ e b c, beg l e = some b → cnt l b = some c → cnt l e = some (c + 1) := by
  intro e
  induction e using Nat.strongRecOn with
  | ind e ih =>
    intro b c h hc
    match e, ih, h with
    | 0, _, h => rw [beg_zero] at h; cases h
    | e + 1, ih, h =>
      have hle := takesN_le (tk l e).1
      rcases (show takesN (tk l e).1 = 0 ∨ takesN (tk l e).1 = 1 ∨ takesN (tk l e).1 = 2 by omega) with h0 | h0 | h0
      · rw [beg_leaf h0] at h
        injection h with h
        subst h
        rw [cnt_step hc, h0]; rfl
      · rw [beg_not h0] at h
        rw [cnt_step (ih e (by omega) b c h hc), h0, if_pos (by omega)]; rfl
      · rw [beg_two h0] at h
        cases hb : beg l e with
        | none => rw [hb] at h; cases h
        | some b1 =>
          rw [hb] at h
          have h1 : beg l b1 = some b := h
          have := beg_lt l e b1 hb
          rw [cnt_step (ih e (by omega) b1 (c + 1) hb (ih b1 (by omega) b c h1 hc)), h0, if_pos (by omega)]; rfl

/-- the parts that lie on the stack, from the last one on -/
def chain (l : List (Int × Int)) : Nat → Nat → Prop
  | 0, e => e = 0
  | c + 1, e => ∃ b, beg l e = some b ∧ chain l c b
theorem chain_of_cnt (l : List (Int × Int)) : ∀ e c, cnt l e = some c → chain l c e := by
  intro e
  induction e with
  | zero => intro c h; injection h with h; subst h; rfl
  | succ e ih =>
    intro c h
    rw [cnt] at h
    cases hc : cnt l e with
    | none => rw [hc] at h; cases h
    | some d =>
      rw [hc] at h
      have hch := ih d hc
      simp only [Option.bind_some] at h
      have hle := takesN_le (tk l e).1
      split at h
      · rename_i hd
        injection h with h
        rcases (show takesN (tk l e).1 = 0 ∨ takesN (tk l e).1 = 1 ∨ takesN (tk l e).1 = 2 by omega) with h0 | h0 | h0
        · obtain rfl : c = d + 1 := by omega
          exact ⟨e, beg_leaf h0, hch⟩
        · obtain ⟨d', rfl⟩ : ∃ d', d = d' + 1 := ⟨d - 1, by omega⟩
          obtain rfl : c = d' + 1 := by omega
          obtain ⟨b, hb, hcb⟩ := hch
          exact ⟨b, (beg_not h0).trans hb, hcb⟩
        · obtain ⟨d', rfl⟩ : ∃ d', d = d' + 2 := ⟨d - 2, by omega⟩
          obtain rfl : c = d' + 1 := by omega
          obtain ⟨b, hb, b1, hb1, hcb⟩ := hch
          exact ⟨b1, by rw [beg_two h0, hb]; exact hb1, hcb⟩
      · cases h
theorem cnt_one (l : List (Int × Int)) (n : Nat) : cnt l n = some 1 ↔ beg l n = some 0 := by
  refine ⟨fun h => ?_, fun h => cnt_of_beg l n 0 0 h rfl⟩
  obtain ⟨b, hb, h0⟩ := chain_of_cnt l n 1 h
  have h0' : b = 0 := h0
  rw [hb, h0']

/-- may these signs be a formula, with so many variables? -/
def mayB (l : List (Int × Int)) (vs : Int) : Bool := decide (l.length ≤ 24) && (l.all (stdB vs) && (cnt l l.length == some 1))
theorem mayB_true {l : List (Int × Int)} {vs : Int} (h : mayB l vs = true) : l.length ≤ 24 ∧ (∀ k, k < l.length → stdB vs (tk l k) = true) ∧ beg l l.length = some 0 := by
  unfold mayB at h
  simp only [Bool.and_eq_true, decide_eq_true_eq, List.all_eq_true, beq_iff_eq] at h
  exact ⟨h.1, fun k hk => h.2.1 _ (tk_mem hk), (cnt_one l _).1 h.2.2⟩
theorem mayB_mk {l : List (Int × Int)} {vs : Int} (h1 : l.length ≤ 24) (h2 : ∀ k, k < l.length → stdB vs (tk l k) = true) (h3 : cnt l l.length = some 1) : mayB l vs = true := by
  unfold mayB
  simp only [Bool.and_eq_true, decide_eq_true_eq, List.all_eq_true, beq_iff_eq]
  refine ⟨h1, fun t ht => ?_, h3⟩
  obtain ⟨k, hk, rfl⟩ := List.getElem_of_mem ht
  have := h2 k hk
  rwa [tk, List.getD_eq_getElem?_getD, List.getElem?_eq_getElem hk] at this
theorem mayB_long {l : List (Int × Int)} {vs : Int} (h : 24 < l.length) : mayB l vs = false := by
  unfold mayB
  rw [decide_eq_false (by omega), Bool.false_and]
theorem mayB_odd {l : List (Int × Int)} {vs : Int} {k : Nat} (hk : k < l.length) (h : stdB vs (tk l k) = false) : mayB l vs = false := by
  cases hm : mayB l vs with
  | false => rfl
  | true => rw [(mayB_true hm).2.1 k hk] at h; cases h
theorem mayB_less {l : List (Int × Int)} {vs : Int} {k : Nat} (hk : k ≤ l.length) (h : cnt l k = none) : mayB l vs = false := by
  cases hm : mayB l vs with
  | false => rfl
  | true =>
    have := cnt_none h hk
    rw [(cnt_one l _).2 (mayB_true hm).2.2] at this
    cases this
theorem mayB_count {l : List (Int × Int)} {vs : Int} {c : Nat} (h : cnt l l.length = some c) (hc : c ≠ 1) : mayB l vs = false := by
  cases hm : mayB l vs with
  | false => rfl
  | true =>
    rw [(cnt_one l _).2 (mayB_true hm).2.2] at h
    injection h with h
    omega
theorem mayB_beg {l : List (Int × Int)} {vs : Int} (h : beg l l.length ≠ some 0) : mayB l vs = false := by
  cases hm : mayB l vs with
  | false => rfl
  | true => exact absurd (mayB_true hm).2.2 h

/-- what the part comes to that the first e signs end with -/
def pv (l : List (Int × Int)) (vars : List Int) (arg : Int) : Nat → Option Int
  | 0 => none
  | e + 1 =>
    if takesN (tk l e).1 = 0 then some (named vars arg (tk l e))
    else if takesN (tk l e).1 = 1 then (pv l vars arg e).map fun y => tru (decide (y = 0))
    else match pv l vars arg e with
      | none => none
      | some y =>
        match beg l e with
        | none => none
        | some b => if _h : b < e + 1 then
            match pv l vars arg b with
            | none => none
            | some x => two (tk l e).1 x y
          else none
termination_by e => e
section
variable {l : List (Int × Int)} {vars : List Int} {arg : Int}
theorem pv_leaf {e : Nat} (h : takesN (tk l e).1 = 0) : pv l vars arg (e + 1) = some (named vars arg (tk l e)) := by rw [pv, if_pos h]
theorem pv_not {e : Nat} (h : takesN (tk l e).1 = 1) : pv l vars arg (e + 1) = (pv l vars arg e).map fun y => tru (decide (y = 0)) := by rw [pv, if_neg (by omega), if_pos h]
theorem pv_two {e b : Nat} (h : takesN (tk l e).1 = 2) (hb : beg l e = some b) : pv l vars arg (e + 1) = (pv l vars arg e).bind fun y => (pv l vars arg b).bind fun x => two (tk l e).1 x y := by
  rw [pv, if_neg (by omega), if_neg (by omega)]
  have := beg_lt l e b hb
  cases hy : pv l vars arg e with
  | none => rfl
  | some y =>
    simp only [hb, Option.bind_some]
    rw [dif_pos (by omega)]
    cases pv l vars arg b <;> rfl
end

/-- a sign's way with the stack -/
def stepV (vars : List Int) (arg : Int) (t : Int × Int) (S : List Int) : Option (List Int) :=
  if takesN t.1 = 0 then some (named vars arg t :: S)
  else if takesN t.1 = 1 then
    match S with
    | [] => none
    | x :: S' => some (tru (decide (x = 0)) :: S')
  else match S with
    | y :: x :: S' => (two t.1 x y).map (· :: S')
    | _ => none
/-- what lies on the stack behind the first e signs -/
def stk (l : List (Int × Int)) (vars : List Int) (arg : Int) : Nat → Option (List Int)
  | 0 => some []
  | e + 1 => (stk l vars arg e).bind (stepV vars arg (tk l e))
section
variable {l : List (Int × Int)} {vars : List Int} {arg : Int}
theorem stk_step {e : Nat} {S : List Int} (h : stk l vars arg e = some S) : stk l vars arg (e + 1) = stepV vars arg (tk l e) S := by rw [stk, h]; rfl
theorem stk_none {k n : Nat} (h : stk l vars arg k = none) (hk : k ≤ n) : stk l vars arg n = none := by
  induction n with
  | zero => obtain rfl : k = 0 := by omega
            exact h
  | succ n ih =>
    rcases Nat.lt_or_ge n k with h1 | h1
    · obtain rfl : k = n + 1 := by omega
      exact h
    · rw [stk, ih h1]; rfl
theorem stk_cnt : ∀ {e : Nat} {S : List Int}, stk l vars arg e = some S → cnt l e = some S.length := by
  intro e
  induction e with
  | zero => intro S h; injection h with h; subst h; rfl
  | succ e ih =>
    intro S h
    cases hs : stk l vars arg e with
    | none => rw [stk, hs] at h; cases h
    | some T =>
      rw [stk_step hs] at h
      rw [cnt_step (ih hs)]
      have hle := takesN_le (tk l e).1
      unfold stepV at h
      rcases (show takesN (tk l e).1 = 0 ∨ takesN (tk l e).1 = 1 ∨ takesN (tk l e).1 = 2 by omega) with h0 | h0 | h0
      · rw [if_pos h0] at h
        injection h with h
        subst h
        rw [h0, if_pos (by omega)]; rfl
      · rw [if_neg (by omega), if_pos h0] at h
        match T, h with
        | [], h => cases h
        | x :: T, h =>
          injection h with h
          subst h
          rw [h0, if_pos (by simp)]; rfl
      · rw [if_neg (by omega), if_neg (by omega)] at h
        match T, h with
        | [], h => cases h
        | [_], h => cases h
        | y :: x :: T, h =>
          simp only [Option.map_eq_some_iff] at h
          obtain ⟨v, _, rfl⟩ := h
          rw [h0, if_pos (by simp)]; simp
theorem stk_I64 (hl : ∀ t ∈ l, I64 t.2) (hv : ∀ v ∈ vars, I64 v) (ha : I64 arg) : ∀ {e : Nat} {S : List Int}, e ≤ l.length → stk l vars arg e = some S → ∀ x ∈ S, I64 x := by
  intro e
  induction e with
  | zero => intro S _ h; injection h with h; subst h; simp
  | succ e ih =>
    intro S he h
    cases hs : stk l vars arg e with
    | none => rw [stk, hs] at h; cases h
    | some T =>
      rw [stk_step hs] at h
      have hT := ih (by omega) hs
      have hle := takesN_le (tk l e).1
      unfold stepV at h
      rcases (show takesN (tk l e).1 = 0 ∨ takesN (tk l e).1 = 1 ∨ takesN (tk l e).1 = 2 by omega) with h0 | h0 | h0
      · rw [if_pos h0] at h
        injection h with h
        subst h
        intro x hx
        rcases List.mem_cons.1 hx with rfl | hx
        · unfold named
          split
          · exact hl _ (tk_mem he)
          · split
            · rw [List.getD_eq_getElem?_getD]
              cases hg : vars[(tk l e).2.toNat]? with
              | none => decide
              | some v => exact hv _ (List.mem_of_getElem? hg)
            · exact ha
        · exact hT x hx
      · rw [if_neg (by omega), if_pos h0] at h
        match T, h, hT with
        | [], h, _ => cases h
        | x :: T, h, hT =>
          injection h with h
          subst h
          intro z hz
          rcases List.mem_cons.1 hz with rfl | hz
          · exact tru_I64 _
          · exact hT z (List.mem_cons_of_mem _ hz)
      · rw [if_neg (by omega), if_neg (by omega)] at h
        match T, h, hT with
        | [], h, _ => cases h
        | [_], h, _ => cases h
        | y :: x :: T, h, hT =>
          simp only [Option.map_eq_some_iff] at h
          obtain ⟨v, hv2, rfl⟩ := h
          intro z hz
          rcases List.mem_cons.1 hz with rfl | hz
          · exact two_I64 hv2
          · exact hT z (List.mem_cons_of_mem _ (List.mem_cons_of_mem _ hz))

theorem stk_of_beg : ∀ e b S, beg l e = some b → stk l vars arg b = some S → stk l vars arg e = (pv l vars arg e).map (· :: S) := by
  intro e
  induction e using Nat.strongRecOn with
  | ind e ih =>
    intro b S h hS
    match e, ih, h with
    | 0, _, h => rw [beg_zero] at h; cases h
    | e + 1, ih, h =>
      have hle := takesN_le (tk l e).1
      rcases (show takesN (tk l e).1 = 0 ∨ takesN (tk l e).1 = 1 ∨ takesN (tk l e).1 = 2 by omega) with h0 | h0 | h0
      · rw [beg_leaf h0] at h
        injection h with h
        subst h
        rw [stk_step hS, pv_leaf h0]
        unfold stepV
        rw [if_pos h0]; rfl
      · rw [beg_not h0] at h
        have h1 := ih e (by omega) b S h hS
        rw [pv_not h0]
        cases hp : pv l vars arg e with
        | none =>
          rw [hp] at h1
          exact stk_none h1 (by omega)
        | some y =>
          rw [hp] at h1
          rw [stk_step h1]
          unfold stepV
          rw [if_neg (by omega), if_pos h0]; rfl
      · rw [beg_two h0] at h
        cases hb : beg l e with
        | none => rw [hb] at h; cases h
        | some b1 =>
          rw [hb] at h
          have h1 : beg l b1 = some b := h
          have hlt := beg_lt l e b1 hb
          rw [pv_two h0 hb]
          have s1 := ih b1 (by omega) b S h1 hS
          cases hx : pv l vars arg b1 with
          | none =>
            rw [hx] at s1
            rw [stk_none s1 (by omega)]
            cases pv l vars arg e <;> rfl
          | some x =>
            rw [hx] at s1
            have s2 := ih e (by omega) b1 (x :: S) hb s1
            cases hy : pv l vars arg e with
            | none =>
              rw [hy] at s2
              exact stk_none s2 (by omega)
            | some y =>
              rw [hy] at s2
              rw [stk_step s2]
              unfold stepV
              rw [if_neg (by omega), if_neg (by omega)]; rfl
end

/-- what a formula comes to, and the error's number -/
def evalR (l : List (Int × Int)) (vars : List Int) (arg : Int) : Int × Int :=
  if mayB l vars.length = true then match pv l vars arg l.length with | some v => (v, 0) | none => (0, 18) else (0, 3)
/-- does it hold? -/
def holdsB (l : List (Int × Int)) (vars : List Int) (arg : Int) : Bool := decide (l.length = 0) || (decide ((evalR l vars arg).2 = 0) && decide ((evalR l vars arg).1 ≠ 0))
end Go.Proofs.YtnkjdijbfnmnhaaGreat
