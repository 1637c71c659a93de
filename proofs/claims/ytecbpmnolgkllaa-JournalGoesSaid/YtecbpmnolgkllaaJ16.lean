/-
  Texts of this claim put together: TabF, FireF, Bytes.
-/
import Derived.Test.YtecbpmnolgkllaaJ15
import Derived.Test.YtecbpmnolgkllaaJ04
/-
  Which contracts may be, and which rule is taken: plain mathematics.
-/
namespace Go.Proofs.Ytecbpmnolgkllaa
open Go.RowKit

/-- from a least one to a most one -/
def inB (n a b : Int) : Bool := decide (a ≤ n) && decide (n ≤ b)
theorem inB_true {n a b : Int} : inB n a b = true ↔ a ≤ n ∧ n ≤ b := by simp [inB]
theorem inB_false {n a b : Int} : inB n a b = false ↔ n < a ∨ b < n := by
  rw [← Bool.not_eq_true, inB_true]; omega

/-- the first place that is asked for -/
def idxO (p : Nat → Bool) (n : Nat) : Option Nat := (List.range n).find? p
def idxI (p : Nat → Bool) (n : Nat) : Int := match idxO p n with | some k => (k : Int) | none => -1
theorem idx_hit {p : Nat → Bool} {n k : Nat} (hk : k < n) (h : p k = true) (hb : ∀ j, j < k → p j = false) : idxO p n = some k := by
  unfold idxO
  rw [List.find?_range_eq_some]
  exact ⟨h, by simpa using hk, fun j hj => by simp [hb j hj]⟩
theorem idx_none {p : Nat → Bool} {n : Nat} (hb : ∀ j, j < n → p j = false) : idxO p n = none := by
  unfold idxO
  rw [List.find?_eq_none]
  intro x hx
  simp [hb x (by simpa using hx)]
theorem idx_some {p : Nat → Bool} {n k : Nat} (h : idxO p n = some k) : k < n ∧ p k = true ∧ ∀ j, j < k → p j = false := by
  unfold idxO at h
  rw [List.find?_range_eq_some] at h
  refine ⟨by simpa using h.2.1, h.1, fun j hj => by simpa using h.2.2 j hj⟩
theorem idx_not {p : Nat → Bool} {n : Nat} (h : idxO p n = none) : ∀ j, j < n → p j = false := by
  unfold idxO at h
  rw [List.find?_eq_none] at h
  intro j hj
  simpa using h j (by simpa using hj)
theorem idxI_hit {p : Nat → Bool} {n k : Nat} (hk : k < n) (h : p k = true) (hb : ∀ j, j < k → p j = false) : idxI p n = k := by unfold idxI; rw [idx_hit hk h hb]
theorem idxI_none {p : Nat → Bool} {n : Nat} (hb : ∀ j, j < n → p j = false) : idxI p n = -1 := by unfold idxI; rw [idx_none hb]
/-- is there one? -/
def anyB (p : Nat → Bool) (n : Nat) : Bool := (idxO p n).isSome
theorem anyB_idx (p : Nat → Bool) (n : Nat) : decide (0 ≤ idxI p n) = anyB p n := by
  unfold anyB idxI
  cases h : idxO p n with
  | none => rfl
  | some k => simp
theorem anyB_true {p : Nat → Bool} {n : Nat} : anyB p n = true ↔ ∃ j, j < n ∧ p j = true := by
  unfold anyB
  cases h : idxO p n with
  | none =>
    have := idx_not h
    constructor
    · intro h; cases h
    · rintro ⟨j, hj, hp⟩; rw [this j hj] at hp; cases hp
  | some k =>
    have := idx_some h
    exact ⟨fun _ => ⟨k, this.1, this.2.1⟩, fun _ => rfl⟩
theorem anyB_false {p : Nat → Bool} {n : Nat} : anyB p n = false ↔ ∀ j, j < n → p j = false := by
  rw [← Bool.not_eq_true, anyB_true]
  constructor
  · intro h j hj
    cases hp : p j with
    | false => rfl
    | true => exact absurd ⟨j, hj, hp⟩ h
  · rintro h ⟨j, hj, hp⟩
    rw [h j hj] at hp
    cases hp
theorem anyB_congr {p q : Nat → Bool} {n : Nat} (h : ∀ j, j < n → p j = q j) : anyB p n = anyB q n := by
  rw [Bool.eq_iff_iff, anyB_true, anyB_true]
  exact ⟨fun ⟨j, hj, hp⟩ => ⟨j, hj, (h j hj) ▸ hp⟩, fun ⟨j, hj, hp⟩ => ⟨j, hj, (h j hj).symm ▸ hp⟩⟩

/-- the least number that the next variable may have -/
def leastB (l : List SetM) : Nat → Int
  | 0 => 0
  | k + 1 => match l[k]? with | some s => s.var + 1 | none => 0
/-- what is wrong with a Set -/
def setX (vs : Int) (l : List SetM) (k : Nat) : Bool := match l[k]? with | some s => !(inB s.var (leastB l k) (vs - 1)) || !(mayB s.val.l vs) | none => true
/-- what is wrong with an Emit -/
def emX (vs : Int) (l : List EmM) (k : Nat) : Bool := match l[k]? with | some e => decide (16 ≤ e.tg) || (!(inB e.ac 0 31) || !(mayB e.arg.l vs)) | none => true
def setsB (vs : Int) (l : List SetM) : Bool := decide (l.length ≤ 8) && !(anyB (setX vs l) l.length)
def emsB (vs : Int) (l : List EmM) : Bool := decide (l.length ≤ 4) && !(anyB (emX vs l) l.length)
def guB (vs : Int) (l : List (Int × Int)) : Bool := decide (l.length = 0) || mayB l vs
def ruB (st vs : Int) (r : RuM) : Bool := inB r.fr 0 (st - 1) && (inB r.tt 0 (st - 1) && (inB r.ac 0 31 && (inB r.pa 0 7 && (guB vs r.gu.l && (setsB vs r.se.l && emsB vs r.em.l)))))
def ruX (st vs : Int) (l : List RuM) (k : Nat) : Bool := match l[k]? with | some r => !(ruB st vs r) | none => true
def rusB (st vs : Int) (l : List RuM) : Bool := decide (l.length ≤ 32) && !(anyB (ruX st vs l) l.length)
def mayT (st vs : Int) (l : List RuM) : Bool := inB st 1 32 && (inB vs 0 8 && rusB st vs l)

/-- is a rule taken? -/
def isFor (sa ac pa : Int) (vars : List Int) (arg : Int) (r : RuM) : Bool := decide (r.fr = sa) && (decide (r.ac = ac) && (decide (r.pa = pa) && holdsB r.gu.l vars arg))
def takX (sa ac pa : Int) (vars : List Int) (arg : Int) (l : List RuM) (k : Nat) : Bool := match l[k]? with | some r => isFor sa ac pa vars arg r | none => false
def takI (sa ac pa : Int) (vars : List Int) (arg : Int) (l : List RuM) : Int := idxI (takX sa ac pa vars arg l) l.length
def fireB (st vs : Int) (l : List RuM) (vars : List Int) : Bool := decide ((vars.length : Int) = vs) && mayT st vs l
def findI (st vs : Int) (l : List RuM) (sa ac pa : Int) (vars : List Int) (arg : Int) : Int := if fireB st vs l vars then takI sa ac pa vars arg l else -1
end Go.Proofs.Ytecbpmnolgkllaa

/-
  What an action does: plain mathematics.
-/
namespace Go.Proofs.Ytecbpmnolgkllaa
open Go.RowKit

def setOne (vars : List Int) (arg : Int) (cur : List Int) (s : SetM) : Option (List Int) := if (evalR s.val.l vars arg).2 = 0 then some (cur.set s.var.toNat (evalR s.val.l vars arg).1) else none
/-- the variables behind the first j Sets -/
def setRun (l : List SetM) (vars : List Int) (arg : Int) : Nat → Option (List Int)
  | 0 => some vars
  | j + 1 => (setRun l vars arg j).bind fun cur => match l[j]? with | some s => setOne vars arg cur s | none => none
/-- the messages of the first j Emits -/
def emRun (l : List EmM) (vars : List Int) (arg : Int) : Nat → Option (List (Int × Int × Int))
  | 0 => some []
  | j + 1 => (emRun l vars arg j).bind fun cur => match l[j]? with | some e => if (evalR e.arg.l vars arg).2 = 0 then some (cur ++ [(e.tg, e.ac, (evalR e.arg.l vars arg).1)]) else none | none => none
def setAllR (l : List SetM) (vars : List Int) (arg : Int) : Option (List Int) := setRun l vars arg l.length
def emAllR (l : List EmM) (vars : List Int) (arg : Int) : Option (List (Int × Int × Int)) := emRun l vars arg l.length

theorem setRun_yes {l : List SetM} {vars : List Int} {arg : Int} {j : Nat} {cur : List Int} {s : SetM} {x : Int} (h : setRun l vars arg j = some cur) (hs : l[j]? = some s) (he : evalR s.val.l vars arg = (x, 0)) :
    setRun l vars arg (j + 1) = some (cur.set s.var.toNat x) := by
  unfold setRun
  rw [h]
  simp only [Option.bind_some, hs]
  unfold setOne
  rw [he]
  rfl
theorem setRun_step_none {l : List SetM} {vars : List Int} {arg : Int} {k n : Nat} (h : setRun l vars arg k = none) (hk : k ≤ n) : setRun l vars arg n = none := by
  induction n with
  | zero => obtain rfl : k = 0 := by omega
            exact h
  | succ n ih =>
    by_cases e : k = n + 1
    · rw [← e]; exact h
    · show (setRun l vars arg n).bind _ = none
      rw [ih (by omega)]
      rfl
theorem setRun_no {l : List SetM} {vars : List Int} {arg : Int} {j n : Nat} {cur : List Int} {s : SetM} {x e : Int} (h : setRun l vars arg j = some cur) (hs : l[j]? = some s) (he : evalR s.val.l vars arg = (x, e)) (h0 : e ≠ 0) (hn : j + 1 ≤ n) :
    setRun l vars arg n = none := by
  refine setRun_step_none (k := j + 1) ?_ hn
  unfold setRun
  rw [h]
  simp only [Option.bind_some, hs]
  unfold setOne
  rw [he, if_neg h0]
theorem setRun_len {l : List SetM} {vars : List Int} {arg : Int} : ∀ {j : Nat} {cur : List Int}, setRun l vars arg j = some cur → cur.length = vars.length := by
  intro j
  induction j with
  | zero => intro cur h; injection h with h; rw [h]
  | succ j ih =>
    intro cur h
    change (setRun l vars arg j).bind _ = some cur at h
    cases hp : setRun l vars arg j with
    | none => rw [hp] at h; cases h
    | some c =>
      rw [hp] at h
      simp only [Option.bind_some] at h
      cases hl : l[j]? with
      | none => rw [hl] at h; cases h
      | some s =>
        rw [hl] at h
        simp only [setOne] at h
        split at h
        · injection h with h
          rw [← h, List.length_set]
          exact ih hp
        · cases h
theorem emRun_yes {l : List EmM} {vars : List Int} {arg : Int} {j : Nat} {cur : List (Int × Int × Int)} {s : EmM} {x : Int} (h : emRun l vars arg j = some cur) (hs : l[j]? = some s) (he : evalR s.arg.l vars arg = (x, 0)) :
    emRun l vars arg (j + 1) = some (cur ++ [(s.tg, s.ac, x)]) := by
  unfold emRun
  rw [h]
  simp only [Option.bind_some, hs]
  rw [he]
  rfl
theorem emRun_step_none {l : List EmM} {vars : List Int} {arg : Int} {k n : Nat} (h : emRun l vars arg k = none) (hk : k ≤ n) : emRun l vars arg n = none := by
  induction n with
  | zero => obtain rfl : k = 0 := by omega
            exact h
  | succ n ih =>
    by_cases e : k = n + 1
    · rw [← e]; exact h
    · show (emRun l vars arg n).bind _ = none
      rw [ih (by omega)]
      rfl
theorem emRun_no {l : List EmM} {vars : List Int} {arg : Int} {j n : Nat} {cur : List (Int × Int × Int)} {s : EmM} {x e : Int} (h : emRun l vars arg j = some cur) (hs : l[j]? = some s) (he : evalR s.arg.l vars arg = (x, e)) (h0 : e ≠ 0) (hn : j + 1 ≤ n) :
    emRun l vars arg n = none := by
  refine emRun_step_none (k := j + 1) ?_ hn
  unfold emRun
  rw [h]
  simp only [Option.bind_some, hs]
  rw [he, if_neg h0]
theorem emRun_len {l : List EmM} {vars : List Int} {arg : Int} : ∀ {j : Nat} {cur : List (Int × Int × Int)}, emRun l vars arg j = some cur → cur.length = j := by
  intro j
  induction j with
  | zero => intro cur h; injection h with h; rw [← h]; rfl
  | succ j ih =>
    intro cur h
    change (emRun l vars arg j).bind _ = some cur at h
    cases hp : emRun l vars arg j with
    | none => rw [hp] at h; cases h
    | some c =>
      rw [hp] at h
      simp only [Option.bind_some] at h
      cases hl : l[j]? with
      | none => rw [hl] at h; cases h
      | some s =>
        rw [hl] at h
        simp only at h
        split at h
        · injection h with h
          rw [← h, List.length_append, ih hp]
          rfl
        · cases h

/-- what comes of a rule's Sets and Emits -/
def fireOut (tt : Int) : Option (List Int) → Option (List (Int × Int × Int)) → Int × List Int × List (Int × Int × Int) × Int
  | some a, some c => (tt, a, c, 0)
  | _, _ => (0, [], [], 18)
theorem fireOut_yes (tt : Int) (a : List Int) (c : List (Int × Int × Int)) : fireOut tt (some a) (some c) = (tt, a, c, 0) := rfl
theorem fireOut_no1 (tt : Int) (c : Option (List (Int × Int × Int))) : fireOut tt none c = (0, [], [], 18) := rfl
theorem fireOut_no2 (tt : Int) (a : Option (List Int)) : fireOut tt a none = (0, [], [], 18) := by cases a <;> rfl
/-- what an action does: the state, the variables, the messages, the error's number -/
def fireR (st vs : Int) (l : List RuM) (sa ac pa : Int) (vars : List Int) (arg : Int) : Int × List Int × List (Int × Int × Int) × Int :=
  if fireB st vs l vars then
    match idxO (takX sa ac pa vars arg l) l.length with
    | none => (0, [], [], 13)
    | some k => match l[k]? with
      | none => (0, [], [], 13)
      | some r => fireOut r.tt (setAllR r.se.l vars arg) (emAllR r.em.l vars arg)
  else (0, [], [], 10)

/-- what is known of a rule of a contract that may be -/
theorem mayT_rule {st vs : Int} {l : List RuM} {k : Nat} {r : RuM} (h : mayT st vs l = true) (hr : l[k]? = some r) : ruB st vs r = true := by
  unfold mayT rusB at h
  simp only [Bool.and_eq_true, decide_eq_true_eq, Bool.not_eq_true'] at h
  have := anyB_false.1 h.2.2.2 k (List.getElem?_eq_some_iff.1 hr).1
  unfold ruX at this
  rw [hr] at this
  simpa using this
theorem mayT_num {st vs : Int} {l : List RuM} (h : mayT st vs l = true) : (1 ≤ st ∧ st ≤ 32) ∧ (0 ≤ vs ∧ vs ≤ 8) ∧ l.length ≤ 32 := by
  unfold mayT rusB at h
  simp only [Bool.and_eq_true, decide_eq_true_eq] at h
  exact ⟨inB_true.1 h.1, inB_true.1 h.2.1, h.2.2.1⟩
theorem ruB_parts {st vs : Int} {r : RuM} (h : ruB st vs r = true) : (0 ≤ r.fr ∧ r.fr ≤ st - 1) ∧ (0 ≤ r.tt ∧ r.tt ≤ st - 1) ∧ (0 ≤ r.ac ∧ r.ac ≤ 31) ∧ (0 ≤ r.pa ∧ r.pa ≤ 7) ∧ guB vs r.gu.l = true ∧ setsB vs r.se.l = true ∧ emsB vs r.em.l = true := by
  unfold ruB at h
  simp only [Bool.and_eq_true] at h
  exact ⟨inB_true.1 h.1, inB_true.1 h.2.1, inB_true.1 h.2.2.1, inB_true.1 h.2.2.2.1, h.2.2.2.2.1, h.2.2.2.2.2.1, h.2.2.2.2.2.2⟩
theorem setsB_len {vs : Int} {l : List SetM} (h : setsB vs l = true) : l.length ≤ 8 := by
  unfold setsB at h
  simp only [Bool.and_eq_true, decide_eq_true_eq] at h
  exact h.1
theorem emsB_len {vs : Int} {l : List EmM} (h : emsB vs l = true) : l.length ≤ 4 := by
  unfold emsB at h
  simp only [Bool.and_eq_true, decide_eq_true_eq] at h
  exact h.1
theorem setsB_at {vs : Int} {l : List SetM} {k : Nat} {s : SetM} (h : setsB vs l = true) (hs : l[k]? = some s) : (leastB l k ≤ s.var ∧ s.var ≤ vs - 1) ∧ mayB s.val.l vs = true := by
  unfold setsB at h
  simp only [Bool.and_eq_true, Bool.not_eq_true'] at h
  have h2 := anyB_false.1 h.2 k (List.getElem?_eq_some_iff.1 hs).1
  unfold setX at h2
  rw [hs] at h2
  simp only [Bool.or_eq_false_iff, Bool.not_eq_false'] at h2
  exact ⟨inB_true.1 h2.1, h2.2⟩
theorem emsB_at {vs : Int} {l : List EmM} {k : Nat} {s : EmM} (h : emsB vs l = true) (hs : l[k]? = some s) : s.tg < 16 ∧ (0 ≤ s.ac ∧ s.ac ≤ 31) ∧ mayB s.arg.l vs = true := by
  unfold emsB at h
  simp only [Bool.and_eq_true, Bool.not_eq_true'] at h
  have h2 := anyB_false.1 h.2 k (List.getElem?_eq_some_iff.1 hs).1
  unfold emX at h2
  rw [hs] at h2
  simp only [Bool.or_eq_false_iff, Bool.not_eq_false', decide_eq_false_iff_not] at h2
  exact ⟨by omega, inB_true.1 h2.2.1, h2.2.2⟩
theorem setsB_var : ∀ {vs : Int} {l : List SetM} {k : Nat} {s : SetM}, setsB vs l = true → l[k]? = some s → 0 ≤ s.var ∧ s.var < vs := by
  intro vs l k
  induction k with
  | zero =>
    intro s h hs
    have := (setsB_at h hs).1
    have e : leastB l 0 = 0 := rfl
    omega
  | succ k ih =>
    intro s h hs
    have := (setsB_at h hs).1
    have hk : k < l.length := by have := (List.getElem?_eq_some_iff.1 hs).1; omega
    have hp := ih (s := l[k]) h (List.getElem?_eq_getElem hk)
    have e : leastB l (k + 1) = l[k].var + 1 := by
      show (match l[k]? with | some s => s.var + 1 | none => 0) = _
      rw [List.getElem?_eq_getElem hk]
    omega
end Go.Proofs.Ytecbpmnolgkllaa

/-
  The bytes of contracts: plain mathematics.
-/
namespace Go.Proofs.Ytecbpmnolgkllaa
open Go.RowKit

def natB (n : Int) : List UInt8 := numB n.toNat
def numsB (l : List Int) : List UInt8 := l.flatMap natB
def tokB (t : Int × Int) : List UInt8 := natB t.1 ++ intB t.2
def fmlB (l : List (Int × Int)) : List UInt8 := natB l.length ++ l.flatMap tokB
def setBy (s : SetM) : List UInt8 := natB s.var ++ fmlB s.val.l
def emBy (e : EmM) : List UInt8 := natB e.tg ++ (natB e.ac ++ fmlB e.arg.l)
def setsBy (l : List SetM) : List UInt8 := natB l.length ++ l.flatMap setBy
def emsBy (l : List EmM) : List UInt8 := natB l.length ++ l.flatMap emBy
def ruBy (r : RuM) : List UInt8 := natB r.fr ++ (natB r.ac ++ (natB r.pa ++ (natB r.tt ++ (fmlB r.gu.l ++ (setsBy r.se.l ++ emsBy r.em.l)))))
def tabBy (st vs : Int) (l : List RuM) : List UInt8 := natB st ++ (natB vs ++ (natB l.length ++ l.flatMap ruBy))

theorem natB_len (n : Int) (h : n ≤ 9223372036854775807) : (natB n).length ≤ 10 := numB_length _ (by omega)
theorem intB_len (n : Int) (h : I64 n) : (intB n).length ≤ 10 := by
  unfold I64 at h
  exact numB_length _ (foldN_lt n h.1 h.2)
theorem flat_le {α : Type} {f : α → List UInt8} {q : Nat} : ∀ (l : List α), (∀ x ∈ l, (f x).length ≤ q) → (l.flatMap f).length ≤ q * l.length := by
  intro l
  induction l with
  | nil => intro _; simp
  | cons x l ih =>
    intro h
    have h1 := h x (by simp)
    have h2 := ih fun y hy => h y (by simp [hy])
    rw [List.flatMap_cons, List.length_append, List.length_cons, Nat.mul_succ]
    omega
theorem tokB_len (t : Int × Int) (h : TokIn t) : (tokB t).length ≤ 20 := by
  unfold tokB
  rw [List.length_append]
  have h1 := natB_len t.1 (by have := h.2.1; omega)
  have h2 := intB_len t.2 h.2.2
  omega
theorem fmlB_len (l : List (Int × Int)) (h : ∀ t ∈ l, TokIn t) (h1 : l.length ≤ 24) : (fmlB l).length ≤ 490 := by
  unfold fmlB
  rw [List.length_append]
  have h2 := natB_len l.length (by omega)
  have h3 := flat_le l fun t ht => tokB_len t (h t ht)
  omega
/-- a list's part up to k, and one more -/
theorem take_snoc {α : Type} {l : List α} {k : Nat} {x : α} (h : l[k]? = some x) : l.take (k + 1) = l.take k ++ [x] := by
  obtain ⟨hk, hx⟩ := List.getElem?_eq_some_iff.1 h
  rw [List.take_succ_eq_append_getElem hk, hx]
theorem flat_snoc {α : Type} {f : α → List UInt8} {l : List α} {k : Nat} {x : α} (h : l[k]? = some x) : (l.take (k + 1)).flatMap f = (l.take k).flatMap f ++ f x := by
  rw [take_snoc h, List.flatMap_append]
  simp
theorem flat_take_le {α : Type} {f : α → List UInt8} {q : Nat} (l : List α) (h : ∀ x ∈ l, (f x).length ≤ q) (k : Nat) : ((l.take k).flatMap f).length ≤ q * l.length := by
  have h1 := flat_le (l.take k) fun x hx => h x (List.mem_of_mem_take hx)
  have h2 : (l.take k).length ≤ l.length := by rw [List.length_take]; omega
  exact Nat.le_trans h1 (Nat.mul_le_mul_left q h2)

/-- a formula of a contract that may be: its length -/
theorem mayB_len {l : List (Int × Int)} {vs : Int} (h : mayB l vs = true) : l.length ≤ 24 := (mayB_true h).1
theorem guB_len {l : List (Int × Int)} {vs : Int} (h : guB vs l = true) : l.length ≤ 24 := by
  unfold guB at h
  simp only [Bool.or_eq_true, decide_eq_true_eq] at h
  rcases h with h | h
  · omega
  · exact mayB_len h
theorem setBy_len {w : World} {B : Nat} {s : SetM} (hs : SetM.ok w B s) (h : s.val.l.length ≤ 24) : (setBy s).length ≤ 500 := by
  unfold setBy
  rw [List.length_append]
  have h1 := natB_len s.var hs.1.2
  have h2 := fmlB_len s.val.l hs.2.2.2.2 h
  omega
theorem emBy_len {w : World} {B : Nat} {e : EmM} (hs : EmM.ok w B e) (h : e.arg.l.length ≤ 24) : (emBy e).length ≤ 510 := by
  unfold emBy
  rw [List.length_append, List.length_append]
  have h1 := natB_len e.tg (by have := hs.1.2; omega)
  have h3 := natB_len e.ac hs.2.1.2
  have h2 := fmlB_len e.arg.l hs.2.2.2.2.2 h
  omega
/-- what bounds a rule's bytes -/
def RuS (r : RuM) : Prop := r.gu.l.length ≤ 24 ∧ (r.se.l.length ≤ 8 ∧ ∀ s ∈ r.se.l, s.val.l.length ≤ 24) ∧ (r.em.l.length ≤ 4 ∧ ∀ e ∈ r.em.l, e.arg.l.length ≤ 24)
theorem ruS_of {st vs : Int} {r : RuM} (h : ruB st vs r = true) : RuS r := by
  obtain ⟨-, -, -, -, hg, hs, he⟩ := ruB_parts h
  refine ⟨guB_len hg, ⟨setsB_len hs, fun s hm => ?_⟩, ⟨emsB_len he, fun e hm => ?_⟩⟩
  · obtain ⟨k, hk, rfl⟩ := List.getElem_of_mem hm
    exact mayB_len (setsB_at hs (List.getElem?_eq_getElem hk)).2
  · obtain ⟨k, hk, rfl⟩ := List.getElem_of_mem hm
    exact mayB_len (emsB_at he (List.getElem?_eq_getElem hk)).2.2
theorem setsBy_len {w : World} {B : Nat} {s : Sl SetM} (hs : setsOk w B s) (h : s.l.length ≤ 8 ∧ ∀ x ∈ s.l, x.val.l.length ≤ 24) : (setsBy s.l).length ≤ 4010 := by
  unfold setsBy
  rw [List.length_append]
  have h1 := natB_len s.l.length (by omega)
  have h2 := flat_le (f := setBy) s.l fun x hx => setBy_len (hs.2.2.2 x hx) (h.2 x hx)
  omega
theorem emsBy_len {w : World} {B : Nat} {s : Sl EmM} (hs : emsOk w B s) (h : s.l.length ≤ 4 ∧ ∀ x ∈ s.l, x.arg.l.length ≤ 24) : (emsBy s.l).length ≤ 2050 := by
  unfold emsBy
  rw [List.length_append]
  have h1 := natB_len s.l.length (by omega)
  have h2 := flat_le (f := emBy) s.l fun x hx => emBy_len (hs.2.2.2 x hx) (h.2 x hx)
  omega
theorem ruBy_len {w : World} {B : Nat} {r : RuM} (hs : RuM.ok w B r) (h : RuS r) : (ruBy r).length ≤ 7000 := by
  unfold ruBy
  simp only [List.length_append]
  obtain ⟨⟨i1, i2, i3, i4⟩, h1, h2, h3⟩ := hs
  have a1 := natB_len r.fr i1.2
  have a2 := natB_len r.ac i2.2
  have a3 := natB_len r.pa i3.2
  have a4 := natB_len r.tt i4.2
  have a5 := fmlB_len r.gu.l h1.2.2.2 h.1
  have a6 := setsBy_len h2 h.2.1
  have a7 := emsBy_len h3 h.2.2
  omega
end Go.Proofs.Ytecbpmnolgkllaa
