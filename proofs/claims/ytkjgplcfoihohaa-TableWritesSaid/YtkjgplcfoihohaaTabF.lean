/-
  Which contracts may be, and which rule is taken: plain mathematics.
-/
import Derived.Test.YtkjgplcfoihohaaTab
namespace Go.Proofs.Ytkjgplcfoihohaa
open Go.RowKit

/-- from a least one to a most one -/
def inB (n a b : Int) : Bool := decide (a ≤ n) && decide (n ≤ b)
theorem inB_true {n a b : Int} : inB n a b = true ↔ a ≤ n ∧ n ≤ b := by simp [inB]
theorem inB_false {n a b : Int} : inB n a b = false ↔ n < a ∨ b < n := by
  rw [← Bool.not_eq_true, inB_true]; omega

/-- the first place that is asked for -/
def idxO (p : Nat → Bool) (n : Nat) : Option Nat := (List.range n).find? p
def idxI (p : Nat → Bool) (n : Nat) : Int := match idxO p n with | some k => (k : Int) | none => -1
theorem idx_hit {p : Nat → Bool} {n k : Nat} (hk : k < n) (h : p k = true) (hb : ∀ j, j < k → p j = false) : idxO p n = some k := by
  unfold idxO
  rw [List.find?_range_eq_some]
  exact ⟨h, by simpa using hk, fun j hj => by simp [hb j hj]⟩
theorem idx_none {p : Nat → Bool} {n : Nat} (hb : ∀ j, j < n → p j = false) : idxO p n = none := by
  unfold idxO
  rw [List.find?_eq_none]
  intro x hx
  simp [hb x (by simpa using hx)]
theorem idx_some {p : Nat → Bool} {n k : Nat} (h : idxO p n = some k) : k < n ∧ p k = true ∧ ∀ j, j < k → p j = false := by
  unfold idxO at h
  rw [List.find?_range_eq_some] at h
  refine ⟨by simpa using h.2.1, h.1, fun j hj => by simpa using h.2.2 j hj⟩
theorem idx_not {p : Nat → Bool} {n : Nat} (h : idxO p n = none) : ∀ j, j < n → p j = false := by
  unfold idxO at h
  rw [List.find?_eq_none] at h
  intro j hj
  simpa using h j (by simpa using hj)
theorem idxI_hit {p : Nat → Bool} {n k : Nat} (hk : k < n) (h : p k = true) (hb : ∀ j, j < k → p j = false) : idxI p n = k := by unfold idxI; rw [idx_hit hk h hb]
theorem idxI_none {p : Nat → Bool} {n : Nat} (hb : ∀ j, j < n → p j = false) : idxI p n = -1 := by unfold idxI; rw [idx_none hb]
/-- is there one? -/
def anyB (p : Nat → Bool) (n : Nat) : Bool := (idxO p n).isSome
theorem anyB_idx (p : Nat → Bool) (n : Nat) : decide (0 ≤ idxI p n) = anyB p n := by
  unfold anyB idxI
  cases h : idxO p n with
  | none => rfl
  | some k => simp
theorem anyB_true {p : Nat → Bool} {n : Nat} : anyB p n = true ↔ ∃ j, j < n ∧ p j = true := by
  unfold anyB
  cases h : idxO p n with
  | none =>
    have := idx_not h
    constructor
    · intro h; cases h
    · rintro ⟨j, hj, hp⟩; rw [this j hj] at hp; cases hp
  | some k =>
    have := idx_some h
    exact ⟨fun _ => ⟨k, this.1, this.2.1⟩, fun _ => rfl⟩
theorem anyB_false {p : Nat → Bool} {n : Nat} : anyB p n = false ↔ ∀ j, j < n → p j = false := by
  rw [← Bool.not_eq_true, anyB_true]
  constructor
  · intro h j hj
    cases hp : p j with
    | false => rfl
    | true => exact absurd ⟨j, hj, hp⟩ h
  · rintro h ⟨j, hj, hp⟩
    rw [h j hj] at hp
    cases hp
theorem anyB_congr {p q : Nat → Bool} {n : Nat} (h : ∀ j, j < n → p j = q j) : anyB p n = anyB q n := by
  rw [Bool.eq_iff_iff, anyB_true, anyB_true]
  exact ⟨fun ⟨j, hj, hp⟩ => ⟨j, hj, (h j hj) ▸ hp⟩, fun ⟨j, hj, hp⟩ => ⟨j, hj, (h j hj).symm ▸ hp⟩⟩

/-- the least number that the next variable may have -/
def leastB (l : List SetM) : Nat → Int
  | 0 => 0
  | k + 1 => match l[k]? with | some s => s.var + 1 | none => 0
/-- what is wrong with a Set -/
def setX (vs : Int) (l : List SetM) (k : Nat) : Bool := match l[k]? with | some s => !(inB s.var (leastB l k) (vs - 1)) || !(mayB s.val.l vs) | none => true
/-- what is wrong with an Emit -/
def emX (vs : Int) (l : List EmM) (k : Nat) : Bool := match l[k]? with | some e => decide (16 ≤ e.tg) || (!(inB e.ac 0 31) || !(mayB e.arg.l vs)) | none => true
def setsB (vs : Int) (l : List SetM) : Bool := decide (l.length ≤ 8) && !(anyB (setX vs l) l.length)
def emsB (vs : Int) (l : List EmM) : Bool := decide (l.length ≤ 4) && !(anyB (emX vs l) l.length)
def guB (vs : Int) (l : List (Int × Int)) : Bool := decide (l.length = 0) || mayB l vs
def ruB (st vs : Int) (r : RuM) : Bool := inB r.fr 0 (st - 1) && (inB r.tt 0 (st - 1) && (inB r.ac 0 31 && (inB r.pa 0 7 && (guB vs r.gu.l && (setsB vs r.se.l && emsB vs r.em.l)))))
def ruX (st vs : Int) (l : List RuM) (k : Nat) : Bool := match l[k]? with | some r => !(ruB st vs r) | none => true
def rusB (st vs : Int) (l : List RuM) : Bool := decide (l.length ≤ 32) && !(anyB (ruX st vs l) l.length)
def mayT (st vs : Int) (l : List RuM) : Bool := inB st 1 32 && (inB vs 0 8 && rusB st vs l)

/-- is a rule taken? -/
def isFor (sa ac pa : Int) (vars : List Int) (arg : Int) (r : RuM) : Bool := decide (r.fr = sa) && (decide (r.ac = ac) && (decide (r.pa = pa) && holdsB r.gu.l vars arg))
def takX (sa ac pa : Int) (vars : List Int) (arg : Int) (l : List RuM) (k : Nat) : Bool := match l[k]? with | some r => isFor sa ac pa vars arg r | none => false
def takI (sa ac pa : Int) (vars : List Int) (arg : Int) (l : List RuM) : Int := idxI (takX sa ac pa vars arg l) l.length
def fireB (st vs : Int) (l : List RuM) (vars : List Int) : Bool := decide ((vars.length : Int) = vs) && mayT st vs l
def findI (st vs : Int) (l : List RuM) (sa ac pa : Int) (vars : List Int) (arg : Int) : Int := if fireB st vs l vars then takI sa ac pa vars arg l else -1
end Go.Proofs.Ytkjgplcfoihohaa
