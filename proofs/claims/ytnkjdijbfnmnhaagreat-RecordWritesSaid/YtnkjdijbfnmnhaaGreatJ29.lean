/-
  Texts of this claim put together: RefT, RefT2.
-/
import Derived.Test.YtnkjdijbfnmnhaaGreatShort
import Derived.Test.YtnkjdijbfnmnhaaGreatJ15
import Derived.Test.YtnkjdijbfnmnhaaGreatJ17
import Derived.Test.YtnkjdijbfnmnhaaGreatJ21
import Derived.Test.YtnkjdijbfnmnhaaGreatJ19
import Derived.Deep.RegionHeld
import Derived.IntWalk
import Derived.Deep.DeepCutAuto
/-
  Contract of the reference's rule.
-/
namespace Go.Proofs.YtnkjdijbfnmnhaaGreat
open Go.RowKit

/-- what a guard reads of an operation that wasn't carried out -/
theorem und_match : (yielded.match_1 (fun _ => Option Bool) (some undef) (fun b => some b) (fun _ => none)) = none := rfl

/-- Sets rise: where all ahead are well, the one at k is well exactly if .. -/
theorem leastB_pos {vs : Int} {l : List SetM} : ∀ {k : Nat}, k ≤ l.length → (∀ j, j < k → setX vs l j = false) → 0 ≤ leastB l k := by
  intro k
  induction k with
  | zero => intro _ _; exact Int.le_refl 0
  | succ k ih =>
    intro hk h
    have hp := ih (by omega) fun j hj => h j (by omega)
    have hx := h k (by omega)
    rw [setX_at (List.getElem?_eq_getElem (show k < l.length by omega))] at hx
    rw [leastB_succ (List.getElem?_eq_getElem (show k < l.length by omega))]
    simp only [Bool.or_eq_false_iff, Bool.not_eq_false'] at hx
    have := inB_true.1 hx.1
    omega
theorem setX_first {vs : Int} {l : List SetM} {s : SetM} (hs : l[0]? = some s) : setX vs l 0 = (!(inB s.var 0 (vs - 1)) || !(mayB s.val.l vs)) := setX_at hs
theorem setX_next {vs : Int} {l : List SetM} {k : Nat} {p s : SetM} (hp : l[k]? = some p) (hs : l[k + 1]? = some s) (h : ∀ j, j < k + 1 → setX vs l j = false) :
    setX vs l (k + 1) = (!(inB s.var 0 (vs - 1)) || (!(mayB s.val.l vs) || decide (s.var ≤ p.var))) := by
  rw [setX_at hs, leastB_succ hp]
  have hx := h k (by omega)
  rw [setX_at hp] at hx
  simp only [Bool.or_eq_false_iff, Bool.not_eq_false'] at hx
  have h1 := inB_true.1 hx.1
  have h2 := leastB_pos (k := k) (by have := (List.getElem?_eq_some_iff.1 hp).1; omega) fun j hj => h j (by omega)
  rw [Bool.eq_iff_iff]
  simp only [Bool.or_eq_true, Bool.not_eq_true', inB_false, decide_eq_true_eq]
  constructor
  · rintro (h | h)
    · by_cases h3 : s.var < 0 ∨ vs - 1 < s.var
      · exact .inl h3
      · exact .inr (.inr (by omega))
    · exact .inr (.inl h)
  · rintro (h | h | h)
    · exact .inl (by omega)
    · exact .inr h
    · exact .inl (by omega)

theorem setsB_some {vs : Int} {l : List SetM} {k : Nat} (hk : k < l.length) (h : setX vs l k = true) : setsB vs l = false := by
  unfold setsB
  rw [anyB_true.2 ⟨k, hk, h⟩]
  simp
theorem setsB_all {vs : Int} {l : List SetM} (h8 : l.length ≤ 8) (h : ∀ j, j < l.length → setX vs l j = false) : setsB vs l = true := by
  unfold setsB
  rw [anyB_false.2 h, decide_eq_true h8]
  rfl
theorem emX_at' {vs : Int} {l : List EmM} {k : Nat} {e : EmM} (h : l[k]? = some e) : emX vs l k = (decide (16 ≤ e.tg) || (!(inB e.ac 0 31) || !(mayB e.arg.l vs))) := by unfold emX; rw [h]
theorem emsB_some {vs : Int} {l : List EmM} {k : Nat} (hk : k < l.length) (h : emX vs l k = true) : emsB vs l = false := by
  unfold emsB
  rw [anyB_true.2 ⟨k, hk, h⟩]
  simp
theorem emsB_all {vs : Int} {l : List EmM} (h4 : l.length ≤ 4) (h : ∀ j, j < l.length → emX vs l j = false) : emsB vs l = true := by
  unfold emsB
  rw [anyB_false.2 h, decide_eq_true h4]
  rfl

end Go.Proofs.YtnkjdijbfnmnhaaGreat
/-
  Contracts of the reference's May and Find.
-/
namespace Go.Proofs.YtnkjdijbfnmnhaaGreat
open Go.RowKit

theorem ruX_at' {st vs : Int} {l : List RuM} {k : Nat} {x : RuM} (h : l[k]? = some x) : ruX st vs l k = !(ruB st vs x) := by unfold ruX; rw [h]
theorem rusB_some {st vs : Int} {l : List RuM} {k : Nat} (hk : k < l.length) (h : ruX st vs l k = true) : rusB st vs l = false := by
  unfold rusB
  rw [anyB_true.2 ⟨k, hk, h⟩]
  simp
theorem rusB_all {st vs : Int} {l : List RuM} (h8 : l.length ≤ 32) (h : ∀ j, j < l.length → ruX st vs l j = false) : rusB st vs l = true := by
  unfold rusB
  rw [anyB_false.2 h, decide_eq_true h8]
  rfl

end Go.Proofs.YtnkjdijbfnmnhaaGreat