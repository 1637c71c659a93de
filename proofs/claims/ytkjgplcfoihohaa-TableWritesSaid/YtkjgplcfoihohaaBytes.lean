/-
  The bytes of contracts: plain mathematics.
-/
import Derived.Test.YtkjgplcfoihohaaFireF
import Derived.Test.YtkjgplcfoihohaaPut
namespace Go.Proofs.Ytkjgplcfoihohaa
open Go.RowKit

def natB (n : Int) : List UInt8 := numB n.toNat
def numsB (l : List Int) : List UInt8 := l.flatMap natB
def tokB (t : Int × Int) : List UInt8 := natB t.1 ++ intB t.2
def fmlB (l : List (Int × Int)) : List UInt8 := natB l.length ++ l.flatMap tokB
def setBy (s : SetM) : List UInt8 := natB s.var ++ fmlB s.val.l
def emBy (e : EmM) : List UInt8 := natB e.tg ++ (natB e.ac ++ fmlB e.arg.l)
def setsBy (l : List SetM) : List UInt8 := natB l.length ++ l.flatMap setBy
def emsBy (l : List EmM) : List UInt8 := natB l.length ++ l.flatMap emBy
def ruBy (r : RuM) : List UInt8 := natB r.fr ++ (natB r.ac ++ (natB r.pa ++ (natB r.tt ++ (fmlB r.gu.l ++ (setsBy r.se.l ++ emsBy r.em.l)))))
def tabBy (st vs : Int) (l : List RuM) : List UInt8 := natB st ++ (natB vs ++ (natB l.length ++ l.flatMap ruBy))

theorem natB_len (n : Int) (h : n ≤ 9223372036854775807) : (natB n).length ≤ 10 := numB_length _ (by omega)
theorem intB_len (n : Int) (h : I64 n) : (intB n).length ≤ 10 := by
  unfold I64 at h
  exact numB_length _ (foldN_lt n h.1 h.2)
theorem flat_le {α : Type} {f : α → List UInt8} {q : Nat} : ∀ (l : List α), (∀ x ∈ l, (f x).length ≤ q) → (l.flatMap f).length ≤ q * l.length := by
  intro l
  induction l with
  | nil => intro _; simp
  | cons x l ih =>
    intro h
    have h1 := h x (by simp)
    have h2 := ih fun y hy => h y (by simp [hy])
    rw [List.flatMap_cons, List.length_append, List.length_cons, Nat.mul_succ]
    omega
theorem tokB_len (t : Int × Int) (h : TokIn t) : (tokB t).length ≤ 20 := by
  unfold tokB
  rw [List.length_append]
  have h1 := natB_len t.1 (by have := h.2.1; omega)
  have h2 := intB_len t.2 h.2.2
  omega
theorem fmlB_len (l : List (Int × Int)) (h : ∀ t ∈ l, TokIn t) (h1 : l.length ≤ 24) : (fmlB l).length ≤ 490 := by
  unfold fmlB
  rw [List.length_append]
  have h2 := natB_len l.length (by omega)
  have h3 := flat_le l fun t ht => tokB_len t (h t ht)
  omega
/-- a list's part up to k, and one more -/
theorem take_snoc {α : Type} {l : List α} {k : Nat} {x : α} (h : l[k]? = some x) : l.take (k + 1) = l.take k ++ [x] := by
  obtain ⟨hk, hx⟩ := List.getElem?_eq_some_iff.1 h
  rw [List.take_succ_eq_append_getElem hk, hx]
theorem flat_snoc {α : Type} {f : α → List UInt8} {l : List α} {k : Nat} {x : α} (h : l[k]? = some x) : (l.take (k + 1)).flatMap f = (l.take k).flatMap f ++ f x := by
  rw [take_snoc h, List.flatMap_append]
  simp
theorem flat_take_le {α : Type} {f : α → List UInt8} {q : Nat} (l : List α) (h : ∀ x ∈ l, (f x).length ≤ q) (k : Nat) : ((l.take k).flatMap f).length ≤ q * l.length := by
  have h1 := flat_le (l.take k) fun x hx => h x (List.mem_of_mem_take hx)
  have h2 : (l.take k).length ≤ l.length := by rw [List.length_take]; omega
  exact Nat.le_trans h1 (Nat.mul_le_mul_left q h2)

/-- a formula of a contract that may be: its length -/
theorem mayB_len {l : List (Int × Int)} {vs : Int} (h : mayB l vs = true) : l.length ≤ 24 := (mayB_true h).1
theorem guB_len {l : List (Int × Int)} {vs : Int} (h : guB vs l = true) : l.length ≤ 24 := by
  unfold guB at h
  simp only [Bool.or_eq_true, decide_eq_true_eq] at h
  rcases h with h | h
  · omega
  · exact mayB_len h
theorem setBy_len {w : World} {B : Nat} {s : SetM} (hs : SetM.ok w B s) (h : s.val.l.length ≤ 24) : (setBy s).length ≤ 500 := by
  unfold setBy
  rw [List.length_append]
  have h1 := natB_len s.var hs.1.2
  have h2 := fmlB_len s.val.l hs.2.2.2.2 h
  omega
theorem emBy_len {w : World} {B : Nat} {e : EmM} (hs : EmM.ok w B e) (h : e.arg.l.length ≤ 24) : (emBy e).length ≤ 510 := by
  unfold emBy
  rw [List.length_append, List.length_append]
  have h1 := natB_len e.tg (by have := hs.1.2; omega)
  have h3 := natB_len e.ac hs.2.1.2
  have h2 := fmlB_len e.arg.l hs.2.2.2.2.2 h
  omega
/-- what bounds a rule's bytes -/
def RuS (r : RuM) : Prop := r.gu.l.length ≤ 24 ∧ (r.se.l.length ≤ 8 ∧ ∀ s ∈ r.se.l, s.val.l.length ≤ 24) ∧ (r.em.l.length ≤ 4 ∧ ∀ e ∈ r.em.l, e.arg.l.length ≤ 24)
theorem ruS_of {st vs : Int} {r : RuM} (h : ruB st vs r = true) : RuS r := by
  obtain ⟨-, -, -, -, hg, hs, he⟩ := ruB_parts h
  refine ⟨guB_len hg, ⟨setsB_len hs, fun s hm => ?_⟩, ⟨emsB_len he, fun e hm => ?_⟩⟩
  · obtain ⟨k, hk, rfl⟩ := List.getElem_of_mem hm
    exact mayB_len (setsB_at hs (List.getElem?_eq_getElem hk)).2
  · obtain ⟨k, hk, rfl⟩ := List.getElem_of_mem hm
    exact mayB_len (emsB_at he (List.getElem?_eq_getElem hk)).2.2
theorem setsBy_len {w : World} {B : Nat} {s : Sl SetM} (hs : setsOk w B s) (h : s.l.length ≤ 8 ∧ ∀ x ∈ s.l, x.val.l.length ≤ 24) : (setsBy s.l).length ≤ 4010 := by
  unfold setsBy
  rw [List.length_append]
  have h1 := natB_len s.l.length (by omega)
  have h2 := flat_le (f := setBy) s.l fun x hx => setBy_len (hs.2.2.2 x hx) (h.2 x hx)
  omega
theorem emsBy_len {w : World} {B : Nat} {s : Sl EmM} (hs : emsOk w B s) (h : s.l.length ≤ 4 ∧ ∀ x ∈ s.l, x.arg.l.length ≤ 24) : (emsBy s.l).length ≤ 2050 := by
  unfold emsBy
  rw [List.length_append]
  have h1 := natB_len s.l.length (by omega)
  have h2 := flat_le (f := emBy) s.l fun x hx => emBy_len (hs.2.2.2 x hx) (h.2 x hx)
  omega
theorem ruBy_len {w : World} {B : Nat} {r : RuM} (hs : RuM.ok w B r) (h : RuS r) : (ruBy r).length ≤ 7000 := by
  unfold ruBy
  simp only [List.length_append]
  obtain ⟨⟨i1, i2, i3, i4⟩, h1, h2, h3⟩ := hs
  have a1 := natB_len r.fr i1.2
  have a2 := natB_len r.ac i2.2
  have a3 := natB_len r.pa i3.2
  have a4 := natB_len r.tt i4.2
  have a5 := fmlB_len r.gu.l h1.2.2.2 h.1
  have a6 := setsBy_len h2 h.2.1
  have a7 := emsBy_len h3 h.2.2
  omega
end Go.Proofs.Ytkjgplcfoihohaa
