/-
  Short names for what drawn regions are taken by. Nothing here speaks of a program.
-/
import Derived.WalkKit
import Derived.Deep.RegionHeld
namespace Go.Proofs.YtnkjdijbfnmnhaaGreat
open Go.RowKit

theorem sT0 {α : Type} (a b : α) (l : List α) : (a :: l).set 0 b = b :: l := rfl
theorem sT1 {α : Type} (a b : α) (l : List α) (n : Nat) : (a :: l).set (n + 1) b = a :: l.set n b := rfl
theorem sTI {α : Type} (l : List α) (i : Nat) (b : α) : l.toArray.setIfInBounds i b = (l.set i b).toArray := by simp

/-- an operation of a drawn region that is not wanted, with what decides by itself as defaults -/
theorem tkU {P : Program} {ops : Array Oper} {Q : Exit → Act → World → Prop} {md : Region.Mode} {S : World → Prop} {fuel : Nat} {listed : Array Bool} {a : Act} {w : World} (i n : Nat) {p1 p2 p3 p4 p5}
    (hi : ops[i]? = some ⟨some n, p1, p2, p3, p4, p5⟩) (hS : S w) (h : wpAnyH P md ops Q S fuel (listed.setIfInBounds i true) (a.put (some n) undef) w)
    (hs : Region.noSelect ops = true := by kernel_rfl) (hf : Region.free md ops listed i = true := by kernel_rfl) (hr : (Region.ready md ops listed).contains i = true := by kernel_rfl)
    (hQ : ∀ c a w, Q (.panic c) (a.put (some n) undef) w → Q (.panic c) a w := by exact fun _ _ _ h => h)
    (hy : Region.wanted ⟨some n, p1, p2, p3, p4, p5⟩ (yielded ops a.tmps) = false := by rfl) : wpAnyH P md ops Q S (fuel + 1) listed a w :=
  wpAnyH_take (v := undef) hi hs hf hr hQ (Or.inr ⟨hy, rfl⟩) hS h

/-- an operation of a drawn region that yields a value -/
theorem tkY {P : Program} {ops : Array Oper} {Q : Exit → Act → World → Prop} {md : Region.Mode} {S : World → Prop} {fuel : Nat} {listed : Array Bool} {a : Act} {w : World} (i n : Nat) (v : Value) {p1 p2 p3 p4 p5}
    (hi : ops[i]? = some ⟨some n, p1, p2, p3, p4, p5⟩) (hy : ∀ w, S w → (execOp a.eval ⟨some n, p1, p2, p3, p4, p5⟩).run P w = .ok (.value v) w) (hS : S w) (h : wpAnyH P md ops Q S fuel (listed.setIfInBounds i true) (a.put (some n) v) w)
    (hs : Region.noSelect ops = true := by kernel_rfl) (hf : Region.free md ops listed i = true := by kernel_rfl) (hr : (Region.ready md ops listed).contains i = true := by kernel_rfl)
    (hQ : ∀ c a w, Q (.panic c) (a.put (some n) v) w → Q (.panic c) a w := by exact fun _ _ _ h => h)
    (hg : Region.wanted ⟨some n, p1, p2, p3, p4, p5⟩ (yielded ops a.tmps) = true := by rfl) : wpAnyH P md ops Q S (fuel + 1) listed a w :=
  wpAnyH_take (v := v) hi hs hf hr hQ (Or.inl ⟨hg, hy⟩) hS h

end Go.Proofs.YtnkjdijbfnmnhaaGreat
