/-
  Texts of this claim put together: Fire, Fire2.
-/
import Derived.Test.YtnkjdijbfnmnhaaGreatJ15
import Derived.Test.YtnkjdijbfnmnhaaGreatJ21
import Derived.Test.YtnkjdijbfnmnhaaGreatJ18
/-
  Contracts of table's setAll, emitAll and Fire.
-/
namespace Go.Proofs.YtnkjdijbfnmnhaaGreat
open Go.RowKit

/-- what setAll leaves -/
def SetAll (r : Option (List Int)) (w : World) (e : Ending) (w' : World) : Prop :=
  (∃ a A c, r = some a ∧ e = .returned (.tuple #[.slice A a.length c, .bool true]) ∧ w'.ownsRow w.heap.size 2 1 (.slice A a.length c) a.length (iv a) ∧ Below w.heap.size w w') ∨
  (r = none ∧ e = .returned (.tuple #[.slice none 0 0, .bool false]) ∧ Below w.heap.size w w')
def EmitAll (r : Option (List (Int × Int × Int))) (w : World) (e : Ending) (w' : World) : Prop :=
  (∃ a A c, r = some a ∧ e = .returned (.tuple #[.slice A a.length c, .bool true]) ∧ w'.ownsRow w.heap.size 108 4 (.slice A a.length c) a.length (cv a) ∧ Below w.heap.size w w') ∨
  (r = none ∧ e = .returned (.tuple #[.slice none 0 0, .bool false]) ∧ Below w.heap.size w w')

theorem own_ivar {w : World} {base n c : Nat} {A : Option Addr} {l : List Int} {j : Nat} {e : TypeId} (h : w.ownsRow base e 1 (.slice A n c) n (iv l)) (hn : l.length = n) (hj : j < n) :
    ∃ g, A = some ⟨g, 0, none⟩ ∧ base ≤ g ∧ g < w.heap.size ∧ (∃ u, w.cell? ⟨g, j, none⟩ = some u) ∧ w.frozen? ⟨g, j, none⟩ = false := by
  rcases h.2 with ⟨_, h0'⟩ | ⟨g, cap, cur, hv, hb, hg, hc, _, _, hx⟩
  · omega
  · injection hv with hA _ hcap
    subst hA hcap
    refine ⟨g, rfl, hb, (Array.getElem?_eq_some_iff.1 hg).1, ?_, h.frozenAt j⟩
    rw [h.cellAt j (by omega)]
    exact ⟨_, List.getElem?_eq_getElem (by rw [iv_length]; omega)⟩

theorem ownCells_below {w w' : World} {b : Nat} {v : Value} {n : Nat} {xs : List Value} (h : w.ownsRow b 108 4 v n xs) (hb : Below w.heap.size w w') : w'.ownsRow b 108 4 v n xs := own_below h hb

end Go.Proofs.YtnkjdijbfnmnhaaGreat
/-
  Contract of table's Fire.
-/
namespace Go.Proofs.YtnkjdijbfnmnhaaGreat
open Go.RowKit

/-- what Fire leaves -/
def Fires (r : Int × List Int × List (Int × Int × Int) × Int) (w : World) (e : Ending) (w' : World) : Prop :=
  ∃ A c A2 c2, e = .returned (.tuple #[.int .i64 r.1, .slice A r.2.1.length c, .slice A2 r.2.2.1.length c2, .int .i64 r.2.2.2]) ∧ w'.ownsRow w.heap.size 2 1 (.slice A r.2.1.length c) r.2.1.length (iv r.2.1) ∧
    w'.ownsRow w.heap.size 108 4 (.slice A2 r.2.2.1.length c2) r.2.2.1.length (cv r.2.2.1) ∧ Below w.heap.size w w'
theorem Fires.none {R : Int × List Int × List (Int × Int × Int) × Int} {e : Int} {w w' : World} (h : R = (0, [], [], e)) (hb : Below w.heap.size w w') : Fires R w (.returned (.tuple #[.int .i64 0, .slice none 0 0, .slice none 0 0, .int .i64 e])) w' := by
  subst h
  exact ⟨_, _, _, _, rfl, World.ownsRow_nil _ _ _ _, World.ownsRow_nil _ _ _ _, hb⟩

end Go.Proofs.YtnkjdijbfnmnhaaGreat