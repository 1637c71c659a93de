/-
  Texts of this claim put together: MayT, MayT2, FindT.
-/
import Derived.Test.YtnkjdijbfnmnhaaGreatJ16
import Derived.Test.YtnkjdijbfnmnhaaGreatJ17
import Derived.Shelf.Abstract
/-
  Contracts of table's functions that tell which contracts may be.
-/
namespace Go.Proofs.YtnkjdijbfnmnhaaGreat
open Go.RowKit

theorem toks_n63 {w : World} {B : Nat} {s : TokS} (h : toksOk w B s) : s.l.length ≤ maxLen := Nat.le_trans h.1 h.2.1

theorem setX_at {vs : Int} {l : List SetM} {k : Nat} {x : SetM} (h : l[k]? = some x) : setX vs l k = (!(inB x.var (leastB l k) (vs - 1)) || !(mayB x.val.l vs)) := by unfold setX; rw [h]
theorem leastB_succ {l : List SetM} {k : Nat} {x : SetM} (h : l[k]? = some x) : leastB l (k + 1) = x.var + 1 := by show (match l[k]? with | some s => s.var + 1 | none => 0) = _; rw [h]

end Go.Proofs.YtnkjdijbfnmnhaaGreat
/-
  Contracts of table's May, Find and what they call.
-/
namespace Go.Proofs.YtnkjdijbfnmnhaaGreat
open Go.RowKit

/-- what May keeps while it goes through rules: the contract that it holds -/
def TabI (st vs : Int) (t : Sl RuM) (bt : Nat) (w : World) : Prop :=
  w.cell? ⟨bt, 0, none⟩ = some (.int .i64 st) ∧ w.cell? ⟨bt, 1, none⟩ = some (.int .i64 vs) ∧ w.cell? ⟨bt, 2, none⟩ = some (.slice t.A t.l.length t.c) ∧ bt < w.heap.size
theorem TabI.below {st vs : Int} {t : Sl RuM} {bt : Nat} {w w' : World} (h : TabI st vs t bt w) (hb : Below w.heap.size w w') : TabI st vs t bt w' := by
  obtain ⟨h1, h2, h3, b1⟩ := h
  have hz := hb.size
  exact ⟨(hb.cell (p := ⟨bt, 0, none⟩) b1).trans h1, (hb.cell (p := ⟨bt, 1, none⟩) b1).trans h2, (hb.cell (p := ⟨bt, 2, none⟩) b1).trans h3, by omega⟩
theorem TabI.new (st vs : Int) (t : Sl RuM) (w : World) : TabI st vs t w.heap.size (w.alloc (.cells #[.int .i64 st, .int .i64 vs, .slice t.A t.l.length t.c] 24)) := by
  refine ⟨?_, ?_, ?_, by simp⟩ <;> (rw [World.cell?_alloc_at _ _ _ _ rfl]; rfl)
theorem ruX_at {st vs : Int} {l : List RuM} {k : Nat} {x : RuM} (h : l[k]? = some x) : ruX st vs l k = !(ruB st vs x) := by unfold ruX; rw [h]

end Go.Proofs.YtnkjdijbfnmnhaaGreat
/-
  Contracts of table's taken and Find.
-/
namespace Go.Proofs.YtnkjdijbfnmnhaaGreat
open Go.RowKit

/-- what taken keeps while it goes through rules -/
def TakI (sa ac pa : Int) (V : Option Addr) (m k : Nat) (arg : Int) (z : Nat) (w : World) : Prop :=
  w.cell? ⟨z, 0, none⟩ = some (.int .i64 sa) ∧ w.cell? ⟨z + 1, 0, none⟩ = some (.int .i64 ac) ∧ w.cell? ⟨z + 2, 0, none⟩ = some (.int .i64 pa) ∧ w.cell? ⟨z + 3, 0, none⟩ = some (.slice V m k) ∧ w.cell? ⟨z + 4, 0, none⟩ = some (.int .i64 arg) ∧ z + 4 < w.heap.size
theorem TakI.below {sa ac pa : Int} {V : Option Addr} {m k : Nat} {arg : Int} {z : Nat} {w w' : World} (h : TakI sa ac pa V m k arg z w) (hb : Below w.heap.size w w') : TakI sa ac pa V m k arg z w' := by
  obtain ⟨h1, h2, h3, h4, h5, b1⟩ := h
  have hz := hb.size
  exact ⟨(hb.cell (p := ⟨z, 0, none⟩) (by simp; omega)).trans h1, (hb.cell (p := ⟨z + 1, 0, none⟩) (by simp; omega)).trans h2, (hb.cell (p := ⟨z + 2, 0, none⟩) (by simp; omega)).trans h3, (hb.cell (p := ⟨z + 3, 0, none⟩) (by simp; omega)).trans h4, (hb.cell (p := ⟨z + 4, 0, none⟩) (by simp; omega)).trans h5, by omega⟩
theorem takX_at {sa ac pa : Int} {vars : List Int} {arg : Int} {l : List RuM} {k : Nat} {x : RuM} (h : l[k]? = some x) : takX sa ac pa vars arg l k = isFor sa ac pa vars arg x := by unfold takX; rw [h]

/-- the world behind five boxes -/
def box5 (w : World) (sa ac pa : Int) (V : Option Addr) (m k : Nat) (arg : Int) : World :=
  ((((w.alloc (.cells #[.int .i64 sa] 3)).alloc (.cells #[.int .i64 ac] 3)).alloc (.cells #[.int .i64 pa] 3)).alloc (.cells #[.slice V m k] 26)).alloc (.cells #[.int .i64 arg] 2)

end Go.Proofs.YtnkjdijbfnmnhaaGreat