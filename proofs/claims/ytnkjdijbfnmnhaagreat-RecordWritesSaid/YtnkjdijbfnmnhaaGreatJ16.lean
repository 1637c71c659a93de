/-
  Texts of this claim put together: Find.
-/
import Derived.Test.YtnkjdijbfnmnhaaGreatJ15
import Derived.Test.YtnkjdijbfnmnhaaGreatJ05
import Derived.Outline
/-
  Contracts of the standard library's IndexFunc and ContainsFunc, and of table's faulty, over whatever is handed on.
-/
namespace Go.Proofs.YtnkjdijbfnmnhaaGreat
open Go.RowKit

/-- an answer that is yes or no, and what is known then -/
def Ans (B : Nat) (w : World) (p : Bool) (I : World → Prop) (e : Ending) (w' : World) : Prop := e = .returned (.bool p) ∧ (p = false → I w') ∧ Below B w w'
theorem ret_boolT {a b : Bool} (h : a = b) : Ending.returned (.bool a) = .returned (.bool b) := by rw [h]
theorem ret_i64T {a b : Int} (h : a = b) : Ending.returned (.int .i64 a) = .returned (.int .i64 b) := by rw [h]

end Go.Proofs.YtnkjdijbfnmnhaaGreat
