/-
  Texts of this claim put together: Ops, Stk.
-/
import Derived.Test.YtnkjdijbfnmnhaaGreatRows
import Derived.Test.YtnkjdijbfnmnhaaGreatJ04
import Derived.Test.YtnkjdijbfnmnhaaGreatForm
import Derived.IntWalk
import Derived.Outline

namespace Go.Proofs.YtnkjdijbfnmnhaaGreat
open Go.RowKit

def TwoR (o a b v:Int) (r:Bool):Prop:=(r=true/\two o a b=some v)∨(r=false/\two o a b=none)
theorem TwoR.of {o a b v:Int} {r:Bool} (x:Int) (hx:twoE o a b=x) (h1:r=true ↔ I64 x) (h2:I64 x->v=x):TwoR o a b v r:=by
 subst hx
 by_cases h:I64 (twoE o a b)
 ·exact .inl ⟨h1.2 h,by rw [two,if_pos h,h2 h]⟩
 ·refine .inr ⟨?_,by rw [two,if_neg h]⟩
  cases r with
  | false=>rfl
  | true=>exact absurd (h1.1 rfl) h

def Fa (o a b:Int) (w:World) (e:Ending) (w':World):Prop:=∃v r,e = .returned (.tuple #[.int .i64 v, .bool r])/\TwoR o a b v r/\w=w'


def StkIs (w:World) (g:Nat) (S:List Int):Prop :=
 ∃cur:Array Value,w.heap[g]?=some (.cells cur 405 (0,0))/\cur.size=25/\S.length<=24/\cur[24]?=some (Value.int .i64 (S.length:Nat))/\∀(i:Nat) (v:Int),S.reverse[i]?=some v->cur[i]?=some (Value.int .i64 v)

end Go.Proofs.YtnkjdijbfnmnhaaGreat
