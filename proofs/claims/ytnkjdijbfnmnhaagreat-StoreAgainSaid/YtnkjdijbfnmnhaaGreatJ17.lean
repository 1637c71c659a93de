/-
  Texts of this claim put together: Find, RefExpr, RefMay, Expr, Eval.
-/
import Derived.Test.YtnkjdijbfnmnhaaGreatJ15
import Derived.Test.YtnkjdijbfnmnhaaGreatJ04
import Derived.Outline
import Derived.Test.YtnkjdijbfnmnhaaGreatJ10
import Derived.Test.YtnkjdijbfnmnhaaGreatJ14

namespace Go.Proofs.YtnkjdijbfnmnhaaGreat
open Go.RowKit

def Ans (B:Nat) (w:World) (p:Bool) (I:World->Prop) (e:Ending) (w':World):Prop:=e = .returned (.bool p)/\(p=false->I w')/\Below B w w'
theorem ae {a b:Bool} (h:a=b):Ending.returned (.bool a) = .returned (.bool b):=by rw [h]
theorem fG {a b:Int} (h:a=b):Ending.returned (.int .i64 a) = .returned (.int .i64 b):=by rw [h]





theorem StkIs.keep {w w':World} {g:Nat} {S:List Int} (h:StkIs w g S) (hk:w'.heap[g]?=w.heap[g]?):StkIs w' g S:=by
 obtain ⟨cur,hg,h2⟩:=h
 exact ⟨cur,hk.trans hg,h2⟩
theorem StkIs.lt {w:World} {g:Nat} {S:List Int} (h:StkIs w g S):g<w.heap.size:=by
 obtain ⟨cur,hg,_⟩:=h
 exact (Array.getElem?_eq_some_iff.1 hg).1
theorem StkIs.below {w w':World} {g B:Nat} {S:List Int} (h:StkIs w g S) (hb:Below B w w') (hB:g<B):StkIs w' g S:=h.keep (hb.block g hB)
theorem AZ (w:World) (o:Obj) (row:Option Nat):w.grownBy (w.alloc o) row:=⟨rfl,rfl,rfl,by simp,fun k hk _=>((Below.refl w.heap.size w).alloc (Nat.le_refl _) o).block k hk⟩
theorem Ef (w:World) (a b:Value) (t:TypeId):(w.alloc (.cells #[a,b] t)).cell? ⟨w.heap.size,0,none⟩=some a:=by
 rw [cell_of_row _ _ 0 _ _ _ (heap_alloc_new w _)];rfl

def NextIs (r:Option (List Int)) (w:World) (g:Nat) (e:Ending) (w':World):Prop :=
 (∃v S,r=some (v::S)/\e = .returned (.tuple #[.int .i64 v, .bool true])/\StkIs w' g S/\w.grownBy w' (some g)) ∨
 (∃v,r=none/\e = .returned (.tuple #[.int .i64 v, .bool false])/\w.grownBy w' (some g))
theorem NextIs.yes {r:Option (List Int)} {w w':World} {g:Nat} {v:Int} {S:List Int} (h:r=some (v::S)) (hs:StkIs w' g S) (hg:w.grownBy w' (some g)):NextIs r w g (.returned (.tuple #[.int .i64 v, .bool true])) w' := .inl ⟨v,S,h,rfl,hs,hg⟩
theorem NextIs.no {r:Option (List Int)} {w w':World} {g:Nat} {v:Int} (h:r=none) (hg:w.grownBy w' (some g)):NextIs r w g (.returned (.tuple #[.int .i64 v, .bool false])) w' := .inr ⟨v,h,rfl,hg⟩

end Go.Proofs.YtnkjdijbfnmnhaaGreat
