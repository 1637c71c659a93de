/-
  Texts of this claim put together: Round13.
-/
import Derived.Test.YtnkjdijbfnmnhaaGreatJ48
import Derived.Sort.QuietIn
import Derived.OwnWalkIn

namespace Go.Proofs.YtnkjdijbfnmnhaaGreat
open Go.RowKit Go.Shelf

def iT (ops:Array Oper):Bool:=ops.toList.all fun o=>match o.op with | .defer _=>false|_=>true
theorem nD {ops:Array Oper} (h:iT ops=true) {i:Nat} {o:Oper} (ho:ops[i]?=some o) (c:Call):o.op ≠ .defer c:=fun e=>by
 have h1:=List.all_eq_true.1 h o (by
  rw [<- Array.getElem?_toList] at ho
  exact List.mem_of_getElem? ho)
 rw [e] at h1
 cases h1
section
variable {F : Fence} {n : Nat} {P : Program} {ops : Array Oper} {md : Region.Mode} {C : World -> Prop}
theorem xJ (hd:iT ops=true) {Q:Act->Prop} {Q':Exit->Act->World->Prop} (hQ:∀a w,C w->Q a->Q' .normal a w):∀(fuel:Nat) (listed:Array Bool) (a:Act) (w:World),C w ->
  wpAnyQIn F n P md ops C Q fuel listed a->wpAnyIn F n P md ops Q' fuel listed a w:=by
 intro fuel
 induction fuel with
 | zero=>exact fun _ _ _ hw h=>⟨h.1,hQ _ _ hw h.2⟩
 | succ fuel ih =>
  intro listed a w hw h
  refine ⟨fun e=>hQ _ _ hw (h.1 e),fun i hi => ?_⟩
  have hq:=h.2 i hi
  have ih':=ih (listed.setIfInBounds i true)
  unfold qOpIn at hq
  unfold wpOpIn
  cases ho:ops[i]? with
  | none =>
   simp only [ho] at hq ⊢
   exact ih' _ _ hw hq
  | some o =>
   simp only [ho] at hq ⊢
   obtain ⟨asked,hq⟩:=hq
   by_cases hwd:Region.wanted o (yielded ops a.tmps)=true
   ·rw [if_pos hwd] at hq ⊢
    obtain ⟨v,h1,h2⟩:=hq
    refine ⟨asked w hw,?_⟩
    rw [Oper.semAt_plain F _ _ (nD hd ho)]
    have h3:Oper.quietUponIn F n P C w v ((execOp a.eval o).run P w):=h1 w hw
    generalize (execOp a.eval o).run P w=r at h3 ⊢
    cases r with
    | halt x u=>exact h3.elim
    | ok x u =>
     cases x <;> first
      | exact h3.elim
      | (obtain ⟨e1,e2⟩:=h3;rw [e1,<- e2] at *;exact ih' _ _ hw h2)
      | (obtain ⟨e1,e2⟩:=h3;rw [e1,e2];exact ih' _ _ hw h2)
      | (obtain ⟨e1,hdp,hc⟩:=h3;rw [e1];exact ⟨hdp,hc.mono fun e u' ⟨he,hu⟩=>by subst he;exact ih' _ _ hu h2⟩)
      | (obtain ⟨e1,e2⟩:=h3;subst e2;rw [e1];exact ih' _ _ hw h2)
   ·rw [if_neg hwd] at hq ⊢
    exact ⟨asked w hw,ih' _ _ hw hq⟩
theorem iU {id:Nat} {Q:Exit->Act->World->Prop} {a:Act} {w:World} {l:List Oper} (hm:P.follows .mixedOrders=true) (hd:iT l.toArray=true) (hB:Region.lexB .any l.toArray=true)
  (h:wpQuietIn F n P l.toArray (fun w'=>∃m,w'=w.drewN m) (fun a'=>∀w',(∃m,w'=w.drewN m)->Q .normal a' w') l a):(Code.region id l.toArray true).wpIn F n P Q a w:=by
 simp only [Region.lexB,Bool.and_eq_true] at hB
 refine wpIn_region_any hm (xJ hd (C:=fun w'=>∃m,w'=w.drewN m) (Q:=fun a'=>∀w',(∃m,w'=w.drewN m)->Q .normal a' w') (fun _ w' hw' h=>h w' hw') _ _ _ _ ⟨1,rfl⟩ ?_)
 have:=wpAnyQIn_lex (F:=F) (n:=n) (C:=fun w'=>∃m,w'=w.drewN m) (md := .any) hB.1 l 0 (Array.replicate l.toArray.size false) a (by simp) (by simpa using hB.2) h
 simpa using this
end
end Go.Proofs.YtnkjdijbfnmnhaaGreat
