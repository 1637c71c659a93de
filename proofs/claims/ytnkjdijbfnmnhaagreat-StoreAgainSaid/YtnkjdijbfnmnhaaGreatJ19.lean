/-
  Texts of this claim put together: PutT2, PutT3.
-/
import Derived.Test.YtnkjdijbfnmnhaaGreatJ18
import Derived.Deep.RegionHeldLaw
import Derived.IntWalk

namespace Go.Proofs.YtnkjdijbfnmnhaaGreat
open Go.RowKit

section
variable {P : Program}

theorem j0 (w:World) {ops:Array Oper} {o:Oper} {a:Act} {K:Act->World->Prop} {Q:Exit->Act->World->Prop} {E:Prop} (hgd:Region.wanted o (yielded ops a.tmps)=true) (s x:Operand) (t:TypeId)
  (ho:o.op = .call { callee := .builtin .append,args := #[s,x],argTypes := #[t,t] })
  (base:Nat) (hinfo:(P.info? 5).map (fun i=>(i.zero,i.size,i.bytes))=some (some (.int .u8 0),1,1)) (ht:P.underlying t=some (.slice 5))
  (v:Value) (l1 l2 r:List UInt8) (hres:l1++l2=r) (hs:a.eval s=v) (hown:w.ownsRow base 5 1 v l1.length (bv l1))
  (B:Nat) (A:Option Addr) (m c:Nat) (hx:a.eval x = .slice A m c) (hl:l2.length=m) (hr:Sees w B A (bv l2)) (hn:l1.length<=10000000/\m<=10000000) (hbase:base<=w.heap.size)
  (h:∀A' c' w',RowStep base v w (.slice A' r.length c') w' r->K (a.put o.dst (.slice A' r.length c')) w') :
  if Region.wanted o (yielded ops a.tmps)=true then Oper.wp P o a w K Q else E:=by
 rw [if_pos hgd]
 obtain ⟨i0,hi,hz0,hz1,hz2⟩:=info_parts hinfo
 have e1:l1.length+m=r.length:=by rw [<- hres,List.length_append];omega
 obtain ⟨v',w',hrun,h2,h3,h4⟩:=cL (P:=P) w base t o.type 5 i0 (.int .u8 0) 1 ht hi hz0 hz1 hz2 rfl v l1.length (bv l1) hown B A m c (bv l2) (by rw [bv_length,hl]) hr (bD l2) (by unfold maxLen;omega) (by omega) hbase
 rw [e1,<- bv_append,hres] at h2
 obtain ⟨A',c',rfl⟩:=bg h2
 unfold Oper.wp execOp
 simp only [ho,resolve,invoke,builtin,Sem.run_bind,Sem.run_pure,Result.andThen_ok,List.map_toArray,List.map_cons,List.map_nil,hs,hx,hrun]
 refine h A' c' w' ⟨h2,h3,fun k hk => ?_⟩
 rcases h4 with h4|h4
 ·exact .inl (h4 ▸ hk)
 ·rw [h4] at hk
  injection hk with hk
  exact .inr (by omega)
end

theorem A9 {w:World} {base:Nat} {v:Value} {r:List UInt8} (h:w.ownsRow base 5 1 v r.length (bv r)) {g:Nat} (hg:w.heap.size<=g):v.ownBlock≠some g:=fun e=>by
 have:=(h.lt g e).2
 omega
theorem Eg (l:List Int):(l.map (Value.int .i64)).toArray.toList=iv l:=rfl
theorem Dh {w:World} (l:List Int) (cs:Array Value) (t:TypeId) (h:cs=(l.map (Value.int .i64)).toArray):Sees (w.alloc (.cells cs t)) (w.alloc (.cells cs t)).heap.size (some ⟨w.heap.size,0,none⟩) (iv l):=by
 subst h
 have:=dm w (l.map (Value.int .i64)).toArray t (iv l) rfl
 simpa using this


end Go.Proofs.YtnkjdijbfnmnhaaGreat
