/-
  Texts of this claim put together: Copy7.
-/
import Derived.Test.YtnkjdijbfnmnhaaGreatJ04
import Derived.Laws.CopyRow
import Derived.Lib.AppendZerosOnto
import Derived.Lib.Overlaps

namespace Go.Proofs.YtnkjdijbfnmnhaaGreat
open Go.RowKit

section
variable {P : Program}

theorem l9 (w:World) (dT sT ty elem:TypeId) (q g o dLen dCap:Nat) (a:Addr) (sLen sCap m:Nat) (cur:Array Value) (t:TypeId) (cs:List Value)
  (hu:P.underlying dT=some (.slice elem)) (hs:(P.info? elem).map (·.size)=some q)
  (hg:w.heap[g]?=some (.cells cur t (0,0))) (hm:Nat.min sLen dLen=m) (hn:cs.length=m * q)
  (hsrc:∀j v,cs[j]?=some v->w.cell? (a.add j)=some v) (hfit:o+cs.length<=cur.size) (h1:∀v∈cs,v.oneCell'=true) :
  (Builtin.copy_ #[dT,sT] ty #[.slice (some ⟨g,o,none⟩) dLen dCap, .slice (some a) sLen sCap]).run P w =
   .ok (goInt m) (w.setRow g (cur.toList.take o++cs++cur.toList.drop (o+cs.length)).toArray):=by
 have hl:=run_loadCells_list (P:=P) w a cs hsrc
 have hst:=run_storeCells_at P g o t cs 0 cur w hg (by simpa using hfit) h1
 rw [hn] at hl
 cases hq:P.info? elem with
 | none=>simp [hq] at hs
 | some i =>
  have hi:i.size=q:=by simpa [hq] using hs
  subst hm
  simp [Builtin.copy_,run_underlying hu,Builtin.lenOf,Builtin.firstCells,sizeOf,typeInfo,hq,hi,hl,hst]

theorem kT (w:World) (dT sT elem:TypeId) (q g o dLen dCap:Nat) (a:Addr) (sLen sCap m:Nat) (cur:Array Value) (t:TypeId) (cs:List Value)
  (hu:P.underlying dT=some (.slice elem)) (hs:(P.info? elem).map (·.size)=some q)
  (hg:w.heap[g]?=some (.cells cur t (0,0))) (hm:Nat.min sLen dLen=m) (hn:cs.length=m * q)
  (hsrc:∀j v,cs[j]?=some v->w.cell? (a.add j)=some v) (hfit:o+cs.length<=cur.size) (h1:∀v∈cs,v.oneCell'=true) :
  ∃w',(∀ty,(Builtin.copy_ #[dT,sT] ty #[.slice (some ⟨g,o,none⟩) dLen dCap, .slice (some a) sLen sCap]).run P w = .ok (goInt m) w') /\
   w'.heap[g]?=some (.cells (cur.toList.take o++cs++cur.toList.drop (o+cs.length)).toArray t (0,0))/\w.grownBy w' (some g)/\w'.heap.size=w.heap.size :=
 ⟨_,fun ty=>l9 w dT sT ty elem q g o dLen dCap a sLen sCap m cur t cs hu hs hg hm hn hsrc hfit h1,setRow_heap w g cur _ t _ hg,
  ⟨rfl,rfl,rfl,by simp,fun k _ hk=>setRow_other w g k _ (fun e=>hk (by rw [e]))⟩,by simp⟩

theorem sL (w:World) {ops:Array Oper} {rest:List Oper} {o:Oper} {a:Act} {Q:Exit->Act->World->Prop} (hgd:Region.wanted o (yielded ops a.tmps)=true) (d s:Operand) (t:TypeId)
  (ho:o.op = .call { callee := .builtin .copy,args := #[d,s],argTypes := #[t,t] }) (v u:Value) (hd:a.eval d=v) (hs:a.eval s=u) {v':Value} {w':World}
  (hr:∀ty,(Builtin.copy_ #[t,t] ty #[v,u]).run P w = .ok v' w') (h:wpList P ops Q rest (a.put o.dst v') w'):wpList P ops Q (o::rest) a w:=by
 refine wpList_step fun _ hK => ?_
 rw [if_pos hgd]
 unfold Oper.wp execOp
 simp only [ho,resolve,invoke,builtin,Sem.run_bind,Sem.run_pure,Result.andThen_ok,List.map_toArray,List.map_cons,List.map_nil,hd,hs,hr]
 exact hK _ _ h

theorem pN (w:World) {ops:Array Oper} {rest:List Oper} {o:Oper} {a:Act} {Q:Exit->Act->World->Prop} (hgd:Region.wanted o (yielded ops a.tmps)=true) (s x:Operand) (t u:TypeId)
  (ho:o.op = .call { callee := .builtin .append,args := #[s,x],argTypes := #[t,u] }) (v z:Value) (hs:a.eval s=v) (hx:a.eval x=z) {v':Value} {w':World}
  (hr:∀ty,(Builtin.append_ #[t,u] ty #[v,z]).run P w = .ok v' w') (h:wpList P ops Q rest (a.put o.dst v') w'):wpList P ops Q (o::rest) a w:=by
 refine wpList_step fun _ hK => ?_
 rw [if_pos hgd]
 unfold Oper.wp execOp
 simp only [ho,resolve,invoke,builtin,Sem.run_bind,Sem.run_pure,Result.andThen_ok,List.map_toArray,List.map_cons,List.map_nil,hs,hx,hr]
 exact hK _ _ h

theorem uV {ops:Array Oper} {o:Oper} {a:Act} {w:World} {K:Act->World->Prop} {E:Prop}
  (hgd:Region.wanted o (yielded ops a.tmps)=true) (d x:Operand) (t:TypeId) (hop:o.op=Op.call { callee:=Callee.builtin Builtin.copy,args := #[d,x],argTypes := #[t,t] })
  (v u:Value) (hd:a.eval d=v) (hx:a.eval x=u) {v':Value} {w':World} (hr:∀ty,(Builtin.copy_ #[t,t] ty #[v,u]).run P w = .ok v' w') (hK:K (a.put o.dst v') w') :
  if Region.wanted o (yielded ops a.tmps)=true then Oper.wp P o a w K (fun _ _ _=>True) else E:=by
 rw [if_pos hgd]
 unfold Oper.wp
 simp [execOp,hop,resolve,invoke,builtin,hd,hx,hr,Result.andThen]
 exact hK
theorem dX {ops:Array Oper} {o:Oper} {a:Act} {w:World} {K:Act->World->Prop} {R:Exit->Act->World->Prop} {E:Prop}
  (hgd:Region.wanted o (yielded ops a.tmps)=true) (d x:Operand) (t:TypeId) (hop:o.op=Op.call { callee:=Callee.builtin Builtin.append,args := #[d,x],argTypes := #[t,t] })
  (v u:Value) (hd:a.eval d=v) (hx:a.eval x=u) {v':Value} {w':World} (hr:∀ty,(Builtin.append_ #[t,t] ty #[v,u]).run P w = .ok v' w') (hK:K (a.put o.dst v') w') :
  if Region.wanted o (yielded ops a.tmps)=true then Oper.wp P o a w K R else E:=by
 rw [if_pos hgd]
 unfold Oper.wp
 simp [execOp,hop,resolve,invoke,builtin,hd,hx,hr,Result.andThen]
 exact hK
end

section
variable {α : Type}
theorem EI (l:List α) (k j:Nat):(l.take k)[j]?=if j<k then l[j]? else none:=List.getElem?_take

theorem C1 {cur xs d:List α} {a q N:Nat} (hx:cur.take N=xs) (hd:d.length=q) (ha:a+q<=N) (hs:N+q<=cur.length) {c1 c2:List α}
  (h1:cur.take (a+q)++xs.drop a++cur.drop (a+q+(xs.drop a).length)=c1) (h2:c1.take a++d++c1.drop (a+d.length)=c2) :
  c1.length=cur.length/\c2.length=cur.length/\c2.take (N+q)=xs.take a++d++xs.drop a:=by
 have hxl:xs.length=N:=by rw [<- hx,List.length_take];omega
 have e1:(xs.drop a).length=N - a:=by rw [List.length_drop,hxl]
 have l1:c1.length=cur.length:=by
  rw [<- h1]
  simp only [List.length_append,List.length_take,List.length_drop,hxl]
  omega
 have l2:c2.length=cur.length:=by
  rw [<- h2]
  simp only [List.length_append,List.length_take,List.length_drop,l1]
  omega
 refine ⟨l1,l2,?_⟩
 have k1:c1.take a=xs.take a:=by
  rw [<- h1,List.append_assoc,List.take_append_of_le_length (by rw [List.length_take];omega),List.take_take,<- hx,List.take_take,Nat.min_eq_left (by omega),Nat.min_eq_left (by omega)]
 have k2:(c1.drop (a+q)).take (N - a)=xs.drop a:=by
  have e2:(cur.take (a+q)).length=a+q:=by rw [List.length_take];omega
  rw [<- h1,List.append_assoc,List.drop_append,e2,Nat.sub_self,List.drop_zero,List.drop_eq_nil_of_le (by omega),List.nil_append,List.take_append_of_le_length (by omega),List.take_of_length_le (by omega)]
 have k3:(c1.take a++d).length=a+q:=by rw [List.length_append,List.length_take,l1];omega
 rw [<- h2,hd,List.take_append,k3,List.take_of_length_le (by omega),show N+q - (a+q)=N - a by omega,k1,k2]

theorem EJ {cur xs d:List α} {a q N:Nat} (hx:cur.take a=xs.take a) (hxl:xs.length=N) (hd:d.length=q) (ha:a<=N) (hs:N+q<=cur.length) {c1 c2:List α}
  (h1:cur.take a++d++cur.drop (a+d.length)=c1) (h2:c1.take (a+q)++xs.drop a++c1.drop (a+q+(xs.drop a).length)=c2) :
  c1.length=cur.length/\c2.length=cur.length/\c2.take (N+q)=xs.take a++d++xs.drop a:=by
 have e1:(xs.drop a).length=N - a:=by rw [List.length_drop,hxl]
 have l1:c1.length=cur.length:=by
  rw [<- h1]
  simp only [List.length_append,List.length_take,List.length_drop]
  omega
 have l2:c2.length=cur.length:=by
  rw [<- h2]
  simp only [List.length_append,List.length_take,List.length_drop,l1,hxl]
  omega
 refine ⟨l1,l2,?_⟩
 have h3:c1.take (a+q)=xs.take a++d:=by
  rw [<- h1,<- hx,List.take_append_of_le_length (by simp only [List.length_append,List.length_take];omega),List.take_of_length_le (by simp only [List.length_append,List.length_take];omega)]
 rw [<- h2,List.take_append_of_le_length (by simp only [List.length_append,List.length_take,List.length_drop,l1,hxl];omega),List.take_of_length_le (by simp only [List.length_append,List.length_take,List.length_drop,l1,hxl];omega),h3]
theorem nV {β:Type} {cs:α->List β} {q:Nat} (hcs:∀x,(cs x).length=q):∀(l:List α) (k:Nat),(l.flatMap cs).take (k * q)=(l.take k).flatMap cs
 | [],k=>by simp
 | x::l,0=>by simp
 | x::l,k+1=>by
  rw [List.flatMap_cons,List.take_succ_cons,List.flatMap_cons,List.take_append,hcs,Nat.succ_mul,List.take_of_length_le (by rw [hcs];omega),Nat.add_sub_cancel,nV hcs l k]
theorem nW {β:Type} {cs:α->List β} {q:Nat} (hcs:∀x,(cs x).length=q):∀(l:List α) (k:Nat),(l.flatMap cs).drop (k * q)=(l.drop k).flatMap cs
 | [],k=>by simp
 | x::l,0=>by simp
 | x::l,k+1=>by
  rw [List.flatMap_cons,List.drop_succ_cons,List.drop_append,hcs,Nat.succ_mul,List.drop_eq_nil_of_le (by rw [hcs];omega),Nat.add_sub_cancel,nW hcs l k,List.nil_append]
theorem Ec {β:Type} {cs:α->List β} {q:Nat} (hcs:∀x,(cs x).length=q) (l:List α) (k:Nat) (d:α):(l.flatMap cs).take (k * q)++cs d++(l.flatMap cs).drop (k * q)=(l.take k++d::l.drop k).flatMap cs:=by
 rw [nV hcs,nW hcs,List.flatMap_append,List.flatMap_cons,List.append_assoc]
end
end Go.Proofs.YtnkjdijbfnmnhaaGreat
