/-
  Texts of this claim put together: Mem, Base, Put, Flat, Rows2, Bits, Pure.
-/
import Derived.WalkKit
import Derived.Laws.CopyOwn
import Derived.Lib.Hide
import Derived.Maps.AppendAt
import Derived.Test.YtnkjdijbfnmnhaaGreatRows

namespace Go.Proofs.YtnkjdijbfnmnhaaGreat
set_option maxRecDepth 100000
set_option maxHeartbeats 12800000
open Go.RowKit

def bv (l:List UInt8):List Value:=l.map fun b=>Value.int .u8 (b.toNat:Int)
theorem bv_length (l:List UInt8):(bv l).length=l.length:=by simp [bv]
theorem bv_append (l r:List UInt8):bv (l++r)=bv l++bv r:=by simp [bv]
theorem bv_one (b:UInt8):bv [b]=[Value.int .u8 (b.toNat:Int)]:=rfl
theorem bv_getElem? (l:List UInt8) (j:Nat):(bv l)[j]?=(l[j]?).map fun b=>Value.int .u8 (b.toNat:Int):=by simp [bv]
theorem bD (l:List UInt8):∀u∈bv l,u.oneCell'=true:=by
 intro u hu
 simp only [bv,List.mem_map] at hu
 obtain ⟨b,_,rfl⟩:=hu
 rfl
theorem gi (l:List UInt8) (k:Nat):bv (l.drop k)=(bv l).drop k:=by simp [bv,List.map_drop]
theorem ev (l:List UInt8) (k:Nat):bv (l.take k)=(bv l).take k:=by simp [bv,List.map_take]

theorem du (a:Addr) (n:Nat):(a.add n).block=a.block:=by unfold Addr.add;split <;> rfl
theorem ux (a:Addr) (i j:Nat):(a.add i).add j=a.add (i+j):=by
 unfold Addr.add
 by_cases hi:i=0 <;> by_cases hj:j=0 <;> simp [hi,hj,Nat.add_assoc]

def Sees (w:World) (B:Nat) (A:Option Addr) (xs:List Value):Prop :=
 0<xs.length->∃ad,A=some ad/\ad.block<B/\∀j u,xs[j]?=some u->w.cell? (ad.add j)=some u

section
variable {w w' : World} {B B' : Nat} {A : Option Addr} {xs : List Value}
theorem Sees.empty (w:World) (B:Nat) (A:Option Addr):Sees w B A []:=fun h=>absurd h (by simp)
theorem Sees.keep (h:Sees w B A xs) (hk:∀p:Addr,p.block<B->w'.cell? p=w.cell? p):Sees w' B A xs:=fun hn=>by
 obtain ⟨ad,e,hb,hc⟩:=h hn
 exact ⟨ad,e,hb,fun j u hu=>(hk _ (by rw [du];exact hb)).trans (hc j u hu)⟩
theorem Sees.more (h:Sees w B A xs) (hB:B<=B'):Sees w B' A xs:=fun hn=>by
 obtain ⟨ad,e,hb,hc⟩:=h hn
 exact ⟨ad,e,by omega,hc⟩
theorem Sees.below (h:Sees w B A xs) (hb:Below B w w'):Sees w' B A xs:=h.keep fun _ hp=>hb.cell hp
theorem Sees.drop (h:Sees w B A xs) (k c:Nat) (hc:xs.length<=c):Sees w B (if c=k then A else A.map (·.add k)) (xs.drop k):=fun hn=>by
 have hk:k<xs.length:=by simp at hn;omega
 obtain ⟨ad,rfl,hb,hc'⟩:=h (by omega)
 rw [if_neg (by omega)]
 exact ⟨ad.add k,rfl,by rw [du];exact hb,fun j u hu=>by rw [ux];exact hc' _ u (by rw [<- hu,List.getElem?_drop])⟩
theorem Sees.take (h:Sees w B A xs) (k:Nat):Sees w B A (xs.take k):=fun hn=>by
 have hk:0<xs.length:=by simp at hn;omega
 obtain ⟨ad,rfl,hb,hc'⟩:=h hk
 exact ⟨ad,rfl,hb,fun j u hu=>hc' j u (by
  rw [List.getElem?_take] at hu
  split at hu
  ·exact hu
  ·cases hu)⟩
theorem Sees.byte {l:List UInt8} {j:Nat} (h:Sees w B A (bv l)) (hj:j<l.length):∃ad,A=some ad/\ad.block<B/\w.cell? (ad.add j)=some (.int .u8 ((l.getD j 0).toNat:Int)):=by
 obtain ⟨ad,e,hb,hc⟩:=h (by rw [bv_length];omega)
 refine ⟨ad,e,hb,hc j _ ?_⟩
 rw [bv_getElem?,List.getD_eq_getElem?_getD,List.getElem?_eq_getElem hj]
 rfl
theorem Sees.own {base:Nat} {e:TypeId} {n c:Nat} (h:w.ownsRow base e 1 (.slice A n c) n xs):Sees w w.heap.size A xs:=fun hn=>by
 rcases h.2 with ⟨hv,rfl⟩ | ⟨g,cap,cur,hv,_,hg,_,_,hsz,hx⟩
 ·have:=h.1
  omega
 ·injection hv with hA
  subst hA
  have hlt:g<w.heap.size:=(Array.getElem?_eq_some_iff.1 hg).1
  exact ⟨_,rfl,hlt,h.cells (g:=g) rfl⟩
end

theorem aa {p:Prop} (h:p):Hid p:=h

theorem Below.of_grown {B:Nat} {w w':World} {row:Option Nat} (hg:w.grownBy w' row) (hB:B<=w.heap.size) (hr:∀k,row=some k->B<=k):Below B w w':=(Below.refl B w).grown hg hB hr

theorem ao {w w':World} {base:Nat} {e:TypeId} {size n:Nat} {v:Value} {xs:List Value} (h:w.ownsRow base e size v n xs) (hb:Below w.heap.size w w'):w'.ownsRow base e size v n xs:=by
 refine ⟨h.1,?_⟩
 rcases h.2 with h0 | ⟨g,cap,cur,rfl,h1,hg,h2⟩
 ·exact .inl h0
 ·exact .inr ⟨g,cap,cur,rfl,h1,(hb.block g (Array.getElem?_eq_some_iff.1 hg).1).trans hg,h2⟩

theorem az {w:World} {base base':Nat} {e:TypeId} {size n:Nat} {v:Value} {xs:List Value} (h:w.ownsRow base e size v n xs) (hb:base'<=base):w.ownsRow base' e size v n xs:=by
 refine ⟨h.1,?_⟩
 rcases h.2 with h0 | ⟨g,cap,cur,rfl,h1,h2⟩
 ·exact .inl h0
 ·exact .inr ⟨g,cap,cur,rfl,Nat.le_trans hb h1,h2⟩

theorem pG {w:World} {base:Nat} {e:TypeId} {size n c:Nat} {A:Option Addr} {xs:List Value} (h:w.ownsRow base e size (.slice A n c) n xs):n<=c:=by
 rcases h.2 with ⟨h0,rfl⟩ | ⟨g,cap,cur,hv,_,_,hc,_⟩
 ·omega
 ·injection hv
  omega

def dV (l:List UInt8):ByteArray:=⟨l.toArray⟩
@[simp,go_sem] theorem strOf_toList (l:List UInt8):(dV l).toList=l:=by
 rw [ByteArray.toList_eq]
 rfl

section
variable {P : Program} (w : World)

theorem sB (l:List UInt8):∀s:ByteArray,(l.map fun b=>(b.toNat:Int)).foldl (fun r n=>r.push (UInt8.ofNat n.toNat)) s=⟨s.data++l.toArray⟩:=by
 induction l with
 | nil=>intro s;simp
 | cons b l ih =>
  intro s
  rw [List.map_cons,List.foldl_cons,ih]
  simp [ByteArray.push]

theorem pH (src dst e:TypeId) (hs:P.underlying src=some (.slice e)) (he:P.underlying e=some (.int .u8)) (hd:P.underlying dst=some .string)
  (l:List UInt8) (B:Nat) (A:Option Addr) (n c:Nat) (hn:l.length=n) (h:Sees w B A (bv l)) :
  (convert src dst (.slice A n c)).run P w = .ok (.string (dV l)) w:=by
 subst hn
 rcases A with _|a
 ·have h0:l=[]:=by
   rcases l with _ | ⟨b,l⟩
   ·rfl
   ·obtain ⟨ad,h',_⟩:=h (by simp [bv])
    cases h'
  subst h0
  exact run_convert_bytes_nil w src e hs he _ _ dst hd
 ·have hc:∀j v,(bv l)[j]?=some v->w.cell? (a.add j)=some v:=by
   intro j v hv
   have hj:0<(bv l).length:=by
    have:=(List.getElem?_eq_some_iff.1 hv).1
    omega
   obtain ⟨ad,h',_,hcell⟩:=h hj
   injection h' with h'
   subst h'
   exact hcell j v hv
  have hl:=run_loadCells_list (P:=P) w a (bv l) hc
  have e1:bv l=(l.map fun b=>(b.toNat:Int)).map (Value.int .u8):=by simp [bv]
  rw [bv_length,e1] at hl
  rw [run_convert_bytes_string w src dst e _ _ c hs he hd,run_bytesToString w a _ c _ hl,sB]
  simp [dV,ByteArray.empty,ByteArray.emptyWithCapacity]
  rfl

theorem cB (dT sT ty elem:TypeId) (hu:P.underlying dT=some (.slice elem)) (hsz:(P.info? elem).map (·.size)=some 1) (g dLen dCap B:Nat) (A:Option Addr) (sLen sCap:Nat)
  (cur:Array Value) (t:TypeId) (hg:w.heap[g]?=some (.cells cur t (0,0))) (cs:List Value) (hl:cs.length=sLen) (hle:sLen<=dLen) (hfit:sLen<=cur.size) (h1:∀u∈cs,u.oneCell'=true) (hs:Sees w B A cs) :
  ∃w1,(Builtin.copy_ #[dT,sT] ty #[.slice (some ⟨g,0,none⟩) dLen dCap, .slice A sLen sCap]).run P w = .ok (goInt sLen) w1 /\
   w1.heap[g]?=some (.cells (cs++cur.toList.drop sLen).toArray t (0,0))/\w.grownBy w1 (some g)/\w1.heap.size=w.heap.size:=by
 have hmin:Nat.min sLen dLen=sLen:=Nat.min_eq_left hle
 by_cases h0:cs.length=0
 ·obtain rfl:cs=[]:=List.eq_nil_of_length_eq_zero h0
  subst hl
  exact ⟨w,run_copy_none w dT sT ty elem _ _ dLen dCap _ sCap hu hsz hmin,by simpa using hg,World.grownBy.refl _ _,rfl⟩
 ·obtain ⟨ad,rfl,_,hc⟩:=hs (by omega)
  have h:=run_copy_row P w dT sT ty elem g 0 dLen dCap ad sLen sCap cur t cs hu hsz hg (by rw [hmin];exact hl) hc (by omega) h1
  subst hl
  refine ⟨_,h,?_,⟨rfl,rfl,rfl,by simp,fun k hk hne=>setRow_other w g k _ (fun e=>hne (by rw [e]))⟩,by simp⟩
  rw [setRow_heap w g _ _ t _ hg]
  simp

theorem cL (base:Nat) (t ty e:TypeId) (i:TypeInfo) (z:Value) (bytes:Nat) (ht:P.underlying t=some (.slice e)) (hi:P.info? e=some i) (hz:i.zero=some z)
  (hsize:i.size=1) (hby:i.bytes=bytes) (hzs:z.cells.size=1) (v:Value) (n:Nat) (xs:List Value) (hown:w.ownsRow base e 1 v n xs)
  (B:Nat) (A:Option Addr) (m c:Nat) (news:List Value) (hl:news.length=m) (hr:Sees w B A news) (h1:∀u∈news,u.oneCell'=true)
  (h63:n+m<=maxLen) (hbytes:(n+m) * bytes<=140737488355328) (hbase:base<=w.heap.size) :
  ∃v' w',(Builtin.append_ #[t,t] ty #[v, .slice A m c]).run P w = .ok v' w'/\w'.ownsRow base e 1 v' (n+m) (xs++news)/\w.grownBy w' v.ownBlock/\(v'.ownBlock=v.ownBlock∨v'.ownBlock=some w.heap.size):=by
 rcases A with _|a
 ·have hm:m=0:=by
   rcases Nat.eq_zero_or_pos m with h0|h0
   ·exact h0
   ·obtain ⟨ad,h',_⟩:=hr (by omega)
    cases h'
  subst hm
  obtain rfl:news=[]:=List.eq_nil_of_length_eq_zero hl
  refine ⟨v,w,?_,by simpa using hown,World.grownBy.refl w _, .inl rfl⟩
  rcases hown.2 with ⟨rfl,rfl⟩ | ⟨g,cap,cur,rfl,_,_,hnc,_⟩
  ·simp [Builtin.append_,run_underlying ht,sizeOf,typeInfo,hi,Builtin.lenOf,Builtin.firstCells]
  ·simp [Builtin.append_,run_underlying ht,sizeOf,typeInfo,hi,Builtin.lenOf,Builtin.firstCells,hnc,storeCells]
 ·have hcells:∀j u,news[j]?=some u->w.cell? (a.add j)=some u:=by
   intro j u hu
   have hj:0<news.length:=by
    have:=(List.getElem?_eq_some_iff.1 hu).1
    omega
   obtain ⟨ad,h',_,hc⟩:=hr hj
   injection h' with h'
   subst h'
   exact hc j u hu
  obtain ⟨v',w',hrun,h2,h3,_,h5⟩:=run_append_own_at (P:=P) w base t ty e i z 1 bytes ht hi hz hsize hby hzs (by omega) v n xs hown a m c news (by omega) hcells h1 h63 hbytes hbase
  exact ⟨v',w',hrun,h2,h3,h5⟩
end

section
variable {P : Program}

theorem cM (w:World) {ops:Array Oper} {rest:List Oper} {o:Oper} {a:Act} {Q:Exit->Act->World->Prop} (hgd:Region.wanted o (yielded ops a.tmps)=true) (s x:Operand) (t:TypeId)
  (ho:o.op = .call { callee := .builtin .append,args := #[s,x],argTypes := #[t,t] })
  (base:Nat) (e:TypeId) (i:TypeInfo) (z:Value) (bytes:Nat) (ht:P.underlying t=some (.slice e)) (hi:P.info? e=some i) (hz:i.zero=some z)
  (hsize:i.size=1) (hby:i.bytes=bytes) (hzs:z.cells.size=1) (v:Value) (n:Nat) (xs:List Value) (hs:a.eval s=v) (hown:w.ownsRow base e 1 v n xs)
  (B:Nat) (A:Option Addr) (m c:Nat) (news:List Value) (hx:a.eval x = .slice A m c) (hl:news.length=m) (hr:Sees w B A news) (h1:∀u∈news,u.oneCell'=true)
  (h63:n+m<=maxLen) (hbytes:(n+m) * bytes<=140737488355328) (hbase:base<=w.heap.size)
  (h:∀v' w',w'.ownsRow base e 1 v' (n+m) (xs++news)->w.grownBy w' v.ownBlock->(v'.ownBlock=v.ownBlock∨v'.ownBlock=some w.heap.size)->wpList P ops Q rest (a.put o.dst v') w'):wpList P ops Q (o::rest) a w:=by
 refine wpList_step fun _ hK => ?_
 rw [if_pos hgd]
 obtain ⟨v',w',hrun,h2,h3,h4⟩:=cL (P:=P) w base t o.type e i z bytes ht hi hz hsize hby hzs v n xs hown B A m c news hl hr h1 h63 hbytes hbase
 unfold Oper.wp execOp
 simp only [ho,resolve,invoke,builtin,Sem.run_bind,Sem.run_pure,Result.andThen_ok,List.map_toArray,List.map_cons,List.map_nil,hs,hx,hrun]
 exact hK _ _ (h v' w' h2 h3 h4)

theorem dv (w:World) {ops:Array Oper} {rest:List Oper} {o:Oper} {a:Act} {Q:Exit->Act->World->Prop} (hgd:Region.wanted o (yielded ops a.tmps)=true) (s x:Operand) (t:TypeId)
  (ho:o.op = .call { callee := .builtin .append,args := #[s,x],argTypes := #[t,t] })
  (base:Nat) (e:TypeId) (hinfo:(P.info? e).map (fun i=>(i.zero,i.size,i.bytes))=some (some (.int .u8 0),1,1)) (ht:P.underlying t=some (.slice e))
  (v:Value) (n:Nat) (l1 l2 r:List UInt8) (hres:l1++l2=r) (hs:a.eval s=v) (hown:w.ownsRow base e 1 v n (bv l1))
  (B:Nat) (A:Option Addr) (m c:Nat) (hx:a.eval x = .slice A m c) (hl:l2.length=m) (hr:Sees w B A (bv l2)) (hn:n+m<=140737488355328) (hbase:base<=w.heap.size)
  (h:∀A' c' w',w'.ownsRow base e 1 (.slice A' r.length c') r.length (bv r)->Below base w w'->wpList P ops Q rest (a.put o.dst (.slice A' r.length c')) w'):wpList P ops Q (o::rest) a w:=by
 obtain ⟨i0,hi,hz0,hz1,hz2⟩:=info_parts hinfo
 have hn1:l1.length=n:=by have:=hown.1;rw [bv_length] at this;omega
 have e1:n+m=r.length:=by rw [<- hres,List.length_append];omega
 refine cM (P:=P) w hgd s x t ho base e i0 (.int .u8 0) 1 ht hi hz0 hz1 hz2 rfl v n (bv l1) hs hown B A m c (bv l2) hx (by rw [bv_length,hl]) hr (bD l2) (by unfold maxLen;omega) (by omega) hbase ?_
 intro v' w' h2 h3 _
 rw [e1,<- bv_append,hres] at h2
 have hv:∃A' c',v' = .slice A' r.length c':=by
  rcases h2.2 with ⟨rfl,h0⟩ | ⟨g,cap,cur,rfl,_⟩
  ·exact ⟨none,0,by rw [h0]⟩
  ·exact ⟨_,_,rfl⟩
 obtain ⟨A',c',rfl⟩:=hv
 exact h A' c' w' h2 ((Below.refl base w).grown h3 hbase fun k hk=>(hown.lt k hk).1)

theorem bV (w:World) {ops:Array Oper} {rest:List Oper} {o:Oper} {a:Act} {Q:Exit->Act->World->Prop} (hgd:Region.wanted o (yielded ops a.tmps)=true) (s x:Operand) (t:TypeId)
  (ho:o.op = .call { callee := .builtin .append,args := #[s,x],argTypes := #[t,t] })
  (base:Nat) (e:TypeId) (hinfo:(P.info? e).map (fun i=>(i.zero,i.size,i.bytes))=some (some (.int .u8 0),1,1)) (ht:P.underlying t=some (.slice e))
  (v:Value) (n:Nat) (xs:List Value) (b:Int) (hs:a.eval s=v) (hown:w.ownsRow base e 1 v n xs)
  (hx:a.eval x = .slice (some ⟨w.heap.size,0,none⟩) 1 1) (hn:n<=70368744177700) (hbase:base<=w.heap.size)
  (h:∀v' w',w'.ownsRow base e 1 v' (n+1) (xs++[.int .u8 b])->Below base w w'->wpList P ops Q rest (a.put o.dst v') w'):wpList P ops Q (o::rest) a (w.alloc (.cells #[.int .u8 b] e)):=by
 obtain ⟨i0,hi,hz0,hz1,hz2⟩:=info_parts hinfo
 refine cM (P:=P) _ hgd s x t ho base e i0 (.int .u8 0) 1 ht hi hz0 hz1 hz2 rfl v n xs hs (hown.alloc _) (w.heap.size+1) _ 1 1 [.int .u8 b] hx rfl ?_ ?_ (by unfold maxLen;omega) (by omega) (by simp;omega) ?_
 ·intro _
  refine ⟨_,rfl,by simp,fun j u hu => ?_⟩
  match j,hu with
  | 0,hu =>
   simp at hu
   subst hu
   simp [Addr.add]
 ·intro u hu
  simp at hu
  subst hu
  rfl
 ·intro v' w' h2 h3 _
  refine h v' w' h2 (((Below.refl base w).alloc hbase _).grown h3 (by simp;omega) (fun k hk => ?_))
  exact (hown.lt k hk).1

theorem t4 (w:World) {ops:Array Oper} {o:Oper} {a:Act} {K:Act->World->Prop} {Q:Exit->Act->World->Prop} {E:Prop} (hgd:Region.wanted o (yielded ops a.tmps)=true) (s x:Operand) (t:TypeId)
  (ho:o.op = .call { callee := .builtin .append,args := #[s,x],argTypes := #[t,t] })
  (base:Nat) (e:TypeId) (hinfo:(P.info? e).map (fun i=>(i.zero,i.size,i.bytes))=some (some (.int .u8 0),1,1)) (ht:P.underlying t=some (.slice e))
  (v:Value) (n:Nat) (xs:List Value) (b:Int) (hs:a.eval s=v) (hown:w.ownsRow base e 1 v n xs)
  (hx:a.eval x = .slice (some ⟨w.heap.size,0,none⟩) 1 1) (hn:n<=70368744177700) (hbase:base<=w.heap.size)
  (h:∀v' w',w'.ownsRow base e 1 v' (n+1) (xs++[.int .u8 b])->Below base w w'->K (a.put o.dst v') w') :
  if Region.wanted o (yielded ops a.tmps)=true then Oper.wp P o a (w.alloc (.cells #[.int .u8 b] e)).drew K Q else E:=by
 rw [if_pos hgd]
 obtain ⟨i0,hi,hz0,hz1,hz2⟩:=info_parts hinfo
 obtain ⟨v',w',hrun,h2,h3,h4⟩:=cL (P:=P) (w.alloc (.cells #[.int .u8 b] e)).drew base t o.type e i0 (.int .u8 0) 1 ht hi hz0 hz1 hz2 rfl v n xs (hown.alloc _) (w.heap.size+1) (some ⟨w.heap.size,0,none⟩) 1 1 [.int .u8 b] rfl
  (fun _=>⟨_,rfl,by simp,fun j u hu=>by
   match j,hu with
   | 0,hu =>
    simp at hu
    subst hu
    simp [Addr.add]⟩)
  (fun u hu=>by
   simp at hu
   subst hu
   rfl) (by unfold maxLen;omega) (by omega) (by simp;omega)
 unfold Oper.wp execOp
 simp only [ho,resolve,invoke,builtin,Sem.run_bind,Sem.run_pure,Result.andThen_ok,List.map_toArray,List.map_cons,List.map_nil,hs,hx,hrun]
 exact h v' w' h2 ((((Below.refl base w).alloc hbase _).drew).grown h3 (by simp;omega) fun k hk=>(hown.lt k hk).1)
end

theorem aU {w:World} {g:Nat} {cs:Array Value} {t:TypeId} (i:Nat) (v:Value) (h:w.heap[g]?=some (.cells cs t (0,0))) :
  (w.setCell ⟨g,i,none⟩ v).heap[g]?=some (.cells (cs.setIfInBounds i v) t (0,0)):=by
 simp [World.setCell,Array.getElem?_modify,h]
theorem aV {a w:World} {g:Nat} (h:a.grownBy w (some g)) (i:Nat) (v:Value):a.grownBy (w.setCell ⟨g,i,none⟩ v) (some g) :=
 ⟨h.os,h.tape,h.output,by simpa [World.setCell] using h.size,fun k hk hne=>(Below.heap_setCell w ⟨g,i,none⟩ v k (by
  rintro rfl
  exact hne rfl)).trans (h.block k hk hne)⟩
theorem ag {a b c:World} {row:Option Nat} (h:a.grownBy b row) (k:b.grownBy c row):a.grownBy c row :=
 ⟨k.os.trans h.os,k.tape.trans h.tape,k.output.trans h.output,Nat.le_trans h.size k.size,fun i hi hne=>(k.block i (Nat.lt_of_lt_of_le hi h.size) hne).trans (h.block i hi hne)⟩
theorem aP {a b c:World} {row:Option Nat} (h:a.grownBy b row) (k:Below b.heap.size b c):a.grownBy c row :=
 ⟨k.os.trans h.os,k.tape.trans h.tape,k.output.trans h.output,Nat.le_trans h.size k.size,fun i hi hne=>(k.block i (Nat.lt_of_lt_of_le hi h.size)).trans (h.block i hi hne)⟩
theorem Sees.grown {w w':World} {g:Nat} {A:Option Addr} {xs:List Value} (h:Sees w g A xs) (hg:w.grownBy w' (some g)) (hlt:g<=w.heap.size):Sees w' g A xs :=
 h.keep fun p hp=>World.cell?_of_block (hg.block p.block (by omega) (fun e=>by injection e;omega))


theorem bT:(Tryz.prog.info? 5).map (fun i=>(i.zero,i.size,i.bytes))=some (some (.int .u8 0),1,1):=by kernel_rfl
theorem ld:(Tryz.prog.info? 5).map (·.size)=some 1:=by kernel_rfl

def Puts (w:World) (l:List UInt8) (e:Ending) (w':World):Prop :=
 ∃A c,e = .returned (.slice A l.length c)/\w'.ownsRow w.heap.size 5 1 (.slice A l.length c) l.length (bv l)/\Below w.heap.size w w'

theorem bg {w:World} {base:Nat} {e:TypeId} {v:Value} {n:Nat} {xs:List Value} (h:w.ownsRow base e 1 v n xs):∃A c,v = .slice A n c:=by
 rcases h.2 with ⟨rfl,rfl⟩ | ⟨g,cap,cur,rfl,_⟩
 ·exact ⟨_,_,rfl⟩
 ·exact ⟨_,_,rfl⟩
theorem CV {w:World} {base n m:Nat} {e:TypeId} {v:Value} {xs ys:List Value} (h:w.ownsRow base e 1 v n xs) (hn:n=m) (hx:xs=ys):w.ownsRow base e 1 v m ys:=by
 subst hn hx
 exact h

theorem lR {n:Nat} (h:n<256):((UInt8.ofNat n).toNat:Int)=(n:Int):=by
 have:(UInt8.ofNat n).toNat=n:=by simp;omega
 rw [this]

theorem Below.of_drew {w w':World} (h:Below w.drew.heap.size w.drew w'):Below w.heap.size w w':=(Below.refl w.heap.size w).drew.trans h

def RowIs (w:World) (g:Nat) (l:List UInt8):Prop:=∃cur:Array Value,w.heap[g]?=some (.cells cur 5 (0,0))/\cur.toList.take l.length=bv l
theorem RowIs.get {w:World} {g:Nat} {l:List UInt8} (h:RowIs w g l) {j:Nat} (hj:j<l.length):w.cell? ⟨g,j,none⟩=some (.int .u8 ((l.getD j 0).toNat:Int))/\w.frozen? ⟨g,j,none⟩=false:=by
 obtain ⟨cur,hg,hc⟩:=h
 refine ⟨?_,by simp [World.frozen?,hg]⟩
 rw [cell_of_row w g j _ _ _ hg]
 have e:=congrArg (fun x=>x[j]?) hc
 simp only [List.getElem?_take,if_pos hj,bv_getElem?] at e
 rw [<- Array.getElem?_toList,e,List.getD_eq_getElem?_getD,List.getElem?_eq_getElem hj]
 rfl
theorem RowIs.set_ {w:World} {g:Nat} {l:List UInt8} (h:RowIs w g l) {j:Nat} (b:UInt8):RowIs (w.setCell ⟨g,j,none⟩ (.int .u8 (b.toNat:Int))) g (l.set j b):=by
 obtain ⟨cur,hg,hc⟩:=h
 refine ⟨_,aU j _ hg,?_⟩
 rw [Array.toList_setIfInBounds,List.length_set,List.take_set,hc]
 simp [bv,List.map_set]
theorem RowIs.sees {w:World} {g:Nat} {l:List UInt8} (h:RowIs w g l):Sees w w.heap.size (some ⟨g,0,none⟩) (bv l):=fun hn=>by
 have hg:g<w.heap.size:=by
  obtain ⟨cur,hg,_⟩:=h
  exact (Array.getElem?_eq_some_iff.1 hg).1
 refine ⟨_,rfl,hg,fun j u hu => ?_⟩
 have hj:j<l.length:=by
  have:=(List.getElem?_eq_some_iff.1 hu).1
  rwa [bv_length] at this
 have hadd:(⟨g,0,none⟩:Addr).add j=⟨g,j,none⟩:=by unfold Addr.add;split <;> simp_all
 rw [hadd,(h.get hj).1,<- hu,bv_getElem?,List.getD_eq_getElem?_getD,List.getElem?_eq_getElem hj]
 rfl
theorem jK {w:World} {base n c:Nat} {A:Option Addr} {l:List UInt8} (h:w.ownsRow base 5 1 (.slice A n c) n (bv l)) (hn:l.length=n) (h0:0<n):∃g,A=some ⟨g,0,none⟩/\base<=g/\n<=c/\RowIs w g l:=by
 rcases h.2 with ⟨_,h0'⟩ | ⟨g,cap,cur,hv,hb,hg,hc,_,_,hx⟩
 ·omega
 ·injection hv with hA _ hcap
  subst hA hcap
  exact ⟨g,rfl,hb,hc,cur,hg,by rw [hn];rwa [Nat.mul_one] at hx⟩


theorem fB (l:List UInt8) (B:Nat) (A:Option Addr) (c room:Nat) (w:World) (hs:Sees w B A (bv l)) (hB:B<=w.heap.size) (hr:l.length+room<=281474976710656) :
  Calls Tryz.prog 118 #[.slice A l.length c, .int .i64 room] w fun e w'=>e = .returned (.slice (some ⟨w.heap.size,0,none⟩) l.length (l.length+room)) /\
   w'.ownsRow w.heap.size 5 1 (.slice (some ⟨w.heap.size,0,none⟩) l.length (l.length+room)) l.length (bv l)/\Below w.heap.size w w'/\w'.heap.size=w.heap.size+1:=by
 obtain ⟨i0,hi,hz0,hz1,hz2⟩:=info_parts bT
 have hmk:∀u:World,(Instr.makeSlice 50 (.int .i64 (l.length:Int)) (.int .i64 ((l.length:Int)+(room:Int)))).run Tryz.prog u =
   .ok (.slice (some ⟨u.heap.size,0,none⟩) l.length (l.length+room)) (u.alloc (.cells (madeCells #[.int .u8 0] (l.length+room)) 5)):=fun u=>by
  have h:=run_make (P:=Tryz.prog) u 50 5 i0 (.int .u8 0) Tryz.underlying50 hi hz0 .i64 .i64 (l.length:Int) ((l.length:Int)+(room:Int)) (by omega) (by omega) (by rw [hz2];omega) (by omega)
  have e1:(l.length:Int).toNat=l.length:=by omega
  have e2:((l.length:Int)+(room:Int)).toNat=l.length+room:=by omega
  rw [e1,e2] at h
  simpa [hz1,Value.cells] using h
 have hcs:(madeCells #[Value.int .u8 0] (l.length+room)).size=l.length+room:=size_madeCells _ _
 obtain ⟨w1,hcp,hrow,hgr,hsz1⟩:=cB (P:=Tryz.prog) (w.alloc (.cells (madeCells #[.int .u8 0] (l.length+room)) 5)) 50 50 3 5 Tryz.underlying50 ld w.heap.size l.length (l.length+room) B A l.length c
  (madeCells #[.int .u8 0] (l.length+room)) 5 (heap_alloc_new w _) (bv l) (bv_length l) (Nat.le_refl _) (by omega) (bD l) (hs.below ((Below.refl _ _).alloc hB _))
 have H1:=aa hrow
 clear hrow hcs
 go_enter Tryz.func118,Tryz.ntmps118
 go_wp2
 go_ret
 have hb:Below w.heap.size w w1:=((Below.refl _ _).alloc (Nat.le_refl _) _).grown hgr (by simp) (by intro k hk;injection hk;omega)
 refine ⟨rfl,⟨by simp [bv_length], .inr ⟨w.heap.size,_,_,rfl,Nat.le_refl _,H1.out,by omega,by unfold maxLen;omega,?_,?_⟩⟩,hb,?_⟩
 ·simp [bv_length,madeCells]
 ·rw [Nat.mul_one,<- bv_length l]
  exact List.take_left
 ·simpa using hsz1

def numB (n:Nat):List UInt8:=if n<128 then [UInt8.ofNat n] else UInt8.ofNat (n % 128+128)::numB (n / 128)
termination_by n
decreasing_by omega
theorem cS {n:Nat} (h:n<128):numB n=[UInt8.ofNat n]:=by
 rw [numB,if_pos h]
theorem fC {n:Nat} (h:128<=n):numB n=UInt8.ofNat (n % 128+128)::numB (n / 128):=by
 rw [numB,if_neg (by omega)]
theorem dw (k:Nat):∀n:Nat,n<128 ^ (k+1)->(numB n).length<=k+1:=by
 induction k with
 | zero=>intro n h;rw [cS (by omega)];simp
 | succ k ih =>
  intro n h
  by_cases hs:n<128
  ·rw [cS hs];simp
  ·rw [fC (by omega),List.length_cons]
   have:=ih (n / 128) (by rw [Nat.pow_succ] at h;omega)
   omega
theorem av (n:Nat) (h:n<18446744073709551616):(numB n).length<=10:=dw 9 n (by omega)
theorem lS (n:Nat):0<(numB n).length:=by
 by_cases hs:n<128
 ·rw [cS hs];simp
 ·rw [fC (by omega)];simp

theorem lf (l:List UInt8) (x base:Nat) (v:Value) (w:World) (hx:x<18446744073709551616) (hl:l.length<=70368744177664) (hown:w.ownsRow base 5 1 v l.length (bv l)) (hbase:base<=w.heap.size) :
  Calls Tryz.prog 117 #[v, .int .u64 x] w fun e w'=>∃v',e = .returned v'/\w'.ownsRow base 5 1 v' (l++numB x).length (bv (l++numB x))/\Below base w w':=by
 obtain ⟨i0,hi,hz0,hz1,hz2⟩:=info_parts bT
 have hnl:=av x hx
 go_enter Tryz.func117,Tryz.ntmps117
 go_wp2
 go_loopw [0,1] (fun b n wr=>∃(y:Nat) (pre:List UInt8),y<18446744073709551616/\n = .int .u64 y/\wr.ownsRow base 5 1 b pre.length (bv pre)/\Hid (pre++numB y=l++numB x)/\Below base w wr) (fun _ n _=>(intOf n).toNat)
 case atStart=>exact ⟨x,l,hx,rfl,hown,rfl,Below.refl _ _⟩
 case round =>
  obtain ⟨y,pre,hy,rfl,hpre,HE,hbel⟩:=hrel
  have hlen:pre.length<=70368744177700:=by
   have:=congrArg List.length HE.out
   simp at this
   omega
  by_cases hlt:128<=y
  ·go_wp2_with (at_builtin;refine bV (P:=Tryz.prog) _ rfl (.tmp 7) (.tmp 12) 50 rfl base 5 bT Tryz.underlying50 _ pre.length (bv pre) _ rfl hpre rfl hlen (Nat.le_trans hbase hbel.size) ?_;intro v1 w1 hown1 hbel1)
   have e1:bv (pre++[UInt8.ofNat (y % 128+128)])=bv pre++[.int .u8 ((y:Int) % 128+128)]:=by
    rw [bv_append,bv_one,lR (by omega)]
    simp
   go_roundw
   case rel =>
    refine ⟨y / 128,pre++[UInt8.ofNat (y % 128+128)],by omega,by go_num,?_,?_,hbel.trans hbel1⟩
    ·rw [e1,List.length_append]
     exact hown1
    ·show _=_
     rw [<- HE.out,fC hlt]
     simp
   case measure=>simp [intOf];omega
  ·have e1:bv (pre++numB y)=bv pre++[.int .u8 (y:Int)]:=by
    rw [cS (by omega),bv_append,bv_one,lR (by omega)]
   have e2:(pre++numB y).length=pre.length+1:=by rw [cS (by omega)];simp
   have H1:=aa e1
   have H2:=aa e2
   clear e1 e2
   go_wp2_with (at_builtin;refine bV (P:=Tryz.prog) _ rfl (.tmp 16) (.tmp 19) 50 rfl base 5 bT Tryz.underlying50 _ pre.length (bv pre) _ rfl hpre rfl hlen (Nat.le_trans hbase hbel.size) ?_;intro v1 w1 hown1 hbel1)
   go_ret
   refine ⟨v1,rfl,?_,hbel.trans hbel1⟩
   rw [<- HE.out,H1.out,H2.out]
   exact hown1

theorem aK (l r:List UInt8) (x B:Nat) (A:Option Addr) (n c:Nat) (w:World) (hn:l.length=n) (hres:l++numB x=r) (hx:x<18446744073709551616) (hs:Sees w B A (bv l)) (hB:B<=w.heap.size) (hl:l.length<=70368744177664) :
  Calls Tryz.prog 51 #[.slice A n c, .int .u64 x] w (Puts w r):=by
 subst hn hres
 have HX:=aa hx
 clear hx
 go_enter Tryz.func51,Tryz.ntmps51
 go_wp2_with fail
 refine (fB l B A c 10 w hs hB (by omega)).mono ?_
 rintro e w1 ⟨rfl,hown1,hb1,hz1⟩
 have HZ:=aa hz1
 clear hz1
 go_wp2_with fail
 refine (lf l x w.heap.size _ w1 HX.out hl hown1 hb1.size).mono ?_
 rintro e w2 ⟨v2,rfl,hown2,hb2⟩
 go_wp2
 go_ret
 obtain ⟨A',c',rfl⟩:=bg hown2
 exact ⟨A',c',rfl,hown2,hb1.trans hb2⟩

def lU (n:Int):Nat:=if n<0 then 2 * (-1 - n).toNat+1 else 2 * n.toNat
theorem jv (n:Int) (h1 : -9223372036854775808<=n) (h2:n<=9223372036854775807):lU n<18446744073709551616:=by
 unfold lU
 split <;> omega

theorem yk (n:Int) (w:World) (h1 : -9223372036854775808<=n) (h2:n<=9223372036854775807) :
  Calls Tryz.prog 317 #[.int .i64 n] w fun e w'=>e = .returned (.int .u64 (lU n))/\w=w':=by
 have e:∀a b:Int,a=b->Ending.returned (.int .u64 a) = .returned (.int .u64 b):=fun a b h=>by rw [h]
 by_cases h:n<0
 ·go_enter Tryz.func317,Tryz.ntmps317
  go_wp2
  go_ret
  exact ⟨e _ _ (by unfold lU;rw [if_pos h];omega),rfl⟩
 ·go_enter Tryz.func317,Tryz.ntmps317
  go_wp2
  go_ret
  exact ⟨e _ _ (by unfold lU;rw [if_neg (by omega)];omega),rfl⟩

def intB (n:Int):List UInt8:=numB (lU n)

theorem lg (l r:List UInt8) (n:Int) (B:Nat) (A:Option Addr) (k c:Nat) (w:World) (hk:l.length=k) (hres:l++intB n=r) (h1 : -9223372036854775808<=n) (h2:n<=9223372036854775807) (hs:Sees w B A (bv l)) (hB:B<=w.heap.size) (hl:l.length<=70368744177664) :
  Calls Tryz.prog 258 #[.slice A k c, .int .i64 n] w (Puts w r):=by
 subst hk hres
 have H1:=aa h1
 have H2:=aa h2
 clear h1 h2
 go_enter Tryz.func258,Tryz.ntmps258
 go_wp2_with fail
 refine (yk n w H1.out H2.out).mono ?_
 rintro e w1 ⟨rfl,rfl⟩
 go_wp2_with fail
 refine (aK l _ (lU n) B A _ c w rfl rfl (jv n H1.out H2.out) hs hB hl).mono ?_
 rintro e w1 ⟨A',c',rfl,hown,hb⟩
 go_wp2
 go_ret
 exact ⟨A',c',by simp [intB],hown,hb⟩

def rowB (row:List UInt8):List UInt8:=numB row.length++row

theorem sC (l row r:List UInt8) (B:Nat) (A A2:Option Addr) (n n2 c c2:Nat) (w:World) (hn:l.length=n) (hn2:row.length=n2) (hres:l++rowB row=r) (hs:Sees w B A (bv l)) (hs2:Sees w B A2 (bv row)) (hB:B<=w.heap.size) (hl:l.length<=70368744170000) (hr:row.length<=70368744170000) :
  Calls Tryz.prog 227 #[.slice A n c, .slice A2 n2 c2] w (Puts w r):=by
 subst hn hn2 hres
 obtain ⟨i0,hi,hz0,hz1,hz2⟩:=info_parts bT
 have hnl:=av row.length (by omega)
 go_enter Tryz.func227,Tryz.ntmps227
 go_wp2_with fail
 refine (fB l B A c (10+row.length) w hs hB (by omega)).mono ?_
 rintro e w1 ⟨rfl,hown1,hb1,hz1⟩
 have HZ:=aa hz1
 clear hz1
 go_wp2_with fail
 refine (lf l row.length w.heap.size _ w1 (by omega) (by omega) hown1 hb1.size).mono ?_
 rintro e w2 ⟨v2,rfl,hown2,hb2⟩
 have hlen:(l++numB row.length).length<=70368744170010:=by simp;omega
 go_wp2_with (at_builtin;refine cM (P:=Tryz.prog) _ rfl (.tmp 15) (.tmp 16) 50 rfl w.heap.size 5 i0 (.int .u8 0) 1 Tryz.underlying50 hi hz0 hz1 hz2 rfl v2 (l++numB row.length).length (bv (l++numB row.length)) rfl hown2 B A2 row.length c2 (bv row) rfl (bv_length row) ((hs2.below (hb1.mono hB)).below (hb2.mono hB)) (bD row) (by unfold maxLen;omega) (by omega) (hb1.trans hb2).size ?_;intro v3 w3 hown3 hg3 _)
 go_ret
 have e1:bv (l++rowB row)=bv (l++numB row.length)++bv row:=by simp [rowB,bv]
 have e2:(l++rowB row).length=(l++numB row.length).length+row.length:=by simp [rowB];omega
 rw [<- e1,<- e2] at hown3
 obtain ⟨A',c',rfl⟩:=bg hown3
 exact ⟨A',c',rfl,hown3,(hb1.trans hb2).grown hg3 (hb1.trans hb2).size fun k hk=>(hown2.lt k hk).1⟩


section
variable {w : World} {B : Nat} {A : Option Addr}
theorem Sees.flat {xs:List Value} (h:Sees w B A xs) (h0:0<xs.length):∃b o,A=some ⟨b,o,none⟩/\b<B/\∀j u,xs[j]?=some u->w.cell? ⟨b,o+j,none⟩=some u:=by
 obtain ⟨⟨b,o,s⟩,e,hb,hc⟩:=h h0
 have hs:s=none:=by simpa [Addr.add] using World.cell?_spot (hc 0 _ (List.getElem?_eq_getElem h0))
 subst hs
 refine ⟨b,o,e,hb,fun j u hu => ?_⟩
 have:=hc j u hu
 rwa [Addr.add_lit] at this
end

def BoxAt (w:World) (g:Nat) (cs:Array Value) (t:TypeId):Prop:=w.heap[g]?=some (.cells cs t (0,0))
theorem BoxAt.lt {w:World} {g:Nat} {cs:Array Value} {t:TypeId} (h:BoxAt w g cs t):g<w.heap.size:=(Array.getElem?_eq_some_iff.1 h).1
theorem BoxAt.cell {w:World} {g:Nat} {cs:Array Value} {t:TypeId} (h:BoxAt w g cs t) (i:Nat):w.cell? ⟨g,i,none⟩=cs[i]?:=cell_of_row w g i _ _ _ h
theorem BoxAt.below {w w':World} {g:Nat} {cs:Array Value} {t:TypeId} (h:BoxAt w g cs t) (hb:Below w.heap.size w w'):BoxAt w' g cs t:=(hb.block g h.lt).trans h
theorem BoxAt.alloc {w:World} {g:Nat} {cs:Array Value} {t:TypeId} (h:BoxAt w g cs t) (o:Obj):BoxAt (w.alloc o) g cs t:=h.below ((Below.refl _ _).alloc (Nat.le_refl _) o)
theorem BoxAt.new (w:World) (cs:Array Value) (t:TypeId):BoxAt (w.alloc (.cells cs t)) w.heap.size cs t:=heap_alloc_new w _
theorem BoxAt.free9 {w:World} {g:Nat} {cs:Array Value} {t:TypeId} (h:BoxAt w g cs t) (i:Nat):w.frozen? ⟨g,i,none⟩=false:=by
 unfold BoxAt at h
 simp [World.frozen?,h]
theorem BoxAt.set9 {w:World} {g:Nat} {cs:Array Value} {t:TypeId} (h:BoxAt w g cs t) (i:Nat) (v:Value):BoxAt (w.setCell ⟨g,i,none⟩ v) g (cs.setIfInBounds i v) t:=aU i v h

theorem BoxAt.apart9 {w:World} {g base s n:Nat} {cs:Array Value} {t e:TypeId} {v:Value} {xs:List Value} (h:BoxAt w g cs t) (ht:t≠e) (hown:w.ownsRow base e s v n xs):some g≠v.ownBlock:=by
 intro he
 rcases hown.2 with ⟨rfl,_⟩ | ⟨g',cap,cur,rfl,_,hg',_⟩
 ·cases he
 ·injection he with he
  subst he
  unfold BoxAt at h
  have h2:=h.symm.trans hg'
  injection h2 with h2
  injection h2 with _ h2
  exact ht h2
theorem BoxAt.grown9 {w w':World} {g base s n:Nat} {cs:Array Value} {t e:TypeId} {v:Value} {xs:List Value} (h:BoxAt w g cs t) (ht:t≠e) (hown:w.ownsRow base e s v n xs) (hg:w.grownBy w' v.ownBlock):BoxAt w' g cs t :=
 (hg.block g h.lt (h.apart9 ht hown)).trans h

theorem aM {w w':World} {g base s n:Nat} {e:TypeId} {v:Value} {xs:List Value} (h:w.ownsRow base e s v n xs) (hne:some g≠v.ownBlock) (hg:w.grownBy w' (some g)):w'.ownsRow base e s v n xs:=by
 refine ⟨h.1,?_⟩
 rcases h.2 with h0 | ⟨g',cap,cur,rfl,h1,hg',h2⟩
 ·exact .inl h0
 ·exact .inr ⟨g',cap,cur,rfl,h1,(hg.block g' (Array.getElem?_eq_some_iff.1 hg').1 fun e=>hne (by rw [<- e];rfl)).trans hg',h2⟩
theorem aE (w:World) (g i:Nat) (v:Value):w.grownBy (w.setCell ⟨g,i,none⟩ v) (some g):=aV (World.grownBy.refl w _) i v

theorem dm (w:World) (cs:Array Value) (t:TypeId) (xs:List Value) (h:cs.toList=xs):Sees (w.alloc (.cells cs t)) (w.heap.size+1) (some ⟨w.heap.size,0,none⟩) xs:=fun _=>by
 refine ⟨_,rfl,by simp,fun j u hu => ?_⟩
 rw [Addr.add_lit,cell_of_row _ _ _ _ _ _ (heap_alloc_new w _)]
 rw [<- h] at hu
 simpa using hu

section
variable {P : Program} (w : World)

theorem bZ (base:Nat) (t ty e:TypeId) (i:TypeInfo) (z:Value) (size bytes:Nat) (ht:P.underlying t=some (.slice e)) (hi:P.info? e=some i) (hz:i.zero=some z)
  (hsize:i.size=size) (hby:i.bytes=bytes) (hzs:z.cells.size=size) (hsz:0<size) (v:Value) (n:Nat) (xs:List Value) (hown:w.ownsRow base e size v n xs)
  (B:Nat) (A:Option Addr) (m c:Nat) (news:List Value) (hl:news.length=m * size) (hr:Sees w B A news) (h1:∀u∈news,u.oneCell'=true)
  (h63:n+m<=maxLen) (hbytes:(n+m) * bytes<=140737488355328) (hbase:base<=w.heap.size) :
  ∃v' w',(Builtin.append_ #[t,t] ty #[v, .slice A m c]).run P w = .ok v' w'/\w'.ownsRow base e size v' (n+m) (xs++news)/\w.grownBy w' v.ownBlock/\(v'.ownBlock=v.ownBlock∨v'.ownBlock=some w.heap.size):=by
 rcases A with _|a
 ·have hm:m=0:=by
   rcases Nat.eq_zero_or_pos m with h0|h0
   ·exact h0
   ·obtain ⟨ad,h',_⟩:=hr (by rw [hl];exact Nat.mul_pos h0 hsz)
    cases h'
  subst hm
  obtain rfl:news=[]:=List.eq_nil_of_length_eq_zero (by rw [hl,Nat.zero_mul])
  refine ⟨v,w,?_,by simpa using hown,World.grownBy.refl w _, .inl rfl⟩
  rcases hown.2 with ⟨rfl,rfl⟩ | ⟨g,cap,cur,rfl,_,_,hnc,_⟩
  ·simp [Builtin.append_,run_underlying ht,sizeOf,typeInfo,hi,Builtin.lenOf,Builtin.firstCells]
  ·simp [Builtin.append_,run_underlying ht,sizeOf,typeInfo,hi,Builtin.lenOf,Builtin.firstCells,hnc,storeCells]
 ·have hcells:∀j u,news[j]?=some u->w.cell? (a.add j)=some u:=by
   intro j u hu
   have hj:0<news.length:=by
    have:=(List.getElem?_eq_some_iff.1 hu).1
    omega
   obtain ⟨ad,h',_,hc⟩:=hr hj
   injection h' with h'
   subst h'
   exact hc j u hu
  obtain ⟨v',w',hrun,h2,h3,_,h5⟩:=run_append_own_at (P:=P) w base t ty e i z size bytes ht hi hz hsize hby hzs hsz v n xs hown a m c news hl hcells h1 h63 hbytes hbase
  exact ⟨v',w',hrun,h2,h3,h5⟩

end

section
variable {P : Program}

theorem aF (w:World) {ops:Array Oper} {rest:List Oper} {o:Oper} {a:Act} {Q:Exit->Act->World->Prop} (hgd:Region.wanted o (yielded ops a.tmps)=true) (s x:Operand) (t:TypeId)
  (ho:o.op = .call { callee := .builtin .append,args := #[s,x],argTypes := #[t,t] })
  (base:Nat) (e:TypeId) (z:Value) (size bytes:Nat) (hinfo:(P.info? e).map (fun i=>(i.zero,i.size,i.bytes))=some (some z,size,bytes)) (hzs:z.cells.size=size) (hsz:0<size) (ht:P.underlying t=some (.slice e))
  (v:Value) (n:Nat) (xs:List Value) (hs:a.eval s=v) (hown:w.ownsRow base e size v n xs)
  (B:Nat) (A:Option Addr) (m c:Nat) (news:List Value) (hx:a.eval x = .slice A m c) (hl:news.length=m * size) (hr:Sees w B A news) (h1:∀u∈news,u.oneCell'=true) (hm:n+m<=1000000) (hb:bytes<=1000) (hbase:base<=w.heap.size)
  (r:Nat) (hr2:n+m=r) (ys:List Value) (hys:xs++news=ys)
  (h:∀A' c' w',w'.ownsRow base e size (.slice A' r c') r ys->Below base w w'->wpList P ops Q rest (a.put o.dst (.slice A' r c')) w'):wpList P ops Q (o::rest) a w:=by
 refine wpList_step fun _ hK => ?_
 rw [if_pos hgd]
 obtain ⟨i0,hi,hz0,hz1,hz2⟩:=info_parts hinfo
 subst hr2 hys
 obtain ⟨v',w',hrun,h2,h3,_⟩:=bZ (P:=P) w base t o.type e i0 z size bytes ht hi hz0 hz1 hz2 hzs hsz v n xs hown B A m c news hl hr h1 (by unfold maxLen;omega)
  (Nat.le_trans (Nat.mul_le_mul hm hb) (by decide)) hbase
 have hv:∃A' c',v' = .slice A' (n+m) c':=by
  rcases h2.2 with ⟨rfl,h0⟩ | ⟨g,cap,cur,rfl,_⟩
  ·exact ⟨none,0,by rw [h0]⟩
  ·exact ⟨_,_,rfl⟩
 obtain ⟨A',c',rfl⟩:=hv
 unfold Oper.wp execOp
 simp only [ho,resolve,invoke,builtin,Sem.run_bind,Sem.run_pure,Result.andThen_ok,List.map_toArray,List.map_cons,List.map_nil,hs,hx,hrun]
 exact hK _ _ (h A' c' w' h2 ((Below.refl base w).grown h3 hbase fun k hk=>(hown.lt k hk).1))
end

section
variable {P : Program}

theorem ji (w:World) (base:Nat) (t e:TypeId) (z:Value) (size bytes:Nat) (hinfo:(P.info? e).map (fun i=>(i.zero,i.size,i.bytes))=some (some z,size,bytes)) (hzs:z.cells.size=size) (hsz:0<size) (ht:P.underlying t=some (.slice e))
  (A:Option Addr) (n c:Nat) (xs:List Value) (hown:w.ownsRow base e size (.slice A n c) n xs) (B:Nat) (D:Option Addr) (m k:Nat) (news:List Value) (hl:news.length=m * size) (hr:Sees w B D news) (h1:∀u∈news,u.oneCell'=true) (hm:n+m<=1000000) (hb:bytes<=1000) (hbase:base<=w.heap.size) :
  ∃A' c' w',(∀ty,(Builtin.append_ #[t,t] ty #[.slice A n c, .slice D m k]).run P w = .ok (.slice A' (n+m) c') w')/\w'.ownsRow base e size (.slice A' (n+m) c') (n+m) (xs++news)/\w.grownBy w' (Value.slice A n c).ownBlock/\((Value.slice A' (n+m) c').ownBlock=(Value.slice A n c).ownBlock∨(Value.slice A' (n+m) c').ownBlock=some w.heap.size):=by
 obtain ⟨i0,hi,hz0,hz1,hz2⟩:=info_parts hinfo
 obtain ⟨v',w',hrun,h2,h3,h4⟩:=bZ (P:=P) w base t 0 e i0 z size bytes ht hi hz0 hz1 hz2 hzs hsz (.slice A n c) n xs hown B D m k news hl hr h1 (by unfold maxLen;omega)
  (Nat.le_trans (Nat.mul_le_mul hm hb) (by decide)) hbase
 obtain ⟨A',c',rfl⟩:∃A' c',v' = .slice A' (n+m) c':=by
  rcases h2.2 with ⟨rfl,h0⟩ | ⟨g,cap,cur,rfl,_⟩
  ·exact ⟨none,0,by rw [h0]⟩
  ·exact ⟨_,_,rfl⟩
 exact ⟨A',c',w',fun ty=>hrun,h2,h3,h4⟩
end

section
variable {P : Program}

theorem gj (w:World) {ops:Array Oper} {rest:List Oper} {o:Oper} {a:Act} {Q:Exit->Act->World->Prop} (hgd:Region.wanted o (yielded ops a.tmps)=true) (s x:Operand) (t:TypeId)
  (ho:o.op = .call { callee := .builtin .append,args := #[s,x],argTypes := #[t,t] })
  (base:Nat) (e:TypeId) (z:Value) (size bytes:Nat) (hinfo:(P.info? e).map (fun i=>(i.zero,i.size,i.bytes))=some (some z,size,bytes)) (hzs:z.cells.size=size) (hsz:0<size) (ht:P.underlying t=some (.slice e))
  (v:Value) (n:Nat) (xs:List Value) (hs:a.eval s=v) (hown:w.ownsRow base e size v n xs)
  (B:Nat) (A:Option Addr) (m c:Nat) (news:List Value) (hx:a.eval x = .slice A m c) (hl:news.length=m * size) (hr:Sees w B A news) (h1:∀u∈news,u.oneCell'=true) (hm:n+m<=1000000) (hb:bytes<=1000) (hbase:base<=w.heap.size)
  (r:Nat) (hr2:n+m=r) (ys:List Value) (hys:xs++news=ys)
  (h:∀A' c' w',w'.ownsRow base e size (.slice A' r c') r ys->w.grownBy w' v.ownBlock->wpList P ops Q rest (a.put o.dst (.slice A' r c')) w'):wpList P ops Q (o::rest) a w:=by
 refine wpList_step fun _ hK => ?_
 rw [if_pos hgd]
 obtain ⟨i0,hi,hz0,hz1,hz2⟩:=info_parts hinfo
 subst hr2 hys
 obtain ⟨v',w',hrun,h2,h3,_⟩:=bZ (P:=P) w base t o.type e i0 z size bytes ht hi hz0 hz1 hz2 hzs hsz v n xs hown B A m c news hl hr h1 (by unfold maxLen;omega)
  (Nat.le_trans (Nat.mul_le_mul hm hb) (by decide)) hbase
 have hv:∃A' c',v' = .slice A' (n+m) c':=by
  rcases h2.2 with ⟨rfl,h0⟩ | ⟨g,cap,cur,rfl,_⟩
  ·exact ⟨none,0,by rw [h0]⟩
  ·exact ⟨_,_,rfl⟩
 obtain ⟨A',c',rfl⟩:=hv
 unfold Oper.wp execOp
 simp only [ho,resolve,invoke,builtin,Sem.run_bind,Sem.run_pure,Result.andThen_ok,List.map_toArray,List.map_cons,List.map_nil,hs,hx,hrun]
 exact hK _ _ (h A' c' w' h2 h3)
end

theorem Sees.ownRow9 {w:World} {base n c s:Nat} {e:TypeId} {A:Option Addr} {xs:List Value} (h:w.ownsRow base e s (.slice A n c) n xs):Sees w w.heap.size A xs:=fun hn=>by
 rcases h.2 with ⟨hv,rfl⟩ | ⟨g,cap,cur,hv,_,hg,_,_,hsz,hx⟩
 ·have:=h.1
  omega
 ·injection hv with hA
  subst hA
  have hlt:g<w.heap.size:=(Array.getElem?_eq_some_iff.1 hg).1
  refine ⟨_,rfl,hlt,fun j u hu => ?_⟩
  rw [Addr.add_lit,cell_of_row w g _ _ _ _ hg,Nat.zero_add,<- Array.getElem?_toList]
  rw [<- hx,List.getElem?_take] at hu
  split at hu
  ·exact hu
  ·cases hu

theorem jL {w w':World} {b1 b2 s1 s2 n1 n2:Nat} {e1 e2:TypeId} {v1 v2:Value} {x1 x2:List Value} (h1:w.ownsRow b1 e1 s1 v1 n1 x1) (h2:w.ownsRow b2 e2 s2 v2 n2 x2) (hne:e1≠e2) (hg:w.grownBy w' v2.ownBlock):w'.ownsRow b1 e1 s1 v1 n1 x1:=by
 refine ⟨h1.1,?_⟩
 rcases h1.2 with h0 | ⟨g,cap,cur,rfl,ha,hb,hc⟩
 ·exact .inl h0
 ·refine .inr ⟨g,cap,cur,rfl,ha,(hg.block g (Array.getElem?_eq_some_iff.1 hb).1 fun e => ?_).trans hb,hc⟩
  rcases h2.2 with ⟨rfl,_⟩ | ⟨g2,cap2,cur2,rfl,_,hb2,_⟩
  ·cases e
  ·injection e with e
   subst e
   have h3:=hb.symm.trans hb2
   injection h3 with h3
   injection h3 with _ h3
   exact hne h3

theorem sD {w:World} {base s:Nat} (e:TypeId) (hb:base<=w.heap.size):(w.alloc (.cells #[] e)).ownsRow base e s (.slice (some ⟨w.heap.size,0,none⟩) 0 0) 0 [] :=
 ⟨by simp, .inr ⟨w.heap.size,0,#[],rfl,hb,heap_alloc_new w _,Nat.le_refl _,by simp [maxLen],by simp,by simp⟩⟩

def popN:Nat->Nat->Nat
 | 0,_=>0
 | k+1,x=>x % 2+popN k (x / 2)
theorem eA:∀k x,popN k x<=k
 | 0,_=>Nat.le_refl _
 | k+1,x=>by
  have:=eA k (x / 2)
  rw [popN]
  omega
theorem lV:∀k x,popN k (x % 2 ^ k)=popN k x
 | 0,_=>rfl
 | k+1,x=>by
  rw [popN,popN,<- lV k (x / 2),<- lV k (x % 2 ^ (k+1) / 2)]
  have e:2 ^ (k+1)=2 * 2 ^ k:=by rw [Nat.pow_succ,Nat.mul_comm]
  have h1:x % 2 ^ (k+1) % 2=x % 2:=by rw [e,Nat.mod_mul_right_mod]
  have h2:x % 2 ^ (k+1) / 2 % 2 ^ k=x / 2 % 2 ^ k:=by rw [e,Nat.mod_mul_right_div_self,Nat.mod_mod]
  rw [h1,h2]
theorem rd:∀j k x,popN (j+k) x=popN j x+popN k (x / 2 ^ j)
 | 0,k,x=>by simp [popN]
 | j+1,k,x=>by
  rw [show j+1+k=(j+k)+1 by omega,popN,rd j k (x / 2),popN,Nat.div_div_eq_div_mul,show 2 * 2 ^ j=2 ^ (j+1) by rw [Nat.pow_succ,Nat.mul_comm]]
  omega
theorem uy (k x:Nat):popN (8+k) x=popN 8 (x % 256)+popN k (x / 256):=by
 rw [rd,show (256:Nat)=2 ^ 8 from rfl,lV]
theorem popN_count:∀k x,popN k x=(List.range k).countP (fun i=>x.testBit i)
 | 0,_=>rfl
 | k+1,x=>by
  rw [popN,popN_count k,List.range_succ_eq_map,List.countP_cons,List.countP_map]
  have e:((fun i=>x.testBit i) ∘ Nat.succ)=fun i=>(x / 2).testBit i:=by
   funext i
   simp [Nat.testBit_succ]
  rw [e,Nat.add_comm]
  congr 1
  rw [Nat.testBit_zero]
  have:=Nat.mod_two_eq_zero_or_one x
  rcases this with h|h <;> simp [h]

def rep8 (m:Nat):Nat->Nat
 | 0=>0
 | k+1=>m+256 * rep8 m k
theorem yn (a b:Nat):a &&& b=(a % 256 &&& b % 256)+256 * (a / 256 &&& b / 256):=by
 have h1:=Nat.and_mod_two_pow (a:=a) (b:=b) (n:=8)
 have h2:=Nat.and_div_two_pow (a:=a) (b:=b) (n:=8)
 simp only [show (2:Nat) ^ 8=256 from rfl] at h1 h2
 have h3:=Nat.div_add_mod (a &&& b) 256
 omega
theorem jM (a m k:Nat) (hm:m<256):a &&& rep8 m (k+1)=(a % 256 &&& m)+256 * (a / 256 &&& rep8 m k):=by
 rw [yn,rep8,show (m+256 * rep8 m k) % 256=m by omega,show (m+256 * rep8 m k) / 256=rep8 m k by omega]

def cT (k x:Nat):Nat:=(x / 2 &&& rep8 85 k)+(x &&& rep8 85 k)
def dW (k x:Nat):Nat:=(x / 4 &&& rep8 51 k)+(x &&& rep8 51 k)
def sE (k x:Nat):Nat:=(x / 16+x) &&& rep8 15 k
theorem CW:∀y:Fin 512,(y.val / 2 % 256 &&& 85)=(y.val % 256 / 2 &&& 85):=by decide +kernel
theorem CX:∀y:Fin 1024,(y.val / 4 % 256 &&& 51)=(y.val % 256 / 4 &&& 51):=by decide +kernel
def il (b:Nat):Nat:=(b / 2 &&& 85)+(b &&& 85)
def nM (b:Nat):Nat:=(b / 4 &&& 51)+(b &&& 51)
theorem onesA_succ (k x:Nat):cT (k+1) x=il (x % 256)+256 * cT k (x / 256):=by
 unfold cT il
 rw [jM _ _ _ (by omega),jM _ _ _ (by omega)]
 have h:=CW ⟨x % 512,by omega⟩
 simp only at h
 rw [show x % 512 / 2 % 256=x / 2 % 256 by omega,show x % 512 % 256=x % 256 by omega] at h
 rw [h,show x / 2 / 256=x / 256 / 2 by omega]
 omega
theorem sF (k x:Nat):dW (k+1) x=nM (x % 256)+256 * dW k (x / 256):=by
 unfold dW nM
 rw [jM _ _ _ (by omega),jM _ _ _ (by omega)]
 have h:=CX ⟨x % 1024,by omega⟩
 simp only at h
 rw [show x % 1024 / 4 % 256=x / 4 % 256 by omega,show x % 1024 % 256=x % 256 by omega] at h
 rw [h,show x / 4 / 256=x / 256 / 4 by omega]
 omega
theorem nN:∀b:Fin 256,il b.val<256/\il b.val<=170/\nM (il b.val)<=68/\nM (il b.val) % 16<=4/\nM (il b.val) / 16+nM (il b.val) % 16=popN 8 b.val:=by decide +kernel
theorem gl (k x:Nat):dW (k+1) (cT (k+1) x)=nM (il (x % 256))+256 * dW k (cT k (x / 256)):=by
 have h:=nN ⟨x % 256,by omega⟩
 simp only at h
 rw [sF,onesA_succ,show (il (x % 256)+256 * cT k (x / 256)) % 256=il (x % 256) by omega,show (il (x % 256)+256 * cT k (x / 256)) / 256=cT k (x / 256) by omega]
theorem re:∀k x,cT k x<=170 * rep8 1 k
 | 0,x=>by simp [cT,rep8]
 | k+1,x=>by
  have h:=nN ⟨x % 256,by omega⟩
  have ih:=re k (x / 256)
  simp only at h
  rw [onesA_succ,rep8]
  omega
theorem nO:∀k x,dW k (cT k x)<=68 * rep8 1 k
 | 0,x=>by simp [dW,rep8]
 | k+1,x=>by
  have h:=nN ⟨x % 256,by omega⟩
  have ih:=nO k (x / 256)
  simp only at h
  rw [gl,rep8]
  omega
theorem sG (k x:Nat):dW k (cT k x) % 16<=4:=by
 rcases k with _|k
 ·simp [dW,rep8]
 ·have h:=nN ⟨x % 256,by omega⟩
  simp only at h
  rw [gl]
  omega
theorem and15 (y:Nat):y &&& 15=y % 16:=Nat.and_two_pow_sub_one_eq_mod y 4

def popB:Nat->Nat->Nat
 | 0,_=>0
 | k+1,x=>popN 8 (x % 256)+256 * popB k (x / 256)
theorem uz:∀k x,sE k (dW k (cT k x))=popB k x
 | 0,x=>by simp [sE,rep8,popB]
 | k+1,x=>by
  have h:=nN ⟨x % 256,by omega⟩
  have hl:=sG k (x / 256)
  have ih:=uz k (x / 256)
  simp only at h
  rw [gl]
  unfold sE at ih ⊢
  generalize dW k (cT k (x / 256))=z at hl ih
  generalize nM (il (x % 256))=e at h
  rw [jM _ _ _ (by omega),and15,popB,show ((e+256 * z) / 16+(e+256 * z)) / 256=z / 16+z by omega,ih,<- h.2.2.2.2]
  omega
theorem yo (x:Nat):∃a b c d e f g h:Nat,a<=8/\b<=8/\c<=8/\d<=8/\e<=8/\f<=8/\g<=8/\h<=8/\popN 64 x=a+b+c+d+e+f+g+h /\
  popB 8 x=a+256 * (b+256 * (c+256 * (d+256 * (e+256 * (f+256 * (g+256 * h)))))):=by
 refine ⟨_,_,_,_,_,_,_,_,eA 8 (x % 256),eA 8 (x / 256 % 256),eA 8 (x / 256 / 256 % 256),eA 8 (x / 256 / 256 / 256 % 256),eA 8 (x / 256 / 256 / 256 / 256 % 256),eA 8 (x / 256 / 256 / 256 / 256 / 256 % 256),eA 8 (x / 256 / 256 / 256 / 256 / 256 / 256 % 256),eA 8 (x / 256 / 256 / 256 / 256 / 256 / 256 / 256 % 256),?_,?_⟩
 ·rw [show (64:Nat)=8+(8+(8+(8+(8+(8+(8+(8+0))))))) from rfl]
  simp only [uy,show ∀y,popN 0 y=0 from fun _=>rfl]
  omega
 ·simp only [popB]
  omega

theorem EB:rep8 85 8=6148914691236517205:=by decide
theorem EC:rep8 51 8=3689348814741910323:=by decide
theorem ED:rep8 15 8=1085102592571150095:=by decide
theorem rep1:rep8 1 8=72340172838076673:=by decide
theorem Ac (x:Nat):(x / 2 &&& 6148914691236517205)+(x &&& 6148914691236517205)=cT 8 x:=by rw [cT,EB]
theorem Ad (x:Nat):(x / 4 &&& 3689348814741910323)+(x &&& 3689348814741910323)=dW 8 x:=by rw [dW,EC]
theorem onesC8 (x:Nat):(x / 16+x) &&& 1085102592571150095=sE 8 x:=by rw [sE,ED]
theorem uA (x:Nat):cT 8 x<=12297829382473034410:=by
 have h:=re 8 x
 rw [rep1] at h
 omega
theorem sH (x:Nat):dW 8 (cT 8 x)<=4919131752989213764:=by
 have h:=nO 8 x
 rw [rep1] at h
 omega
theorem yp (v s:Nat) (h:∃a b c d e f g h:Nat,a<=8/\b<=8/\c<=8/\d<=8/\e<=8/\f<=8/\g<=8/\h<=8/\s=a+b+c+d+e+f+g+h /\
  v=a+256 * (b+256 * (c+256 * (d+256 * (e+256 * (f+256 * (g+256 * h))))))) :
  v<=1000000000000000000/\v+v / 256<=2000000000000000000/\(v+v / 256)+(v+v / 256) / 65536<=3000000000000000000/\(v+v / 256)+(v+v / 256) / 65536+((v+v / 256)+(v+v / 256) / 65536) / 4294967296<=4000000000000000000 /\
  ((v+v / 256)+(v+v / 256) / 65536+((v+v / 256)+(v+v / 256) / 65536) / 4294967296) % 128=s:=by
 obtain ⟨a,b,c,d,e,f,g,h,ha,hb,hc,hd,he,hf,hg,hh,rfl,hv⟩:=h
 have k1:v / 256=b+256 * (c+256 * (d+256 * (e+256 * (f+256 * (g+256 * h))))):=by omega
 obtain ⟨v1,hv1⟩:∃v1,v+v / 256=v1:=⟨_,rfl⟩
 rw [hv1]
 rw [k1,hv] at hv1
 have k2:v1 / 65536=(c+d)+256 * ((d+e)+256 * ((e+f)+256 * ((f+g)+256 * ((g+h)+256 * h)))):=by omega
 obtain ⟨v2,hv2⟩:∃v2,v1+v1 / 65536=v2:=⟨_,rfl⟩
 rw [hv2]
 rw [k2,<- hv1] at hv2
 have k3:v2 / 4294967296=(e+f+g+h)+256 * ((f+g+h)+256 * ((g+h)+256 * h)):=by omega
 rw [k3]
 clear k1 k2 k3
 refine ⟨by omega,by omega,by omega,by omega,by omega⟩
theorem yq (x:Nat):∃v,sE 8 (dW 8 (cT 8 x))=v/\v<=1000000000000000000/\v+v / 256<=2000000000000000000/\(v+v / 256)+(v+v / 256) / 65536<=3000000000000000000 /\
  (v+v / 256)+(v+v / 256) / 65536+((v+v / 256)+(v+v / 256) / 65536) / 4294967296<=4000000000000000000 /\
  ((v+v / 256)+(v+v / 256) / 65536+((v+v / 256)+(v+v / 256) / 65536) / 4294967296) % 128=popN 64 x :=
 ⟨_,uz 8 x,yp _ _ (yo x)⟩

def bitN (n:UInt8):Nat:=2 ^ n.toNat % 18446744073709551616
def setN (l:List UInt8):Nat:=l.foldl (fun s n=>s ||| bitN n) 0
theorem uC (l:List UInt8) (k:Nat) (hk:k<l.length):setN (l.take (k+1))=setN (l.take k) ||| bitN l[k]:=by
 rw [setN,List.take_succ_eq_append_getElem hk,List.foldl_append]
 rfl
theorem uE (n:UInt8):bitN n<2 ^ 64:=Nat.mod_lt _ (by decide)
theorem bitN_bit (n:UInt8) (i:Nat):(bitN n).testBit i=(decide (i<64) && decide (n.toNat=i)):=by
 rw [bitN,show (18446744073709551616:Nat)=2 ^ 64 from rfl,Nat.testBit_mod_two_pow,Nat.testBit_two_pow]
theorem nP (l:List UInt8):∀s:Nat,s<2 ^ 64->l.foldl (fun s n=>s ||| bitN n) s<2 ^ 64/\∀i,i<64->(l.foldl (fun s n=>s ||| bitN n) s).testBit i=(s.testBit i || l.any fun n=>n.toNat == i):=by
 induction l with
 | nil=>intro s h;exact ⟨h,fun i _=>by simp⟩
 | cons n l ih =>
  intro s h
  obtain ⟨h1,h2⟩:=ih (s ||| bitN n) (Nat.or_lt_two_pow h (uE n))
  refine ⟨h1,fun i hi => ?_⟩
  rw [List.foldl_cons,h2 i hi,Nat.testBit_or,bitN_bit,List.any_cons,decide_eq_true hi,Bool.true_and,Bool.or_assoc]
  rfl
theorem jN (l:List UInt8):setN l<18446744073709551616:=(nP l 0 (by decide)).1
theorem jw (l:List UInt8) {i:Nat} (hi:i<64):(setN l).testBit i=l.any fun n=>n.toNat == i:=by
 rw [setN,(nP l 0 (by decide)).2 i hi]
 simp
theorem yr (l:List UInt8) (n:UInt8):(l.any fun m=>m.toNat == n.toNat)=l.contains n:=by
 rw [Bool.eq_iff_iff,List.any_eq_true,List.contains_iff_mem]
 constructor
 ·rintro ⟨m,hm,h⟩
  have:m.toNat=n.toNat:=by simpa using h
  rw [<- UInt8.toNat_inj.1 this]
  exact hm
 ·intro h
  exact ⟨n,h,by simp⟩

def cntN (l:List UInt8) (s:Nat):Nat:=l.countP fun n=>s.testBit n.toNat
theorem dy (l:List UInt8) (hn:l.Nodup) (hl:∀n∈l,n.toNat<64) (q:Nat->Bool):(List.range 64).countP (fun i=>(l.any fun n=>n.toNat == i) && q i)=l.countP fun n=>q n.toNat:=by
 rw [List.countP_eq_length_filter,List.countP_eq_length_filter]
 refine Eq.trans ?_ (List.length_map UInt8.toNat)
 apply List.Perm.length_eq
 refine (List.perm_ext_iff_of_nodup (List.nodup_range.sublist List.filter_sublist) ?_).2 fun i => ?_
 ·refine List.Pairwise.map _ (fun a b h e=>h (UInt8.toNat_inj.1 e)) (hn.sublist List.filter_sublist)
 ·rw [List.mem_filter,List.mem_range,Bool.and_eq_true,List.any_eq_true,List.mem_map]
  constructor
  ·rintro ⟨_,⟨n,hm,he⟩,hq⟩
   have he:n.toNat=i:=by simpa using he
   exact ⟨n,List.mem_filter.2 ⟨hm,by rw [he];exact hq⟩,he⟩
  ·rintro ⟨n,hm,rfl⟩
   obtain ⟨hm,hq⟩:=List.mem_filter.1 hm
   exact ⟨hl n hm,⟨n,hm,by simp⟩,hq⟩
theorem AH (l:List UInt8) (hn:l.Nodup) (hl:∀n∈l,n.toNat<64) (s:Nat):popN 64 (setN l &&& s)=cntN l s:=by
 rw [popN_count,cntN,<- dy l hn hl]
 apply List.countP_congr
 intro i hi
 rw [List.mem_range] at hi
 rw [Nat.testBit_and,jw l hi]
theorem AJ (l:List UInt8) (hn:l.Nodup) (hl:∀n∈l,n.toNat<64):popN 64 (setN l)=l.length:=by
 have h:=dy l hn hl (fun _=>true)
 rw [List.countP_eq_length.2 (fun _ _=>rfl)] at h
 rw [<- h,popN_count]
 apply List.countP_congr
 intro i hi
 rw [List.mem_range] at hi
 rw [jw l hi,Bool.and_true]

def othN (l m:List UInt8):Nat:=l.countP fun n => !m.contains n
theorem lh {α:Type} (p q:α->Bool):∀l:List α,l.countP (fun x=>p x ^^ q x)=l.countP (fun x=>p x && !q x)+l.countP (fun x=>q x && !p x)
 | []=>rfl
 | x::l=>by
  simp only [List.countP_cons,lh p q l]
  cases p x <;> cases q x <;> simp <;> omega
theorem AK (l m:List UInt8) (hn:l.Nodup) (hl:∀n∈l,n.toNat<64) (hm:m.Nodup) (hml:∀n∈m,n.toNat<64):popN 64 (setN l ^^^ setN m)=othN l m+othN m l:=by
 have h1:=dy l hn hl (fun i => !(m.any fun n=>n.toNat == i))
 have h2:=dy m hm hml (fun i => !(l.any fun n=>n.toNat == i))
 simp only [yr] at h1 h2
 rw [othN,othN,<- h1,<- h2,popN_count,<- lh]
 apply List.countP_congr
 intro i hi
 rw [List.mem_range] at hi
 rw [Nat.testBit_xor,jw l hi,jw m hi]

def uF (ρ:Operand->Value):Op->Option Value
 | .move x=>some (ρ x)
 | .assign x=>some (ρ x)
 | .pick c x y=>match ρ c with
  | .bool b=>some (if b then ρ x else ρ y)
  | _=>none
 | _=>none
def ff (ops:Array Oper):List Oper->Act->Option Act
 | [],a=>some a
 | o::rest,a=>if Region.wanted o (yielded ops a.tmps) then (match uF a.eval o.op with
   | some v=>ff ops rest (a.put o.dst v)
   | none=>none) else ff ops rest (a.put o.dst undef)

theorem pI {P:Program} {ops:Array Oper} {Q:Exit->Act->World->Prop} {w:World}:∀(l:List Oper) (a a':Act),ff ops l a=some a'->Q .normal a' w->wpList P ops Q l a w:=by
 intro l
 induction l with
 | nil =>
  intro a a' h hq
  unfold ff at h
  injection h with h
  subst h
  exact hq
 | cons o rest ih =>
  intro a a' h hq
  unfold ff at h
  by_cases hw:Region.wanted o (yielded ops a.tmps)=true
  ·rw [if_pos hw] at h
   rcases hp:uF a.eval o.op with _|v
   ·rw [hp] at h
    cases h
   ·rw [hp] at h
    have h2:=ih _ _ h hq
    refine wpList_step fun K hK => ?_
    rw [if_pos hw]
    have hk:=hK _ _ h2
    unfold Oper.wp execOp
    rcases o with ⟨dst,op,ty,pos,after,guard⟩
    cases op <;> simp only [uF] at hp <;> first|(cases hp;done)|skip
    ·injection hp with hp
     subst hp
     exact hk
    ·injection hp with hp
     subst hp
     exact hk
    ·split at hp
     ·rename_i b hb
      injection hp with hp
      subst hp
      simp only [hb,asBool]
      cases b <;> exact hk
     ·cases hp
  ·rw [if_neg hw] at h
   exact wpList_skip (by simpa using hw) (ih _ _ h hq)

theorem AL {P:Program} {fn:Func} {j:Nat} (hr:fn.results = #[.tmp j]) {tmps:Array Value} {v:Value} (ht:tmps.getD j undef=v) (w:World):(results fn tmps).run P w = .ok v w:=by
 have ht':tmps[j]?.getD undef=v:=by simpa using ht
 unfold results
 rw [hr]
 simp [ht']

theorem aY {P:Program} {fn:Func} {R:Ending->World->Prop} {ops:Array Oper} {l:List Oper} {a:Act} {w:World} {K:Act->World->Prop} (hK:∀a w,Code.wp P Code.ret (bodyPost P fn R) a w->K a w)
  (j:Nat) (hr:fn.results = #[.tmp j]) (v:Value) (h:(ff ops l a).isSome=true) (hv:((ff ops l a).getD a).tmps.getD j undef=v) (hd:((ff ops l a).getD a).defers=[]) (hR:R (.returned v) w) :
  wpList P ops (Exit.then K (bodyPost P fn R)) l a w:=by
 obtain ⟨a',ha⟩:=Option.isSome_iff_exists.1 h
 rw [ha] at hv hd
 exact pI l a a' ha (hK _ _ (wp_ret (bodyPost_ret (AL hr hv w) hd hR)))

theorem ax {P:Program} {ops:Array Oper} {Q:Exit->Act->World->Prop} {l:List Oper} {a:Act} {w:World} (n:Nat) (h:∀L,Hid (l.drop n=L)->wpList P ops Q (l.take n++L) a w):wpList P ops Q l a w:=by
 have:=h _ (aa rfl)
 rwa [List.take_append_drop] at this
end Go.Proofs.YtnkjdijbfnmnhaaGreat
