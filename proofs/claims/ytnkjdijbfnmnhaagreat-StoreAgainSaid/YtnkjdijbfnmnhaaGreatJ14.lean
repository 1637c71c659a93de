/-
  Texts of this claim put together: Tok, App.
-/
import Derived.Test.YtnkjdijbfnmnhaaGreatJ13
import Derived.Test.YtnkjdijbfnmnhaaGreatJ04
import Derived.Test.YtnkjdijbfnmnhaaGreatForm
import Derived.Deep.SlicePairs
import Derived.Lib.SmallJoins

namespace Go.Proofs.YtnkjdijbfnmnhaaGreat
open Go.ChangeShapes Go.WideShapes Go.ChangeAt Go.RowKit Go.Joins Go.Deep

def tv (l:List (Int × Int)):List Value:=l.flatMap fun t=>[.int .u8 t.1, .int .i64 t.2]

def iv (l:List Int):List Value:=l.map (Value.int .i64)
theorem uW (t:Int × Int) (l:List (Int × Int)):tv (t::l) = .int .u8 t.1 :: .int .i64 t.2::tv l:=rfl
theorem uX (l m:List (Int × Int)):tv (l++m)=tv l++tv m:=by simp [tv]
theorem fg (l:List (Int × Int)):(tv l).length=l.length * 2:=by
 induction l with
 | nil=>rfl
 | cons t l ih=>rw [uW];simp [ih];omega
theorem C3 (l:List (Int × Int)):∀u∈tv l,u.oneCell'=true:=by
 intro u hu
 simp only [tv,List.mem_flatMap,List.mem_cons,List.not_mem_nil,or_false] at hu
 obtain ⟨t,_,rfl|rfl⟩:=hu <;> rfl
theorem Ag:∀(l:List (Int × Int)) (k:Nat),k<l.length->(tv l)[k * 2]?=some (.int .u8 (tk l k).1)/\(tv l)[k * 2+1]?=some (.int .i64 (tk l k).2):=by
 intro l
 induction l with
 | nil=>intro k h;simp at h
 | cons t l ih =>
  intro k h
  rw [uW]
  match k,h with
  | 0,_=>exact ⟨rfl,rfl⟩
  | k+1,h =>
   have:=ih k (by simpa using h)
   rw [show (k+1) * 2=k * 2+1+1 by omega]
   simpa [tk] using this
theorem nX (l:List Int):(iv l).length=l.length:=by simp [iv]
theorem C4 (l:List Int) (k:Nat) (h:k<l.length):(iv l)[k]?=some (.int .i64 (l.getD k 0)):=by simp [iv,h]

section
variable {w : World} {B : Nat} {A : Option Addr}
theorem Sees.tok {l:List (Int × Int)} {k:Nat} (h:Sees w B A (tv l)) (hk:k<l.length) :
  ∃b o,A=some ⟨b,o,none⟩/\b<B/\w.cell? ⟨b,o+k * 2,none⟩=some (.int .u8 (tk l k).1)/\w.cell? ⟨b,o+k * 2+1,none⟩=some (.int .i64 (tk l k).2):=by
 obtain ⟨b,o,e,hb,hc⟩:=h.flat (by rw [fg];omega)
 have:=Ag l k hk
 exact ⟨b,o,e,hb,hc _ _ this.1,hc _ _ this.2⟩
theorem Sees.int {l:List Int} {k:Nat} (h:Sees w B A (iv l)) (hk:k<l.length):∃b o,A=some ⟨b,o,none⟩/\b<B/\w.cell? ⟨b,o+k,none⟩=some (.int .i64 (l.getD k 0)):=by
 obtain ⟨b,o,e,hb,hc⟩:=h.flat (by rw [nX];omega)
 exact ⟨b,o,e,hb,hc _ _ (C4 l k hk)⟩
end

def pO (t:Int × Int):Prop:=0<=t.1/\t.1<=255/\I64 t.2

section
variable {H : Type} {enc : TypeId × Value -> H} {P : Program} {w : World} {base : Nat} {spare : Nat -> Bool} {held : Bool}

theorem uY {α:Type} {Q:Nat->α->Prop}:∀n:Nat,(∀k,k<n->∃x,Q k x)->∃l:List α,l.length=n/\∀k (h:k<l.length),Q k l[k]:=by
 intro n
 induction n with
 | zero=>exact fun _=>⟨[],rfl,fun k h=>by simp at h⟩
 | succ n ih =>
  intro h
  obtain ⟨l,hl,hq⟩:=ih fun k hk=>h k (by omega)
  obtain ⟨x,hx⟩:=h n (by omega)
  refine ⟨l++[x],by simp [hl],fun k hk => ?_⟩
  rw [List.getElem_append]
  split
  ·exact hq k _
  ·have:k=n:=by simp at hk;omega
   subst this
   simpa using hx

set_option maxRecDepth 100000 in
theorem C5 {r:Reach} {b0:Nat} {v:Value} {d:DataW H} {ps:List MemPlace}
  (hval:Value.okWide Tryz.prog w r b0 170 v) (hd:DataW.Trod enc Tryz.prog w base spare held 170 v d ps) :
  ∃(A:Option Addr) (n c:Nat) (l:List (Int × Int)),v = .slice A n c/\l.length=n/\n<=c/\c<=maxLen/\Sees w w.heap.size A (tv l)/\∀t∈l,pO t:=by
 obtain ⟨A,n,c,rfl⟩:=okWide_slice Tryz.underlying170 hval
 obtain ⟨fuel,hf⟩:=hd
 rcases open_slice_pairs Tryz.underlying170 Tryz.underlying334 (by kernel_rfl) rfl rfl (by kernel_rfl) (by kernel_rfl) hf with ⟨hcs,hx⟩ | ⟨a,len,cap,m,n',V0,V1,D0,D1,P0,P1,hcs,_,hl,hm,hmm,_,hi⟩
 ·simp [Value.cells] at hcs
  obtain ⟨rfl,rfl,rfl⟩:=hcs
  exact ⟨none,0,0,[],rfl,rfl,by omega,by simp [maxLen],Sees.empty _ _ _,by simp⟩
 ·simp [Value.cells] at hcs
  obtain ⟨rfl,rfl,rfl⟩:=hcs
  have hnm:n<=m:=by
   rw [hmm]
   split <;> omega
  obtain ⟨l,hll,hlq⟩:=uY (Q:=fun k t=>w.cell? (a.add (k * 2))=some (.int .u8 t.1)/\w.cell? (a.add (k * 2+1))=some (.int .i64 t.2)/\pO t) n (fun k hk=>by
   obtain ⟨h0,h1,t0,t1⟩:=hi k (by omega)
   obtain ⟨x,ex,_,wx⟩:=DataW.trod_int Tryz.underlying5 t0
   obtain ⟨y,ey,_,wy⟩:=DataW.trod_int Tryz.underlying2 t1
   injection ex with ex
   injection ey with ey
   rw [ex] at h0
   rw [ey] at h1
   have bx:0<=x/\x<=255:=by simpa [Lit.wf,IntKind.min,IntKind.max,IntKind.signed,IntKind.bits] using wx
   have byy:I64 y:=by unfold I64;simpa [Lit.wf,IntKind.min,IntKind.max,IntKind.signed,IntKind.bits] using wy
   exact ⟨(x,y),h0,h1,bx.1,bx.2,byy⟩)
  refine ⟨some a,n,c,l,rfl,hll,hl,hm,fun h0 => ?_,fun t ht => ?_⟩
  ·have hn:0<n:=by rw [fg] at h0;omega
   have h1:=(hi 0 (by omega)).1
   refine ⟨a,rfl,?_,fun j u hu => ?_⟩
   ·have:=World.block_lt_of_cell? w _ h1
    rwa [du] at this
   ·have hj:j<l.length * 2:=by
     have:=(List.getElem?_eq_some_iff.1 hu).1
     rwa [fg] at this
    have hk:j / 2<l.length:=by omega
    have hg:=Ag l (j / 2) hk
    have hq:=hlq (j / 2) hk
    have et:tk l (j / 2)=l[j / 2]:=by simp [tk,hk]
    rw [et] at hg
    rcases (show j=j / 2 * 2∨j=j / 2 * 2+1 by omega) with e|e
    ·rw [e,<- hu,e,hg.1]
     rw [show j / 2 * 2 / 2=j / 2 by omega]
     exact hq.1
    ·rw [e,<- hu,e,hg.2]
     rw [show (j / 2 * 2+1) / 2=j / 2 by omega]
     exact hq.2.1
  ·obtain ⟨k,hk,rfl⟩:=List.getElem_of_mem ht
   exact (hlq k hk).2.2
end
open Go.RowKit

section
variable {P : Program} (w : World)

theorem ri {ops:Array Oper} {rest:List Oper} {o:Oper} {a:Act} {Q:Exit->Act->World->Prop} (hgd:Region.wanted o (yielded ops a.tmps)=true) (s x:Operand) (t:TypeId)
  (ho:o.op = .call { callee := .builtin .append,args := #[s,x],argTypes := #[t,t] })
  (base:Nat) (e:TypeId) (hinfo:(P.info? e).map (fun i=>(i.zero,i.size,i.bytes))=some (some (.agg #[.int .u8 0, .int .i64 0]),2,16)) (ht:P.underlying t=some (.slice e))
  (v:Value) (n:Nat) (l1 l2 r:List (Int × Int)) (hres:l1++l2=r) (hs:a.eval s=v) (hown:w.ownsRow base e 2 v n (tv l1))
  (B:Nat) (A:Option Addr) (m c:Nat) (hx:a.eval x = .slice A m c) (hl:l2.length=m) (hr:Sees w B A (tv l2)) (hn:n+m<=8796093022208) (hbase:base<=w.heap.size)
  (h:∀A' c' w',w'.ownsRow base e 2 (.slice A' r.length c') r.length (tv r)->Below base w w'->wpList P ops Q rest (a.put o.dst (.slice A' r.length c')) w'):wpList P ops Q (o::rest) a w:=by
 refine wpList_step fun _ hK => ?_
 rw [if_pos hgd]
 obtain ⟨i0,hi,hz0,hz1,hz2⟩:=info_parts hinfo
 have hn1:l1.length=n:=by have:=hown.1;rw [fg] at this;omega
 have e1:n+m=r.length:=by rw [<- hres,List.length_append];omega
 obtain ⟨v',w',hrun,h2,h3,_⟩:=bZ (P:=P) w base t o.type e i0 _ 2 16 ht hi hz0 hz1 hz2 rfl (by omega) v n (tv l1) hown B A m c (tv l2) (by rw [fg,hl]) hr (C3 l2) (by unfold maxLen;omega) (by omega) hbase
 rw [e1,<- uX,hres] at h2
 have hv:∃A' c',v' = .slice A' r.length c':=by
  rcases h2.2 with ⟨rfl,h0⟩ | ⟨g,cap,cur,rfl,_⟩
  ·exact ⟨none,0,by rw [h0]⟩
  ·exact ⟨_,_,rfl⟩
 obtain ⟨A',c',rfl⟩:=hv
 unfold Oper.wp execOp
 simp only [ho,resolve,invoke,builtin,Sem.run_bind,Sem.run_pure,Result.andThen_ok,List.map_toArray,List.map_cons,List.map_nil,hs,hx,hrun]
 exact hK _ _ (h A' c' w' h2 ((Below.refl base w).grown h3 hbase fun k hk=>(hown.lt k hk).1))
end

theorem Sees.ownToks {w:World} {base n c:Nat} {e:TypeId} {A:Option Addr} {l:List (Int × Int)} (h:w.ownsRow base e 2 (.slice A n c) n (tv l)):Sees w w.heap.size A (tv l):=fun hn=>by
 rcases h.2 with ⟨hv,rfl⟩ | ⟨g,cap,cur,hv,_,hg,_,_,hsz,hx⟩
 ·have:=h.1
  omega
 ·injection hv with hA
  subst hA
  have hlt:g<w.heap.size:=(Array.getElem?_eq_some_iff.1 hg).1
  refine ⟨_,rfl,hlt,fun j u hu => ?_⟩
  rw [Addr.add_lit,cell_of_row w g _ _ _ _ hg,Nat.zero_add,<- Array.getElem?_toList]
  rw [<- hx,List.getElem?_take] at hu
  split at hu
  ·exact hu
  ·cases hu
end Go.Proofs.YtnkjdijbfnmnhaaGreat
