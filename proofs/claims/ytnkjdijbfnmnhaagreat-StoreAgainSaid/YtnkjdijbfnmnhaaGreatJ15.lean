/-
  Texts of this claim put together: Tab, TabF, FireF, Bytes.
-/
import Derived.Test.YtnkjdijbfnmnhaaGreatJ14
import Derived.Lib.SmallJoins
import Derived.Deep.Slices
import Derived.Test.YtnkjdijbfnmnhaaGreatJ04

namespace Go.Proofs.YtnkjdijbfnmnhaaGreat
set_option maxRecDepth 100000
set_option maxHeartbeats 12800000
open Go.ChangeShapes Go.WideShapes Go.ChangeAt Go.RowKit Go.Joins Go.Deep

structure Sl (α:Type) where
 A:Option Addr
 c:Nat
 l:List α
def Sl.v {α:Type} (s:Sl α):Value := .slice s.A s.l.length s.c
def Sl.ok {α:Type} (cs:α->List Value) (p:World->Nat->α->Prop) (w:World) (B:Nat) (s:Sl α):Prop :=
 s.l.length<=s.c/\s.c<=maxLen/\Sees w B s.A (s.l.flatMap cs)/\∀x∈s.l,p w B x

def Stable {α:Type} (p:World->Nat->α->Prop):Prop:=∀w w' B B' x,p w B x->(∀q:Addr,q.block<B->w'.cell? q=w.cell? q)->B<=B'->p w' B' x
theorem Sl.stable {α:Type} {cs:α->List Value} {p:World->Nat->α->Prop} (hp:Stable p):Stable (Sl.ok cs p):=fun w w' B B' _ h hk hB =>
 ⟨h.1,h.2.1,(h.2.2.1.keep hk).more hB,fun y hy=>hp w w' B B' y (h.2.2.2 y hy) hk hB⟩
theorem Stable.below {α:Type} {p:World->Nat->α->Prop} (hp:Stable p) {w w':World} {B:Nat} {x:α} (h:p w B x) (hb:Below B w w'):p w' B x:=hp w w' B B x h (fun _ hq=>hb.cell hq) (Nat.le_refl _)
theorem Stable.more {α:Type} {p:World->Nat->α->Prop} (hp:Stable p) {w:World} {B B':Nat} {x:α} (h:p w B x) (hB:B<=B'):p w B' x:=hp w w B B' x h (fun _ _=>rfl) hB

def tokC (t:Int × Int):List Value:=[.int .u8 t.1, .int .i64 t.2]
theorem EK (l:List (Int × Int)):tv l=l.flatMap tokC:=rfl
abbrev TokS:=Sl (Int × Int)
def ll (w:World) (B:Nat) (s:TokS):Prop:=Sl.ok tokC (fun _ _ t=>pO t) w B s
theorem go:Stable ll:=Sl.stable fun _ _ _ _ _ h _ _=>h

structure SetM where
 var:Int
 val:TokS
def SetM.cs (s:SetM):List Value:=[.int .i64 s.var,s.val.v]
def SetM.ok (w:World) (B:Nat) (s:SetM):Prop:=I64 s.var/\ll w B s.val
theorem sM:Stable SetM.ok:=fun w w' B B' x h hk hB=>⟨h.1,go w w' B B' x.val h.2 hk hB⟩
def nY (w:World) (B:Nat) (s:Sl SetM):Prop:=Sl.ok SetM.cs SetM.ok w B s
theorem pP:Stable nY:=Sl.stable sM

structure EmM where
 tg:Int
 ac:Int
 arg:TokS
def EmM.cs (e:EmM):List Value:=[.int .u8 e.tg, .int .i64 e.ac,e.arg.v]
def EmM.ok (w:World) (B:Nat) (e:EmM):Prop:=(0<=e.tg/\e.tg<=255)/\I64 e.ac/\ll w B e.arg
theorem uZ:Stable EmM.ok:=fun w w' B B' x h hk hB=>⟨h.1,h.2.1,go w w' B B' x.arg h.2.2 hk hB⟩
def u7 (w:World) (B:Nat) (s:Sl EmM):Prop:=Sl.ok EmM.cs EmM.ok w B s
theorem sN:Stable u7:=Sl.stable uZ

structure RuM where
 fr:Int
 ac:Int
 pa:Int
 tt:Int
 gu:TokS
 se:Sl SetM
 em:Sl EmM
def RuM.cs (r:RuM):List Value:=[.int .i64 r.fr, .int .i64 r.ac, .int .i64 r.pa, .int .i64 r.tt,r.gu.v,r.se.v,r.em.v]
def RuM.ok (w:World) (B:Nat) (r:RuM):Prop:=(I64 r.fr/\I64 r.ac/\I64 r.pa/\I64 r.tt)/\ll w B r.gu/\nY w B r.se/\u7 w B r.em
theorem u9:Stable RuM.ok:=fun w w' B B' x h hk hB=>⟨h.1,go w w' B B' x.gu h.2.1 hk hB,pP w w' B B' x.se h.2.2.1 hk hB,sN w w' B B' x.em h.2.2.2 hk hB⟩
def yI (w:World) (B:Nat) (s:Sl RuM):Prop:=Sl.ok RuM.cs RuM.ok w B s
theorem Ct:Stable yI:=Sl.stable u9
def RuM.v (r:RuM):Value := .agg #[.int .i64 r.fr, .int .i64 r.ac, .int .i64 r.pa, .int .i64 r.tt,r.gu.v,r.se.v,r.em.v]
def SetM.v (s:SetM):Value := .agg #[.int .i64 s.var,s.val.v]
def EmM.v (e:EmM):Value := .agg #[.int .u8 e.tg, .int .i64 e.ac,e.arg.v]

def tabV (st vs:Int) (s:Sl RuM):Value := .agg #[.int .i64 st, .int .i64 vs,s.v]

theorem me {α:Type} {cs:α->List Value} {q:Nat} (hcs:∀x,(cs x).length=q):∀(l:List α) (k j:Nat) (x:α),l[k]?=some x->j<q->(l.flatMap cs)[k * q+j]?=(cs x)[j]?:=by
 intro l
 induction l with
 | nil=>intro k j x h;simp at h
 | cons y l ih =>
  intro k j x h hj
  rw [List.flatMap_cons]
  match k,h with
  | 0,h =>
   simp at h
   subst h
   rw [Nat.zero_mul,Nat.zero_add,List.getElem?_append_left (by rw [hcs];exact hj)]
  | k+1,h =>
   rw [List.getElem?_append_right (by rw [hcs,Nat.succ_mul];omega),hcs,show (k+1) * q+j - q=k * q+j by rw [Nat.succ_mul];omega]
   exact ih k j x (by simpa using h) hj
theorem eC {α:Type} {cs:α->List Value} {q:Nat} (hcs:∀x,(cs x).length=q) (l:List α):(l.flatMap cs).length=l.length * q:=by
 induction l with
 | nil=>simp
 | cons y l ih=>rw [List.flatMap_cons,List.length_append,hcs,ih,List.length_cons,Nat.succ_mul];omega

section
variable {w : World} {B : Nat} {A : Option Addr}
theorem Sees.at {α:Type} {cs:α->List Value} {q:Nat} (hcs:∀x,(cs x).length=q) (hq:0<q) {l:List α} {k:Nat} {x:α} (h:Sees w B A (l.flatMap cs)) (hk:l[k]?=some x) :
  ∃b o,A=some ⟨b,o,none⟩/\b<B/\∀j u,(cs x)[j]?=some u->w.cell? ⟨b,o+k * q+j,none⟩=some u:=by
 have hlt:k<l.length:=(List.getElem?_eq_some_iff.1 hk).1
 obtain ⟨b,o,e,hb,hc⟩:=h.flat (by rw [eC hcs];exact Nat.mul_pos (by omega) hq)
 refine ⟨b,o,e,hb,fun j u hu => ?_⟩
 have hj:j<q:=by have:=(List.getElem?_eq_some_iff.1 hu).1;rwa [hcs] at this
 have:=hc (k * q+j) u (by rw [me hcs l k j x hk hj];exact hu)
 rwa [<- Nat.add_assoc] at this
theorem Sees.set {l:List SetM} {k:Nat} {x:SetM} (h:Sees w B A (l.flatMap SetM.cs)) (hk:l[k]?=some x) :
  ∃b o,A=some ⟨b,o,none⟩/\b<B/\w.cell? ⟨b,o+k * 2,none⟩=some (.int .i64 x.var)/\w.cell? ⟨b,o+k * 2+1,none⟩=some (.slice x.val.A x.val.l.length x.val.c):=by
 obtain ⟨b,o,e,hb,hc⟩:=h.at (q:=2) (fun _=>rfl) (by omega) hk
 exact ⟨b,o,e,hb,hc 0 _ rfl,hc 1 _ rfl⟩
theorem Sees.em {l:List EmM} {k:Nat} {x:EmM} (h:Sees w B A (l.flatMap EmM.cs)) (hk:l[k]?=some x) :
  ∃b o,A=some ⟨b,o,none⟩/\b<B/\w.cell? ⟨b,o+k * 3,none⟩=some (.int .u8 x.tg)/\w.cell? ⟨b,o+k * 3+1,none⟩=some (.int .i64 x.ac)/\w.cell? ⟨b,o+k * 3+2,none⟩=some (.slice x.arg.A x.arg.l.length x.arg.c):=by
 obtain ⟨b,o,e,hb,hc⟩:=h.at (q:=3) (fun _=>rfl) (by omega) hk
 exact ⟨b,o,e,hb,hc 0 _ rfl,hc 1 _ rfl,hc 2 _ rfl⟩
theorem Sees.ru {l:List RuM} {k:Nat} {x:RuM} (h:Sees w B A (l.flatMap RuM.cs)) (hk:l[k]?=some x) :
  ∃b o,A=some ⟨b,o,none⟩/\b<B/\w.cell? ⟨b,o+k * 7,none⟩=some (.int .i64 x.fr)/\w.cell? ⟨b,o+k * 7+1,none⟩=some (.int .i64 x.ac)/\w.cell? ⟨b,o+k * 7+2,none⟩=some (.int .i64 x.pa) /\
   w.cell? ⟨b,o+k * 7+3,none⟩=some (.int .i64 x.tt)/\w.cell? ⟨b,o+k * 7+4,none⟩=some (.slice x.gu.A x.gu.l.length x.gu.c)/\w.cell? ⟨b,o+k * 7+5,none⟩=some (.slice x.se.A x.se.l.length x.se.c)/\w.cell? ⟨b,o+k * 7+6,none⟩=some (.slice x.em.A x.em.l.length x.em.c):=by
 obtain ⟨b,o,e,hb,hc⟩:=h.at (q:=7) (fun _=>rfl) (by omega) hk
 exact ⟨b,o,e,hb,hc 0 _ rfl,hc 1 _ rfl,hc 2 _ rfl,hc 3 _ rfl,hc 4 _ rfl,hc 5 _ rfl,hc 6 _ rfl⟩
end

section
variable {H : Type} {enc : TypeId × Value -> H} {P : Program} {w : World} {base : Nat} {spare : Nat -> Bool} {held : Bool}

theorem dz {α:Type} (cs:α->List Value) (Pr:α->Prop) {q:Nat} (hq:0<q) {t e:TypeId} (ht:P.underlying t=some (.slice e)) (hC:P.cellsOf e=q) (hcs:∀x,(cs x).length=q)
  (hel:∀n xs y,xs.length=q->DataW.trod enc P w base spare held n e xs=some y->∃x,xs=cs x/\Pr x) {fuel:Nat} {v:Value} {x:DataW H × List MemPlace} (h:DataW.trod enc P w base spare held fuel t [v]=some x) :
  ∃s:Sl α,v=s.v/\s.l.length<=s.c/\s.c<=maxLen/\Sees w w.heap.size s.A (s.l.flatMap cs)/\∀x∈s.l,Pr x:=by
 rcases open_slice ht h with ⟨hv,_⟩ | ⟨a,len,cap,m,n,D,Pl,hv,hb,hl,hm,hmm,hx,hi⟩
 ·injection hv with hv _
  subst hv
  exact ⟨⟨none,0,[]⟩,rfl,by simp,by simp [maxLen],Sees.empty _ _ _,by simp⟩
 ·injection hv with hv _
  subst hv
  have hlm:len<=m:=by rw [hmm];split <;> omega
  obtain ⟨l,hll,hlq⟩:=uY (Q:=fun k (x:α)=>(∀j,j<q->w.cell? (a.add (k * q+j))=(cs x)[j]?)/\Pr x) len (fun k hk=>by
   obtain ⟨cs',h1,h2⟩:=hi k (by omega)
   rw [hC] at h1
   obtain ⟨_,hlen,hcell⟩:=World.cells?_some h1
   obtain ⟨x,hx1,hx2⟩:=hel n cs' _ hlen h2
   refine ⟨x,fun j hj => ?_,hx2⟩
   have:=hcell j hj
   rw [add_add] at this
   rw [this,hx1])
  refine ⟨⟨some a,cap,l⟩,by simp [Sl.v,hll],by simpa [hll] using hl,hm,fun h0 => ?_,fun x hx => ?_⟩
  ·have h0':0<l.length:=by
    simp only [eC hcs] at h0
    exact Nat.pos_of_mul_pos_right h0
   have hc0:=(hlq 0 h0').1 0 hq
   have hsome:∃u,(cs l[0])[0]?=some u:=⟨_,List.getElem?_eq_getElem (by rw [hcs];exact hq)⟩
   obtain ⟨u0,hu0⟩:=hsome
   rw [hu0] at hc0
   refine ⟨a,rfl,?_,fun j u hu => ?_⟩
   ·have:=World.block_lt_of_cell? w _ hc0
    rwa [du] at this
   ·have hj:j<l.length * q:=by
     have:=(List.getElem?_eq_some_iff.1 hu).1
     rwa [eC hcs] at this
    have hk:j / q<l.length:=Nat.div_lt_of_lt_mul (by rw [Nat.mul_comm];exact hj)
    have hr:j % q<q:=Nat.mod_lt _ hq
    have ej:j / q * q+j % q=j:=by rw [Nat.mul_comm];exact Nat.div_add_mod j q
    have hg:=me hcs l (j / q) (j % q) _ (List.getElem?_eq_getElem hk) hr
    rw [ej] at hg
    have:=(hlq (j / q) hk).1 (j % q) hr
    rw [ej] at this
    rw [this,<- hg]
    exact hu
  ·obtain ⟨k,hk,rfl⟩:=List.getElem_of_mem hx
   exact (hlq k hk).2

theorem ay {e:TypeId} {fs:Array Field} {xs:List Value} {n:Nat} {y:DataW H × List MemPlace} (he:P.underlying e=some (.struct fs)) (h:DataW.trod enc P w base spare held n e xs=some y)
  (j:Nat) {f:Field} (hj:fs[j]?=some f) {o:Nat} {ty:TypeId} {c:Value} (ht:f.type=ty) (ho:f.offset=o) (hc:P.cellsOf ty=1) (hx:(xs.drop o).take 1=[c]) :
  ∃k z,DataW.trod enc P w base spare held k ty [c]=some z:=by
 obtain ⟨ys,k,_,_,_,hlen,hf⟩:=DataW.trod_struct he h
 have h1:=hf j f hj
 rw [ht,ho,hc,hx] at h1
 have hjl:j<ys.length:=by rw [hlen];exact (Array.getElem?_eq_some_iff.1 hj).1
 exact ⟨k,ys[j],h1.trans (List.getElem?_eq_getElem hjl)⟩

theorem gE {fuel:Nat} {t:TypeId} {k:IntKind} {v:Value} {y:DataW H × List MemPlace} (ht:P.underlying t=some (.int k)) (h:DataW.trod enc P w base spare held fuel t [v]=some y) :
  ∃n:Int,v = .int k n/\(Lit.int k n).wf=true:=by
 obtain ⟨n,e,_,hw⟩:=DataW.trod_int ht h
 injection e with e _
 exact ⟨n,e,hw⟩
end

section
variable {H : Type} {enc : TypeId × Value -> H} {w : World} {base : Nat} {spare : Nat -> Bool} {held : Bool}

theorem bo {n:Nat} {t:TypeId} {v:Value} {y:DataW H × List MemPlace} (ht:Tryz.prog.underlying t=some (.int .i64)) (h:DataW.trod enc Tryz.prog w base spare held n t [v]=some y):∃x:Int,v = .int .i64 x/\I64 x:=by
 obtain ⟨a,rfl,wa⟩:=gE ht h
 exact ⟨a,rfl,by unfold I64;simpa [Lit.wf,IntKind.min,IntKind.max,IntKind.signed,IntKind.bits] using wa⟩
theorem dp {n:Nat} {t:TypeId} {v:Value} {y:DataW H × List MemPlace} (ht:Tryz.prog.underlying t=some (.int .u8)) (h:DataW.trod enc Tryz.prog w base spare held n t [v]=some y):∃x:Int,v = .int .u8 x/\0<=x/\x<=255:=by
 obtain ⟨a,rfl,wa⟩:=gE ht h
 have h2:0<=a/\a<=255:=by simpa [Lit.wf,IntKind.min,IntKind.max,IntKind.signed,IntKind.bits] using wa
 exact ⟨a,rfl,h2⟩

theorem C6 {n:Nat} {xs:List Value} {y:DataW H × List MemPlace} (hl:xs.length=2) (h:DataW.trod enc Tryz.prog w base spare held n 334 xs=some y):∃t,xs=tokC t/\pO t:=by
 match xs,hl with
 | [c0,c1],_ =>
  obtain ⟨_,_,h0⟩:=ay Tryz.underlying334 h 0 rfl rfl rfl (by kernel_rfl) rfl
  obtain ⟨_,_,h1⟩:=ay Tryz.underlying334 h 1 rfl rfl rfl (by kernel_rfl) rfl
  obtain ⟨a,rfl,ha⟩:=dp Tryz.underlying5 h0
  obtain ⟨b,rfl,hb⟩:=bo Tryz.underlying2 h1
  exact ⟨(a,b),rfl,ha.1,ha.2,hb⟩
theorem jV {n:Nat} {v:Value} {y:DataW H × List MemPlace} (h:DataW.trod enc Tryz.prog w base spare held n 170 [v]=some y):∃s:TokS,v=s.v/\ll w w.heap.size s:=by
 obtain ⟨s,hv,h1,h2,h3,h4⟩:=dz tokC pO (q:=2) (by omega) Tryz.underlying170 (by kernel_rfl) (fun _=>rfl) (fun _ _ _ hl h=>C6 hl h) h
 exact ⟨s,hv,h1,h2,h3,h4⟩

theorem C7 {n:Nat} {xs:List Value} {y:DataW H × List MemPlace} (hl:xs.length=2) (h:DataW.trod enc Tryz.prog w base spare held n 176 xs=some y):∃t,xs=SetM.cs t/\SetM.ok w w.heap.size t:=by
 match xs,hl with
 | [c0,c1],_ =>
  obtain ⟨_,_,h0⟩:=ay Tryz.underlying176 h 0 rfl rfl rfl (by kernel_rfl) rfl
  obtain ⟨_,_,h1⟩:=ay Tryz.underlying176 h 1 rfl rfl rfl (by kernel_rfl) rfl
  obtain ⟨a,rfl,ha⟩:=bo Tryz.underlying3 h0
  obtain ⟨b,rfl,hb⟩:=jV h1
  exact ⟨⟨a,b⟩,rfl,ha,hb⟩
theorem vb {n:Nat} {v:Value} {y:DataW H × List MemPlace} (h:DataW.trod enc Tryz.prog w base spare held n 171 [v]=some y):∃s:Sl SetM,v=s.v/\nY w w.heap.size s:=by
 obtain ⟨s,hv,h1,h2,h3,h4⟩:=dz SetM.cs (SetM.ok w w.heap.size) (q:=2) (by omega) Tryz.underlying171 (by kernel_rfl) (fun _=>rfl) (fun _ _ _ hl h=>C7 hl h) h
 exact ⟨s,hv,h1,h2,h3,h4⟩

theorem EL {n:Nat} {xs:List Value} {y:DataW H × List MemPlace} (hl:xs.length=3) (h:DataW.trod enc Tryz.prog w base spare held n 178 xs=some y):∃t,xs=EmM.cs t/\EmM.ok w w.heap.size t:=by
 match xs,hl with
 | [c0,c1,c2],_ =>
  obtain ⟨_,_,h0⟩:=ay Tryz.underlying178 h 0 rfl rfl rfl (by kernel_rfl) rfl
  obtain ⟨_,_,h1⟩:=ay Tryz.underlying178 h 1 rfl rfl rfl (by kernel_rfl) rfl
  obtain ⟨_,_,h2⟩:=ay Tryz.underlying178 h 2 rfl rfl rfl (by kernel_rfl) rfl
  obtain ⟨a,rfl,ha⟩:=dp Tryz.underlying5 h0
  obtain ⟨b,rfl,hb⟩:=bo Tryz.underlying3 h1
  obtain ⟨c,rfl,hc⟩:=jV h2
  exact ⟨⟨a,b,c⟩,rfl,ha,hb,hc⟩
theorem yJ {n:Nat} {v:Value} {y:DataW H × List MemPlace} (h:DataW.trod enc Tryz.prog w base spare held n 172 [v]=some y):∃s:Sl EmM,v=s.v/\u7 w w.heap.size s:=by
 obtain ⟨s,hv,h1,h2,h3,h4⟩:=dz EmM.cs (EmM.ok w w.heap.size) (q:=3) (by omega) Tryz.underlying172 (by kernel_rfl) (fun _=>rfl) (fun _ _ _ hl h=>EL hl h) h
 exact ⟨s,hv,h1,h2,h3,h4⟩

theorem EM {n:Nat} {xs:List Value} {y:DataW H × List MemPlace} (hl:xs.length=7) (h:DataW.trod enc Tryz.prog w base spare held n 174 xs=some y):∃t,xs=RuM.cs t/\RuM.ok w w.heap.size t:=by
 match xs,hl with
 | [c0,c1,c2,c3,c4,c5,c6],_ =>
  obtain ⟨_,_,h0⟩:=ay Tryz.underlying174 h 0 rfl rfl rfl (by kernel_rfl) rfl
  obtain ⟨_,_,h1⟩:=ay Tryz.underlying174 h 1 rfl rfl rfl (by kernel_rfl) rfl
  obtain ⟨_,_,h2⟩:=ay Tryz.underlying174 h 2 rfl rfl rfl (by kernel_rfl) rfl
  obtain ⟨_,_,h3⟩:=ay Tryz.underlying174 h 3 rfl rfl rfl (by kernel_rfl) rfl
  obtain ⟨_,_,h4⟩:=ay Tryz.underlying174 h 4 rfl rfl rfl (by kernel_rfl) rfl
  obtain ⟨_,_,h5⟩:=ay Tryz.underlying174 h 5 rfl rfl rfl (by kernel_rfl) rfl
  obtain ⟨_,_,h6⟩:=ay Tryz.underlying174 h 6 rfl rfl rfl (by kernel_rfl) rfl
  obtain ⟨a,rfl,ha⟩:=bo Tryz.underlying3 h0
  obtain ⟨b,rfl,hb⟩:=bo Tryz.underlying3 h1
  obtain ⟨c,rfl,hc⟩:=bo Tryz.underlying3 h2
  obtain ⟨d,rfl,hd⟩:=bo Tryz.underlying3 h3
  obtain ⟨g,rfl,hg⟩:=jV h4
  obtain ⟨s,rfl,hs⟩:=vb h5
  obtain ⟨e,rfl,he⟩:=yJ h6
  exact ⟨⟨a,b,c,d,g,s,e⟩,rfl,⟨ha,hb,hc,hd⟩,hg,hs,he⟩
theorem yK {n:Nat} {v:Value} {y:DataW H × List MemPlace} (h:DataW.trod enc Tryz.prog w base spare held n 22 [v]=some y):∃s:Sl RuM,v=s.v/\yI w w.heap.size s:=by
 obtain ⟨s,hv,h1,h2,h3,h4⟩:=dz RuM.cs (RuM.ok w w.heap.size) (q:=7) (by omega) Tryz.underlying22 (by kernel_rfl) (fun _=>rfl) (fun _ _ _ hl h=>EM hl h) h
 exact ⟨s,hv,h1,h2,h3,h4⟩


theorem Cu {r:Reach} {b0:Nat} {v:Value} {d:DataW H} {p:List MemPlace} (hv:Value.okWide Tryz.prog w r b0 24 v) (h:DataW.Trod enc Tryz.prog w base spare held 24 v d p) :
  ∃(st vs:Int) (s:Sl RuM),v=tabV st vs s/\I64 st/\I64 vs/\yI w w.heap.size s:=by
 obtain ⟨v0,v1,v2,y0,y1,y2,m,rfl,_,_,h0,h1,h2⟩:=open_agg3 Tryz.underlying24 (by kernel_rfl) (by kernel_rfl) hv h
 obtain ⟨a,rfl,ha⟩:=bo Tryz.underlying3 h0
 obtain ⟨b,rfl,hb⟩:=bo Tryz.underlying3 h1
 obtain ⟨c,rfl,hc⟩:=yK h2
 exact ⟨a,b,c,rfl,ha,hb,hc⟩
end
open Go.RowKit

def inB (n a b:Int):Bool:=decide (a<=n) && decide (n<=b)
theorem inB_true {n a b:Int}:inB n a b=true ↔ a<=n/\n<=b:=by simp [inB]
theorem inB_false {n a b:Int}:inB n a b=false ↔ n<a∨b<n:=by
 rw [<- Bool.not_eq_true,inB_true];omega

def idxO (p:Nat->Bool) (n:Nat):Option Nat:=(List.range n).find? p
def idxI (p:Nat->Bool) (n:Nat):Int:=match idxO p n with|some k=>(k:Int)|none => -1
theorem vd {p:Nat->Bool} {n k:Nat} (hk:k<n) (h:p k=true) (hb:∀j,j<k->p j=false):idxO p n=some k:=by
 unfold idxO
 rw [List.find?_range_eq_some]
 exact ⟨h,by simpa using hk,fun j hj=>by simp [hb j hj]⟩
theorem yL {p:Nat->Bool} {n:Nat} (hb:∀j,j<n->p j=false):idxO p n=none:=by
 unfold idxO
 rw [List.find?_eq_none]
 intro x hx
 simp [hb x (by simpa using hx)]
theorem yM {p:Nat->Bool} {n k:Nat} (h:idxO p n=some k):k<n/\p k=true/\∀j,j<k->p j=false:=by
 unfold idxO at h
 rw [List.find?_range_eq_some] at h
 refine ⟨by simpa using h.2.1,h.1,fun j hj=>by simpa using h.2.2 j hj⟩
theorem AQ {p:Nat->Bool} {n:Nat} (h:idxO p n=none):∀j,j<n->p j=false:=by
 unfold idxO at h
 rw [List.find?_eq_none] at h
 intro j hj
 simpa using h j (by simpa using hj)
theorem mf {p:Nat->Bool} {n k:Nat} (hk:k<n) (h:p k=true) (hb:∀j,j<k->p j=false):idxI p n=k:=by unfold idxI;rw [vd hk h hb]
theorem jW {p:Nat->Bool} {n:Nat} (hb:∀j,j<n->p j=false):idxI p n = -1:=by unfold idxI;rw [yL hb]

def anyB (p:Nat->Bool) (n:Nat):Bool:=(idxO p n).isSome
theorem mg (p:Nat->Bool) (n:Nat):decide (0<=idxI p n)=anyB p n:=by
 unfold anyB idxI
 cases h:idxO p n with
 | none=>rfl
 | some k=>simp
theorem anyB_true {p:Nat->Bool} {n:Nat}:anyB p n=true ↔ ∃j,j<n/\p j=true:=by
 unfold anyB
 cases h:idxO p n with
 | none =>
  have:=AQ h
  constructor
  ·intro h;cases h
  ·rintro ⟨j,hj,hp⟩;rw [this j hj] at hp;cases hp
 | some k =>
  have:=yM h
  exact ⟨fun _=>⟨k,this.1,this.2.1⟩,fun _=>rfl⟩
theorem anyB_false {p:Nat->Bool} {n:Nat}:anyB p n=false ↔ ∀j,j<n->p j=false:=by
 rw [<- Bool.not_eq_true,anyB_true]
 constructor
 ·intro h j hj
  cases hp:p j with
  | false=>rfl
  | true=>exact absurd ⟨j,hj,hp⟩ h
 ·rintro h ⟨j,hj,hp⟩
  rw [h j hj] at hp
  cases hp
theorem Cv {p q:Nat->Bool} {n:Nat} (h:∀j,j<n->p j=q j):anyB p n=anyB q n:=by
 rw [Bool.eq_iff_iff,anyB_true,anyB_true]
 exact ⟨fun ⟨j,hj,hp⟩=>⟨j,hj,(h j hj) ▸ hp⟩,fun ⟨j,hj,hp⟩=>⟨j,hj,(h j hj).symm ▸ hp⟩⟩

def rj (l:List SetM):Nat->Int
 | 0=>0
 | k+1=>match l[k]? with|some s=>s.var+1|none=>0

def setX (vs:Int) (l:List SetM) (k:Nat):Bool:=match l[k]? with|some s => !(inB s.var (rj l k) (vs - 1)) || !(mayB s.val.l vs)|none=>true

def emX (vs:Int) (l:List EmM) (k:Nat):Bool:=match l[k]? with|some e=>decide (16<=e.tg) || (!(inB e.ac 0 31) || !(mayB e.arg.l vs))|none=>true
def pQ (vs:Int) (l:List SetM):Bool:=decide (l.length<=8) && !(anyB (setX vs l) l.length)
def emsB (vs:Int) (l:List EmM):Bool:=decide (l.length<=4) && !(anyB (emX vs l) l.length)
def guB (vs:Int) (l:List (Int × Int)):Bool:=decide (l.length=0) || mayB l vs
def ruB (st vs:Int) (r:RuM):Bool:=inB r.fr 0 (st - 1) && (inB r.tt 0 (st - 1) && (inB r.ac 0 31 && (inB r.pa 0 7 && (guB vs r.gu.l && (pQ vs r.se.l && emsB vs r.em.l)))))
def ruX (st vs:Int) (l:List RuM) (k:Nat):Bool:=match l[k]? with|some r => !(ruB st vs r)|none=>true
def rusB (st vs:Int) (l:List RuM):Bool:=decide (l.length<=32) && !(anyB (ruX st vs l) l.length)
def mayT (st vs:Int) (l:List RuM):Bool:=inB st 1 32 && (inB vs 0 8 && rusB st vs l)

def AR (sa ac pa:Int) (vars:List Int) (arg:Int) (r:RuM):Bool:=decide (r.fr=sa) && (decide (r.ac=ac) && (decide (r.pa=pa) && holdsB r.gu.l vars arg))
def takX (sa ac pa:Int) (vars:List Int) (arg:Int) (l:List RuM) (k:Nat):Bool:=match l[k]? with|some r=>AR sa ac pa vars arg r|none=>false
def takI (sa ac pa:Int) (vars:List Int) (arg:Int) (l:List RuM):Int:=idxI (takX sa ac pa vars arg l) l.length
def sO (st vs:Int) (l:List RuM) (vars:List Int):Bool:=decide ((vars.length:Int)=vs) && mayT st vs l
def C8 (st vs:Int) (l:List RuM) (sa ac pa:Int) (vars:List Int) (arg:Int):Int:=if sO st vs l vars then takI sa ac pa vars arg l else -1

def rm (vars:List Int) (arg:Int) (cur:List Int) (s:SetM):Option (List Int):=if (evalR s.val.l vars arg).2=0 then some (cur.set s.var.toNat (evalR s.val.l vars arg).1) else none

def dK (l:List SetM) (vars:List Int) (arg:Int):Nat->Option (List Int)
 | 0=>some vars
 | j+1=>(dK l vars arg j).bind fun cur=>match l[j]? with|some s=>rm vars arg cur s|none=>none

def fh (l:List EmM) (vars:List Int) (arg:Int):Nat->Option (List (Int × Int × Int))
 | 0=>some []
 | j+1=>(fh l vars arg j).bind fun cur=>match l[j]? with|some e=>if (evalR e.arg.l vars arg).2=0 then some (cur++[(e.tg,e.ac,(evalR e.arg.l vars arg).1)]) else none|none=>none
def ve (l:List SetM) (vars:List Int) (arg:Int):Option (List Int):=dK l vars arg l.length
def Ah (l:List EmM) (vars:List Int) (arg:Int):Option (List (Int × Int × Int)):=fh l vars arg l.length

theorem Cw {l:List SetM} {vars:List Int} {arg:Int} {j:Nat} {cur:List Int} {s:SetM} {x:Int} (h:dK l vars arg j=some cur) (hs:l[j]?=some s) (he:evalR s.val.l vars arg=(x,0)) :
  dK l vars arg (j+1)=some (cur.set s.var.toNat x):=by
 unfold dK
 rw [h]
 simp only [Option.bind_some,hs]
 unfold rm
 rw [he]
 rfl
theorem jj {l:List SetM} {vars:List Int} {arg:Int} {k n:Nat} (h:dK l vars arg k=none) (hk:k<=n):dK l vars arg n=none:=by
 induction n with
 | zero =>
      obtain rfl:k=0:=by omega
      exact h
 | succ n ih =>
  by_cases e:k=n+1
  ·rw [<- e];exact h
  ·show (dK l vars arg n).bind _=none
   rw [ih (by omega)]
   rfl
theorem C9 {l:List SetM} {vars:List Int} {arg:Int} {j n:Nat} {cur:List Int} {s:SetM} {x e:Int} (h:dK l vars arg j=some cur) (hs:l[j]?=some s) (he:evalR s.val.l vars arg=(x,e)) (h0:e≠0) (hn:j+1<=n) :
  dK l vars arg n=none:=by
 refine jj (k:=j+1) ?_ hn
 unfold dK
 rw [h]
 simp only [Option.bind_some,hs]
 unfold rm
 rw [he,if_neg h0]
theorem sP {l:List SetM} {vars:List Int} {arg:Int}:∀ {j:Nat} {cur:List Int},dK l vars arg j=some cur->cur.length=vars.length:=by
 intro j
 induction j with
 | zero=>intro cur h;injection h with h;rw [h]
 | succ j ih =>
  intro cur h
  change (dK l vars arg j).bind _=some cur at h
  cases hp:dK l vars arg j with
  | none=>rw [hp] at h;cases h
  | some c =>
   rw [hp] at h
   simp only [Option.bind_some] at h
   cases hl:l[j]? with
   | none=>rw [hl] at h;cases h
   | some s =>
    rw [hl] at h
    simp only [rm] at h
    split at h
    ·injection h with h
     rw [<- h,List.length_set]
     exact ih hp
    ·cases h
theorem Da {l:List EmM} {vars:List Int} {arg:Int} {j:Nat} {cur:List (Int × Int × Int)} {s:EmM} {x:Int} (h:fh l vars arg j=some cur) (hs:l[j]?=some s) (he:evalR s.arg.l vars arg=(x,0)) :
  fh l vars arg (j+1)=some (cur++[(s.tg,s.ac,x)]):=by
 unfold fh
 rw [h]
 simp only [Option.bind_some,hs]
 rw [he]
 rfl
theorem jX {l:List EmM} {vars:List Int} {arg:Int} {k n:Nat} (h:fh l vars arg k=none) (hk:k<=n):fh l vars arg n=none:=by
 induction n with
 | zero =>
      obtain rfl:k=0:=by omega
      exact h
 | succ n ih =>
  by_cases e:k=n+1
  ·rw [<- e];exact h
  ·show (fh l vars arg n).bind _=none
   rw [ih (by omega)]
   rfl
theorem Ed {l:List EmM} {vars:List Int} {arg:Int} {j n:Nat} {cur:List (Int × Int × Int)} {s:EmM} {x e:Int} (h:fh l vars arg j=some cur) (hs:l[j]?=some s) (he:evalR s.arg.l vars arg=(x,e)) (h0:e≠0) (hn:j+1<=n) :
  fh l vars arg n=none:=by
 refine jX (k:=j+1) ?_ hn
 unfold fh
 rw [h]
 simp only [Option.bind_some,hs]
 rw [he,if_neg h0]
theorem vf {l:List EmM} {vars:List Int} {arg:Int}:∀ {j:Nat} {cur:List (Int × Int × Int)},fh l vars arg j=some cur->cur.length=j:=by
 intro j
 induction j with
 | zero=>intro cur h;injection h with h;rw [<- h];rfl
 | succ j ih =>
  intro cur h
  change (fh l vars arg j).bind _=some cur at h
  cases hp:fh l vars arg j with
  | none=>rw [hp] at h;cases h
  | some c =>
   rw [hp] at h
   simp only [Option.bind_some] at h
   cases hl:l[j]? with
   | none=>rw [hl] at h;cases h
   | some s =>
    rw [hl] at h
    simp only at h
    split at h
    ·injection h with h
     rw [<- h,List.length_append,ih hp]
     rfl
    ·cases h

def mh (tt:Int):Option (List Int)->Option (List (Int × Int × Int))->Int × List Int × List (Int × Int × Int) × Int
 | some a,some c=>(tt,a,c,0)
 | _,_=>(0,[],[],18)
theorem AS (tt:Int) (a:List Int) (c:List (Int × Int × Int)):mh tt (some a) (some c)=(tt,a,c,0):=rfl
theorem AU (tt:Int) (c:Option (List (Int × Int × Int))):mh tt none c=(0,[],[],18):=rfl
theorem AV (tt:Int) (a:Option (List Int)):mh tt a none=(0,[],[],18):=by cases a <;> rfl

def vg (st vs:Int) (l:List RuM) (sa ac pa:Int) (vars:List Int) (arg:Int):Int × List Int × List (Int × Int × Int) × Int :=
 if sO st vs l vars then
  match idxO (takX sa ac pa vars arg l) l.length with
  | none=>(0,[],[],13)
  | some k=>match l[k]? with
   | none=>(0,[],[],13)
   | some r=>mh r.tt (ve r.se.l vars arg) (Ah r.em.l vars arg)
 else (0,[],[],10)

theorem jY {st vs:Int} {l:List RuM} {k:Nat} {r:RuM} (h:mayT st vs l=true) (hr:l[k]?=some r):ruB st vs r=true:=by
 unfold mayT rusB at h
 simp only [Bool.and_eq_true,decide_eq_true_eq,Bool.not_eq_true'] at h
 have:=anyB_false.1 h.2.2.2 k (List.getElem?_eq_some_iff.1 hr).1
 unfold ruX at this
 rw [hr] at this
 simpa using this
theorem yN {st vs:Int} {l:List RuM} (h:mayT st vs l=true):(1<=st/\st<=32)/\(0<=vs/\vs<=8)/\l.length<=32:=by
 unfold mayT rusB at h
 simp only [Bool.and_eq_true,decide_eq_true_eq] at h
 exact ⟨inB_true.1 h.1,inB_true.1 h.2.1,h.2.2.1⟩
theorem jZ {st vs:Int} {r:RuM} (h:ruB st vs r=true):(0<=r.fr/\r.fr<=st - 1)/\(0<=r.tt/\r.tt<=st - 1)/\(0<=r.ac/\r.ac<=31)/\(0<=r.pa/\r.pa<=7)/\guB vs r.gu.l=true/\pQ vs r.se.l=true/\emsB vs r.em.l=true:=by
 unfold ruB at h
 simp only [Bool.and_eq_true] at h
 exact ⟨inB_true.1 h.1,inB_true.1 h.2.1,inB_true.1 h.2.2.1,inB_true.1 h.2.2.2.1,h.2.2.2.2.1,h.2.2.2.2.2.1,h.2.2.2.2.2.2⟩
theorem vh {vs:Int} {l:List SetM} (h:pQ vs l=true):l.length<=8:=by
 unfold pQ at h
 simp only [Bool.and_eq_true,decide_eq_true_eq] at h
 exact h.1
theorem rn {vs:Int} {l:List EmM} (h:emsB vs l=true):l.length<=4:=by
 unfold emsB at h
 simp only [Bool.and_eq_true,decide_eq_true_eq] at h
 exact h.1
theorem mj {vs:Int} {l:List SetM} {k:Nat} {s:SetM} (h:pQ vs l=true) (hs:l[k]?=some s):(rj l k<=s.var/\s.var<=vs - 1)/\mayB s.val.l vs=true:=by
 unfold pQ at h
 simp only [Bool.and_eq_true,Bool.not_eq_true'] at h
 have h2:=anyB_false.1 h.2 k (List.getElem?_eq_some_iff.1 hs).1
 unfold setX at h2
 rw [hs] at h2
 simp only [Bool.or_eq_false_iff,Bool.not_eq_false'] at h2
 exact ⟨inB_true.1 h2.1,h2.2⟩
theorem vi {vs:Int} {l:List EmM} {k:Nat} {s:EmM} (h:emsB vs l=true) (hs:l[k]?=some s):s.tg<16/\(0<=s.ac/\s.ac<=31)/\mayB s.arg.l vs=true:=by
 unfold emsB at h
 simp only [Bool.and_eq_true,Bool.not_eq_true'] at h
 have h2:=anyB_false.1 h.2 k (List.getElem?_eq_some_iff.1 hs).1
 unfold emX at h2
 rw [hs] at h2
 simp only [Bool.or_eq_false_iff,Bool.not_eq_false',decide_eq_false_iff_not] at h2
 exact ⟨by omega,inB_true.1 h2.2.1,h2.2.2⟩
theorem Db:∀ {vs:Int} {l:List SetM} {k:Nat} {s:SetM},pQ vs l=true->l[k]?=some s->0<=s.var/\s.var<vs:=by
 intro vs l k
 induction k with
 | zero =>
  intro s h hs
  have:=(mj h hs).1
  have e:rj l 0=0:=rfl
  omega
 | succ k ih =>
  intro s h hs
  have:=(mj h hs).1
  have hk:k<l.length:=by have:=(List.getElem?_eq_some_iff.1 hs).1;omega
  have hp:=ih (s:=l[k]) h (List.getElem?_eq_getElem hk)
  have e:rj l (k+1)=l[k].var+1:=by
   show (match l[k]? with|some s=>s.var+1|none=>0)=_
   rw [List.getElem?_eq_getElem hk]
  omega

def natB (n:Int):List UInt8:=numB n.toNat
def cU (l:List Int):List UInt8:=l.flatMap natB
def tokB (t:Int × Int):List UInt8:=natB t.1++intB t.2
def fmlB (l:List (Int × Int)):List UInt8:=natB l.length++l.flatMap tokB
def yO (s:SetM):List UInt8:=natB s.var++fmlB s.val.l
def emBy (e:EmM):List UInt8:=natB e.tg++(natB e.ac++fmlB e.arg.l)
def vj (l:List SetM):List UInt8:=natB l.length++l.flatMap yO
def AW (l:List EmM):List UInt8:=natB l.length++l.flatMap emBy
def ruBy (r:RuM):List UInt8:=natB r.fr++(natB r.ac++(natB r.pa++(natB r.tt++(fmlB r.gu.l++(vj r.se.l++AW r.em.l)))))
def EN (st vs:Int) (l:List RuM):List UInt8:=natB st++(natB vs++(natB l.length++l.flatMap ruBy))

theorem aL (n:Int) (h:n<=9223372036854775807):(natB n).length<=10:=av _ (by omega)
theorem dL (n:Int) (h:I64 n):(intB n).length<=10:=by
 unfold I64 at h
 exact av _ (jv n h.1 h.2)
theorem cV {α:Type} {f:α->List UInt8} {q:Nat}:∀(l:List α),(∀x∈l,(f x).length<=q)->(l.flatMap f).length<=q * l.length:=by
 intro l
 induction l with
 | nil=>intro _;simp
 | cons x l ih =>
  intro h
  have h1:=h x (by simp)
  have h2:=ih fun y hy=>h y (by simp [hy])
  rw [List.flatMap_cons,List.length_append,List.length_cons,Nat.mul_succ]
  omega
theorem yP (t:Int × Int) (h:pO t):(tokB t).length<=20:=by
 unfold tokB
 rw [List.length_append]
 have h1:=aL t.1 (by have:=h.2.1;omega)
 have h2:=dL t.2 h.2.2
 omega
theorem mm (l:List (Int × Int)) (h:∀t∈l,pO t) (h1:l.length<=24):(fmlB l).length<=490:=by
 unfold fmlB
 rw [List.length_append]
 have h2:=aL l.length (by omega)
 have h3:=cV l fun t ht=>yP t (h t ht)
 omega

theorem vk {α:Type} {l:List α} {k:Nat} {x:α} (h:l[k]?=some x):l.take (k+1)=l.take k++[x]:=by
 obtain ⟨hk,hx⟩:=List.getElem?_eq_some_iff.1 h
 rw [List.take_succ_eq_append_getElem hk,hx]
theorem dY {α:Type} {f:α->List UInt8} {l:List α} {k:Nat} {x:α} (h:l[k]?=some x):(l.take (k+1)).flatMap f=(l.take k).flatMap f++f x:=by
 rw [vk h,List.flatMap_append]
 simp
theorem cG {α:Type} {f:α->List UInt8} {q:Nat} (l:List α) (h:∀x∈l,(f x).length<=q) (k:Nat):((l.take k).flatMap f).length<=q * l.length:=by
 have h1:=cV (l.take k) fun x hx=>h x (List.mem_of_mem_take hx)
 have h2:(l.take k).length<=l.length:=by rw [List.length_take];omega
 exact Nat.le_trans h1 (Nat.mul_le_mul_left q h2)

theorem mn {l:List (Int × Int)} {vs:Int} (h:mayB l vs=true):l.length<=24:=(mayB_true h).1
theorem AX {l:List (Int × Int)} {vs:Int} (h:guB vs l=true):l.length<=24:=by
 unfold guB at h
 simp only [Bool.or_eq_true,decide_eq_true_eq] at h
 rcases h with h|h
 ·omega
 ·exact mn h
theorem vm {w:World} {B:Nat} {s:SetM} (hs:SetM.ok w B s) (h:s.val.l.length<=24):(yO s).length<=500:=by
 unfold yO
 rw [List.length_append]
 have h1:=aL s.var hs.1.2
 have h2:=mm s.val.l hs.2.2.2.2 h
 omega
theorem yQ {w:World} {B:Nat} {e:EmM} (hs:EmM.ok w B e) (h:e.arg.l.length<=24):(emBy e).length<=510:=by
 unfold emBy
 rw [List.length_append,List.length_append]
 have h1:=aL e.tg (by have:=hs.1.2;omega)
 have h3:=aL e.ac hs.2.1.2
 have h2:=mm e.arg.l hs.2.2.2.2.2 h
 omega

def RuS (r:RuM):Prop:=r.gu.l.length<=24/\(r.se.l.length<=8/\∀s∈r.se.l,s.val.l.length<=24)/\(r.em.l.length<=4/\∀e∈r.em.l,e.arg.l.length<=24)
theorem E6 {st vs:Int} {r:RuM} (h:ruB st vs r=true):RuS r:=by
 obtain ⟨-, -, -, -,hg,hs,he⟩:=jZ h
 refine ⟨AX hg,⟨vh hs,fun s hm => ?_⟩,⟨rn he,fun e hm => ?_⟩⟩
 ·obtain ⟨k,hk,rfl⟩:=List.getElem_of_mem hm
  exact mn (mj hs (List.getElem?_eq_getElem hk)).2
 ·obtain ⟨k,hk,rfl⟩:=List.getElem_of_mem hm
  exact mn (vi he (List.getElem?_eq_getElem hk)).2.2
theorem sQ {w:World} {B:Nat} {s:Sl SetM} (hs:nY w B s) (h:s.l.length<=8/\∀x∈s.l,x.val.l.length<=24):(vj s.l).length<=4010:=by
 unfold vj
 rw [List.length_append]
 have h1:=aL s.l.length (by omega)
 have h2:=cV (f:=yO) s.l fun x hx=>vm (hs.2.2.2 x hx) (h.2 x hx)
 omega
theorem vn {w:World} {B:Nat} {s:Sl EmM} (hs:u7 w B s) (h:s.l.length<=4/\∀x∈s.l,x.arg.l.length<=24):(AW s.l).length<=2050:=by
 unfold AW
 rw [List.length_append]
 have h1:=aL s.l.length (by omega)
 have h2:=cV (f:=emBy) s.l fun x hx=>yQ (hs.2.2.2 x hx) (h.2 x hx)
 omega
theorem Ee {w:World} {B:Nat} {r:RuM} (hs:RuM.ok w B r) (h:RuS r):(ruBy r).length<=7000:=by
 unfold ruBy
 simp only [List.length_append]
 obtain ⟨⟨i1,i2,i3,i4⟩,h1,h2,h3⟩:=hs
 have a1:=aL r.fr i1.2
 have a2:=aL r.ac i2.2
 have a3:=aL r.pa i3.2
 have a4:=aL r.tt i4.2
 have a5:=mm r.gu.l h1.2.2.2 h.1
 have a6:=sQ h2 h.2.1
 have a7:=vn h3 h.2.2
 omega
end Go.Proofs.YtnkjdijbfnmnhaaGreat
