/-
  Texts of this claim put together: Jm.
-/
import Derived.Test.YtnkjdijbfnmnhaaGreatJ07
import Derived.Test.YtnkjdijbfnmnhaaGreatJ21
import Derived.Test.YtnkjdijbfnmnhaaGreatJ45

namespace Go.Proofs.YtnkjdijbfnmnhaaGreat
open Go.RowKit

theorem lI (k:Nat):(List.replicate k (0:UInt8)).length=k:=List.length_replicate

def secN (m n:Nat):Nat:=(m+n - 1) / n
theorem qI {m n:Nat} (h:0<n):m<=secN m n * n:=by
 have h1:=Nat.div_add_mod (m+n - 1) n
 have h2:=Nat.mod_lt (m+n - 1) h
 unfold secN
 rw [Nat.mul_comm]
 omega
theorem qJ {m n:Nat} (h:0<n):secN m n * n<m+n:=by
 have h1:=Nat.div_add_mod (m+n - 1) n
 unfold secN
 rw [Nat.mul_comm]
 omega
theorem r8 {m n:Nat} (h:0<n) (hm:0<m):1<=secN m n:=by
 unfold secN
 rw [Nat.le_div_iff_mul_le h]
 omega
theorem nw {m n:Nat} (hm:0<m) (h:m<=n):secN m n=1:=by
 unfold secN
 rw [Nat.div_eq_iff (by omega)]
 omega

def kX (m:Nat):List UInt8:=dH [UInt8.ofNat (m / 256),UInt8.ofNat m]
theorem headB_len (m:Nat):(kX m).length=6:=by rw [kX,markB_length];rfl

def frameB (b:List UInt8) (n:Nat):List UInt8:=kX (b.length+4)++(dH b++List.replicate (secN (b.length+10) n * n - (b.length+10)) 0)
theorem ct {b:List UInt8} {n:Nat} (h:0<n):(frameB b n).length=secN (b.length+10) n * n:=by
 have:=qI (m:=b.length+10) h
 rw [frameB,List.length_append,List.length_append,headB_len,markB_length,lI]
 omega
theorem qK {b:List UInt8} {n:Nat}:(frameB b n).take 6=kX (b.length+4):=by
 rw [frameB,List.take_append_of_le_length (by rw [headB_len];exact Nat.le_refl _),List.take_of_length_le (by rw [headB_len];exact Nat.le_refl _)]
theorem tO {b:List UInt8} {n:Nat}:((frameB b n).take (b.length+10)).drop 6=dH b:=by
 rw [List.drop_take,frameB,List.drop_append_of_le_length (by rw [headB_len];exact Nat.le_refl _),List.drop_of_length_le (by rw [headB_len];exact Nat.le_refl _),List.nil_append,
  List.take_append_of_le_length (by rw [markB_length];omega),List.take_of_length_le (by rw [markB_length];omega)]

def secs (kept:Nat->List UInt8) (a k:Nat):List UInt8:=(List.range k).flatMap fun i=>kept (a+i)
theorem ku (kept:Nat->List UInt8) (a:Nat):secs kept a 0=[]:=rfl
theorem secs_succ (kept:Nat->List UInt8) (a k:Nat):secs kept a (k+1)=secs kept a k++kept (a+k):=by
 unfold secs
 rw [List.range_succ,List.flatMap_append]
 simp
theorem secs_one (kept:Nat->List UInt8) (a:Nat):secs kept a 1=kept a:=by rw [secs_succ];rfl
theorem fU {kept:Nat->List UInt8} {n:Nat} (h:∀i,(kept i).length=n) (a:Nat):∀k,(secs kept a k).length=k * n
 | 0=>by simp [secs]
 | k+1=>by rw [secs_succ,List.length_append,fU h a k,h,Nat.succ_mul]
theorem secs_add (kept:Nat->List UInt8) (a j:Nat):∀k,secs kept a (j+k)=secs kept a j++secs kept (a+j) k
 | 0=>by simp [ku]
 | k+1=>by rw [<- Nat.add_assoc,secs_succ,secs_add kept a j k,secs_succ,List.append_assoc,Nat.add_assoc]
theorem oZ {kept:Nat->List UInt8} {n:Nat} (h:∀i,(kept i).length=n) (a j k:Nat):(secs kept a (j+k)).take (j * n)=secs kept a j:=by
 rw [secs_add,List.take_append_of_le_length (by rw [fU h];exact Nat.le_refl _),List.take_of_length_le (by rw [fU h];exact Nat.le_refl _)]
theorem xB {kept:Nat->List UInt8} {n:Nat} (h:∀i,(kept i).length=n) (a j k:Nat):(secs kept a (j+k)).drop (j * n)=secs kept (a+j) k:=by
 rw [secs_add,List.drop_append_of_le_length (by rw [fU h];exact Nat.le_refl _),List.drop_of_length_le (by rw [fU h];exact Nat.le_refl _),List.nil_append]
theorem lJ {kept kept':Nat->List UInt8} {a:Nat}:∀ {k:Nat},(∀i,i<k->kept' (a+i)=kept (a+i))->secs kept' a k=secs kept a k
 | 0,_=>rfl
 | k+1,h=>by rw [secs_succ,secs_succ,lJ fun i hi=>h i (by omega),h k (by omega)]

theorem kv {kept:Nat->List UInt8} {a n:Nat} {F:List UInt8}:∀ {k:Nat},(∀i,i<k->kept (a+i)=(F.drop (i * n)).take n)->secs kept a k=F.take (k * n)
 | 0,_=>by simp [ku]
 | k+1,h=>by
  rw [secs_succ,kv fun i hi=>h i (by omega),h k (by omega),Nat.succ_mul,List.take_add]

def jrecB (g i:Nat) (r:List UInt8):List UInt8:=numB g++numB i++rowB r

def framesB (g n:Nat):Nat->List (List UInt8)->List UInt8
 | _,[]=>[]
 | i,r::rs=>frameB (jrecB g i r) n++framesB g n (i+1) rs
def recN (g n i:Nat) (r:List UInt8):Nat:=secN ((jrecB g i r).length+10) n
def usedN (g n:Nat):Nat->List (List UInt8)->Nat
 | _,[]=>0
 | i,r::rs=>recN g n i r+usedN g n (i+1) rs
theorem cE {g n:Nat} (h:0<n):∀(i:Nat) (l:List (List UInt8)),(framesB g n i l).length=usedN g n i l * n
 | _,[]=>by simp [framesB,usedN]
 | i,r::rs=>by rw [framesB,List.length_append,ct h,cE h (i+1) rs,usedN,recN,Nat.add_mul]
theorem framesB_app {g n:Nat}:∀(i:Nat) (l m:List (List UInt8)),framesB g n i (l++m)=framesB g n i l++framesB g n (i+l.length) m
 | i,[],m=>by simp [framesB]
 | i,r::rs,m=>by
  rw [List.cons_append,framesB,framesB,framesB_app (i+1) rs m,List.append_assoc,List.length_cons]
  congr 3
  omega
theorem usedN_app {g n:Nat}:∀(i:Nat) (l m:List (List UInt8)),usedN g n i (l++m)=usedN g n i l+usedN g n (i+l.length) m
 | i,[],m=>by simp [usedN]
 | i,r::rs,m=>by
  rw [List.cons_append,usedN,usedN,usedN_app (i+1) rs m,List.length_cons,show i+1+rs.length=i+(rs.length+1) from by omega]
  omega
theorem nx {g n i:Nat} (h:0<n) (r:List UInt8):1<=recN g n i r:=r8 h (by omega)
theorem ny {g n:Nat} (h:0<n):∀(i:Nat) (l:List (List UInt8)),l.length<=usedN g n i l
 | _,[]=>Nat.zero_le _
 | i,r::rs=>by
  have h1:=nx (g:=g) (i:=i) h r
  have h2:=ny (g:=g) h (i+1) rs
  rw [usedN,List.length_cons]
  omega

def bF (t g k:Nat):List UInt8:=numB t++numB g++numB k
def aI (c:Nat):Nat:=(c - 2) / 2
def bw (c g:Nat):Nat:=2+g % 2 * aI c
theorem hO {t g k:Nat} (ht:t<18446744073709551616) (hg:g<18446744073709551616) (hk:k<18446744073709551616):(bF t g k).length<=30:=by
 have h1:=av t ht
 have h2:=av g hg
 have h3:=av k hk
 rw [bF,List.length_append,List.length_append]
 omega
theorem fv {g i:Nat} {r:List UInt8} (hg:g<18446744073709551616) (hi:i<18446744073709551616) (hr:r.length<=100000):(jrecB g i r).length<=r.length+30:=by
 have h1:=av g hg
 have h2:=av i hi
 have h3:=av r.length (by omega)
 rw [jrecB,rowB,List.length_append,List.length_append,List.length_append]
 omega
theorem o0 {c g:Nat}:bw c g+aI c<=c∨c<2:=by
 have:g % 2=0∨g % 2=1:=by omega
 unfold bw aI
 rcases this with e|e <;> rw [e] <;> omega

structure JS where
 m:Nat
 gen:Nat
 recs:List (List UInt8)
def JS.used (S:JS) (n:Nat):Nat:=usedN S.gen n 1 S.recs

structure Fits13 (D:Dk) (S:JS):Prop where
 calm:D.calm
 w:D.waits=[]
 c6:6<=D.c
 seals:(S.m=0/\S.gen=0/\S.recs=[]/\D.kept 0=List.replicate D.n 0/\D.kept 1=List.replicate D.n 0)∨(0<S.m/\D.kept 0=frameB (bF (2 * S.m) S.gen S.recs.length) D.n/\D.kept 1=frameB (bF (2 * S.m - 1) S.gen S.recs.length) D.n)
 area:secs D.kept (bw D.c S.gen) (S.used D.n)=framesB S.gen D.n 1 S.recs
 fit:S.used D.n<=aI D.c
 recs:∀r∈S.recs,r.length<=2048
 small:S.m<=1000/\S.gen<=1000
theorem Fits13.make {n c:Nat} (h:6<=c):Fits13 (ip n c) ⟨0,0,[]⟩ :=
 ⟨xz n c,rfl,h, .inl ⟨rfl,rfl,rfl,rfl,rfl⟩,rfl,Nat.zero_le _,fun r hr=>by simp at hr,by simp⟩
theorem Fits13.many {D:Dk} {S:JS} (h:Fits13 D S) (hn:0<D.n) (hc:D.c<=4096):S.recs.length<=2047:=by
 have h1:=ny (g:=S.gen) hn 1 S.recs
 have h2:=h.fit
 unfold JS.used aI at h2
 omega

def cP (F:List UInt8) (n i:Nat):List UInt8:=(F.drop (i * n)).take n
def dF (D:Dk) (a:Nat) (F:List UInt8) (k:Nat):Dk:={ D with waits:=(List.range k).map fun i=>(a+i,cP F D.n i) }

def bO (D:Dk) (a:Nat) (F:List UInt8):Dk:={ D with kept:=fun j=>if a<=j/\j<a+F.length / D.n then cP F D.n (j - a) else D.kept j,waits:=[] }
theorem hZ {F:List UInt8} {n i q:Nat} (hF:F.length=q * n) (hi:i<q):(cP F n i).length=n:=by
 unfold cP
 rw [List.length_take,List.length_drop,hF,<- Nat.sub_mul]
 have:n * 1<=n * (q - i):=Nat.mul_le_mul_left n (by omega)
 rw [Nat.mul_comm (q - i) n]
 omega
theorem CI {D:Dk} (h:D.waits=[]) (a:Nat) (F:List UInt8):dF D a F 0=D:=by
 unfold dF
 simp [<- h]
theorem tP {D:Dk} (h:D.calm) (a:Nat) (F:List UInt8) (k:Nat):(dF D a F k).calm:=h
theorem Cg {D:Dk} (h:D.calm) {a k q:Nat} {F:List UInt8} (hF:F.length=q * D.n) (hk:k<q) (hq:a+q<=D.c) :
  errD (dF D a F k) ((a+k:Nat):Int) (cP F D.n k).length=0/\dj (dF D a F k) ((a+k:Nat):Int) (cP F D.n k)=dF D a F (k+1):=by
 have hr:cF (dF D a F k) ((a+k:Nat):Int)=0:=nu (show (dF D a F k).on=true from h.1) (by omega) (show ((a+k:Nat):Int)<(D.c:Int) from by omega)
 have hl:=hZ hF hk
 have hb:dh (dF D a F k)=false:=by
  rw [dh,show (dF D a F k).hf=false from h.2]
  rfl
 refine ⟨by rw [errD,if_pos hr,if_pos (show (cP F D.n k).length=(dF D a F k).n from hl),if_neg (by rw [hb];simp)],?_⟩
 rw [dj,if_pos hr,if_pos (show (cP F D.n k).length=(dF D a F k).n from hl),burnD,if_neg (by rw [show (dF D a F k).hf=false from h.2];simp)]
 unfold dF
 simp [List.range_succ]
 omega
theorem kw {a n q:Nat} {F:List UInt8} {kept:Nat->List UInt8} (hk:∀i,(kept i).length=n) (hF:F.length=q * n):∀k,k<=q->∀j,
  (((List.range k).map fun i=>(a+i,cP F n i)).foldl put1 kept) j=if a<=j/\j<a+k then cP F n (j - a) else kept j
 | 0,_,j=>by simp;omega
 | k+1,h,j=>by
  have hlen:∀i,((((List.range k).map fun i=>(a+i,cP F n i)).foldl put1 kept) i).length=n:=lZ _ hk fun q hq=>by
   obtain ⟨i,hi,rfl⟩:=List.mem_map.1 hq
   rw [List.mem_range] at hi
   simp only [hZ hF (show i<_ from by omega)]
   exact Nat.le_refl _
  rw [List.range_succ,List.map_append,List.foldl_append]
  simp only [List.map_cons,List.map_nil,List.foldl_cons,List.foldl_nil]
  unfold put1
  by_cases e:j=a+k
  ·rw [if_pos e,List.drop_of_length_le (by rw [show (a+k,cP F n k).2.length=n from hZ hF (by omega)];have:=hlen j;unfold put1 at this;omega),List.append_nil,if_pos (by omega),e,show a+k - a=k from by omega]
  ·rw [if_neg e]
   have:=kw (a:=a) hk hF k (by omega) j
   unfold put1 at this
   rw [this]
   by_cases h2:a<=j/\j<a+k
   ·rw [if_pos h2,if_pos (by omega)]
   ·rw [if_neg h2,if_neg (by omega)]
theorem xC (n:Nat) (ws:List (Nat × List UInt8)):f8 n ws.length false ws=ws:=by
 apply List.ext_getElem?
 intro j
 rw [staysL_get]
 by_cases h:j<ws.length
 ·rw [if_pos h,List.getElem?_eq_getElem h]
  simp [cutW]
 ·rw [if_neg h,List.getElem?_eq_none (by omega)]
theorem tQ {D:Dk} (h:D.calm) (ho:D.ok) {a q:Nat} {F:List UInt8} (hF:F.length=q * D.n):kS (dF D a F q)=0/\gn (dF D a F q)=bO D a F:=by
 obtain ⟨h1,h2⟩:=oY (tP h a F q)
 refine ⟨h1,?_⟩
 have hn:=ho.n1
 rw [h2,decideD,xC]
 unfold bO dF
 simp only
 congr 1
 funext j
 rw [kw ho.k hF q (Nat.le_refl _),hF,Nat.mul_div_cancel _ (by omega)]
theorem dG {D:Dk} (h:D.calm) (a:Nat) (F:List UInt8):(bO D a F).calm:=h
theorem fV {D:Dk} {a b k:Nat} {F:List UInt8} (h:b+k<=a∨a+F.length / D.n<=b):secs (bO D a F).kept b k=secs D.kept b k:=lJ fun i hi=>by
 show (if a<=b+i/\b+i<a+F.length / D.n then _ else D.kept (b+i))=_
 rw [if_neg (by omega)]
theorem kx {D:Dk} (ho:0<D.n) {a q:Nat} {F:List UInt8} (hF:F.length=q * D.n):secs (bO D a F).kept a q=F:=by
 rw [kv (F:=F) (n:=D.n) fun i hi => ?_,<- hF,List.take_length]
 show (if a<=a+i/\a+i<a+F.length / D.n then cP F D.n (a+i - a) else _)=_
 rw [hF,Nat.mul_div_cancel _ ho,if_pos (by omega),show a+i - a=i from by omega]
 rfl

theorem Fits13.next {D:Dk} {S S':JS} (h:Fits13 D S) (ho:D.ok) {F:List UInt8} {k q:Nat} (hm:S'.m=S.m+1) (hsm:S'.m<=1000/\S'.gen<=1000) (hr:∀r∈S'.recs,r.length<=2048)
  (hF:F.length=q * D.n) (hfit:k+q<=aI D.c) (hu:S'.used D.n=k+q) (hb:secs D.kept (bw D.c S'.gen) k++F=framesB S'.gen D.n 1 S'.recs) :
  Fits13 (bO (bO (bO D (bw D.c S'.gen+k) F) 1 (frameB (bF (2 * S.m+1) S'.gen S'.recs.length) D.n)) 0 (frameB (bF (2 * S.m+2) S'.gen S'.recs.length) D.n)) S':=by
 have hn:=ho.n1
 have hc:=ho.c2
 have hl:S'.recs.length<=2047:=by
  have h1:=ny (g:=S'.gen) (n:=D.n) (by omega) 1 S'.recs
  unfold JS.used at hu
  unfold aI at hfit
  omega
 have one:∀t,t<=3000->(frameB (bF t S'.gen S'.recs.length) D.n).length=1 * D.n:=fun t ht=>by
  have:=hO (t:=t) (g:=S'.gen) (k:=S'.recs.length) (by omega) (by omega) (by omega)
  rw [ct (by omega),nw (by omega) (by omega)]
 have hs:=h.small
 have f1:=one (2 * S.m+1) (by omega)
 have f2:=one (2 * S.m+2) (by omega)
 have hfr:2<=bw D.c S'.gen:=by unfold bw;omega
 obtain ⟨D1,hD1⟩:∃D1,bO D (bw D.c S'.gen+k) F=D1:=⟨_,rfl⟩
 have e1:D1.n=D.n:=by rw [<- hD1];rfl
 obtain ⟨D2,hD2⟩:∃D2,bO D1 1 (frameB (bF (2 * S.m+1) S'.gen S'.recs.length) D.n)=D2:=⟨_,rfl⟩
 have e2:D2.n=D.n:=by rw [<- hD2];exact e1
 rw [hD1,hD2]
 refine ⟨?_,rfl,?_, .inr ⟨by omega,?_,?_⟩,?_,?_,hr,hsm⟩
 ·have c1:=dG (dG (dG h.calm (bw D.c S'.gen+k) F) 1 (frameB (bF (2 * S.m+1) S'.gen S'.recs.length) D.n)) 0 (frameB (bF (2 * S.m+2) S'.gen S'.recs.length) D.n)
  rwa [hD1,hD2] at c1
 ·show 6<=D2.c
  rw [<- hD2,<- hD1]
  exact h.c6
 ·have:=kx (D:=D2) (a:=0) (q:=1) (F:=frameB (bF (2 * S.m+2) S'.gen S'.recs.length) D.n) (by omega) (by rw [e2];exact f2)
  rw [secs_one] at this
  rw [this,hm,show (bO D2 0 (frameB (bF (2 * S.m+2) S'.gen S'.recs.length) D.n)).n=D.n from e2]
  rfl
 ·rw [<- secs_one (bO D2 0 (frameB (bF (2 * S.m+2) S'.gen S'.recs.length) D.n)).kept 1,fV (D:=D2) (by rw [e2,f2];right;rw [Nat.mul_div_cancel _ (by omega)];exact Nat.le_refl _),<- hD2,
   kx (by omega) (by rw [e1];exact f1),hm,hD2,show (bO D2 0 (frameB (bF (2 * S.m+2) S'.gen S'.recs.length) D.n)).n=D.n from e2]
  rfl
 ·show secs (bO D2 0 _).kept (bw D2.c S'.gen) (S'.used D2.n)=framesB S'.gen D2.n 1 S'.recs
  have ec:D2.c=D.c:=by rw [<- hD2,<- hD1];rfl
  rw [e2,ec,hu,fV (by rw [e2,f2];right;rw [Nat.mul_div_cancel _ (by omega)];omega),<- hD2,
   fV (by rw [e1,f1];right;rw [Nat.mul_div_cancel _ (by omega)];omega),<- hD1,secs_add,fV (.inl (Nat.le_refl _)),kx (by omega) hF]
  exact hb
 ·show S'.used D2.n<=aI D2.c
  have ec:D2.c=D.c:=by rw [<- hD2,<- hD1];rfl
  rw [e2,ec,hu]
  exact hfit
end Go.Proofs.YtnkjdijbfnmnhaaGreat
