/-
  Texts of this claim put together: MapB, Dk.
-/
import Derived.Test.YtnkjdijbfnmnhaaGreatRows
import Derived.Test.YtnkjdijbfnmnhaaGreatJ04
import Derived.Maps.OwnSet
import Derived.KernelRfl

namespace Go.Proofs.YtnkjdijbfnmnhaaGreat
open Go.RowKit
open Go.Maps (Keyed IsMap)

def io (K:Nat->Option Nat) (c:Nat):Nat:=(List.range c).countP fun i=>(K i).isSome
def eB (K:Nat->Option Nat) (i g:Nat):Nat->Option Nat:=fun j=>if j=i then some g else K j
theorem yC (K:Nat->Option Nat) (c:Nat):io K c<=c:=by
 unfold io
 have:=List.countP_le_length (p:=fun i=>(K i).isSome) (l:=List.range c)
 simpa using this
theorem sK (c:Nat):io (fun _=>none) c=0:=by
 unfold io
 simp
theorem nS {K:Nat->Option Nat} {i g:Nat} (hK:K i=none):∀c,i<c->io (eB K i g) c=io K c+1
 | 0,h=>absurd h (by omega)
 | c+1,h=>by
  have hs:∀K':Nat->Option Nat,io K' (c+1)=io K' c+(if (K' c).isSome then 1 else 0):=by
   intro K'
   unfold io
   rw [List.range_succ,List.countP_append]
   simp [List.countP_cons]
  rw [hs,hs]
  by_cases hc:i=c
  ·subst hc
   have e1:io (eB K i g) i=io K i:=by
    unfold io
    refine List.countP_congr fun j hj => ?_
    have hj':j≠i:=by
     have:=List.mem_range.1 hj
     omega
    simp [eB,hj']
   rw [e1]
   simp [eB,hK]
  ·have ih:=nS (g:=g) hK c (by omega)
   have e2:eB K i g c=K c:=by
    unfold eB
    rw [if_neg (fun e=>hc e.symm)]
   rw [ih,e2]
   omega

def nT (n:Nat):Value->Option (DataW Unit × List MemPlace)
 | .slice (some ⟨g,o,s⟩) k c=>if o=0/\s=none/\k=n/\c=n then some (.lit (.int .i64 g),[]) else none
 | .slice none k c=>if k=0/\c=0 then some (.nil,[]) else none
 | _=>none
theorem yD (n g:Nat):nT n (.slice (some ⟨g,0,none⟩) n n)=some (.lit (.int .i64 g),[]):=by simp [nT]
theorem nU (n:Nat):nT n (.slice none 0 0)=some (.nil,[]):=by simp [nT]
theorem uQ {n:Nat} {v:Value} {z:DataW Unit × List MemPlace} (h:nT n v=some z):(∃g,v = .slice (some ⟨g,0,none⟩) n n/\z=(.lit (.int .i64 g),[]))∨(v = .slice none 0 0/\z=(.nil,[])):=by
 unfold nT at h
 split at h
 ·split at h
  ·rename_i hc
   obtain ⟨rfl,rfl,rfl,rfl⟩:=hc
   cases h
   exact .inl ⟨_,rfl,rfl⟩
  ·cases h
 ·split at h
  ·rename_i hc
   obtain ⟨rfl,rfl⟩:=hc
   cases h
   exact .inr ⟨rfl,rfl⟩
  ·cases h
 ·cases h

def at12 (n:Nat) (K:Nat->Option Nat) (i:Nat):Value:=match K i with|some g => .slice (some ⟨g,0,none⟩) n n|none => .slice none 0 0

def MapIs (w:World) (m n c:Nat) (K:Nat->Option Nat):Prop :=
 ∃D:DataW Unit,w.ownsMap Tryz.prog 3 (nT n) m (io K c) D /\
  ∀i:Nat,i<2 ^ 63->Maps.has D (.int .i64 i)=(K i).isSome/\D.atKey (.int .i64 i) .nil=(match K i with|some g => .lit (.int .i64 g)|none => .nil)

theorem uR:Keyed Tryz.prog 3:=Maps.int_keyed Tryz.underlying3
theorem uS (w:World):(zeroValue 50).run Tryz.prog w = .ok (.slice none 0 0) w:=by kernel_rfl
theorem jR (i:Nat) (hi:i<2 ^ 63):keyOf Tryz.prog 3 (.int .i64 (i:Int))=some (.int .i64 (i:Int)) :=
 Maps.keyOf_int_mk Tryz.underlying3 (by simp [Lit.wf,IntKind.min,IntKind.max,IntKind.signed,IntKind.bits];omega)

theorem MapIs.made (w:World) (n c:Nat):MapIs (w.alloc (.map #[] 0)) w.heap.size n c fun _=>none:=by
 refine ⟨.map [],?_,fun i _=>⟨by simp [Maps.has],by simp [DataW.atKey]⟩⟩
 rw [sK]
 exact World.ownsMap_made w _ _ _

theorem MapIs.stay {w w':World} {m n c:Nat} {K:Nat->Option Nat} (h:MapIs w m n c K) (hb:w'.heap[m]?=w.heap[m]?):MapIs w' m n c K:=by
 obtain ⟨D,⟨es,clock,h1,h2⟩,hD⟩:=h
 exact ⟨D,⟨es,clock,hb.trans h1,h2⟩,hD⟩

theorem MapIs.lt {w:World} {m n c:Nat} {K:Nat->Option Nat} (h:MapIs w m n c K):m<w.heap.size:=by
 obtain ⟨D,h1,_⟩:=h
 exact h1.lt

theorem MapIs.is {w:World} {m n c:Nat} {K:Nat->Option Nat} (h:MapIs w m n c K):∃es clock,w.heap[m]?=some (.map es clock):=by
 obtain ⟨D,⟨es,clock,h1,_⟩,_⟩:=h
 exact ⟨es,clock,h1⟩

section
variable {w : World} {m n c : Nat} {K : Nat -> Option Nat}
theorem uT (n:Nat) (K:Nat->Option Nat) (i:Nat) {v:Value} {ps:List MemPlace} {D:DataW Unit} (h1:D.atKey (.int .i64 (i:Int)) .nil=(match K i with|some g => .lit (.int .i64 g)|none => .nil))
  (hv:nT n v=some (D.atKey (.int .i64 (i:Int)) .nil,ps)):v=at12 n K i:=by
 rw [h1] at hv
 unfold at12
 rcases uQ hv with ⟨g,rfl,e⟩ | ⟨rfl,e⟩
 ·cases hK:K i with
  | none =>
   rw [hK] at e
   cases e
  | some g' =>
   rw [hK] at e
   injection e with e
   injection e with e
   injection e with _ e
   have:g'=g:=by omega
   subst this
   rfl
 ·cases hK:K i with
  | none=>rfl
  | some g' =>
   rw [hK] at e
   cases e

theorem MapIs.look (h:MapIs w m n c K) (i:Nat) (hi:i<2 ^ 63) :
  (Instr.lookup 132 (.map (some m)) (.int .i64 (i:Int)) true).run Tryz.prog w = .ok (.tuple #[at12 n K i, .bool (K i).isSome]) w:=by
 obtain ⟨D,hown,hD⟩:=h
 obtain ⟨h1,h2⟩:=hD i hi
 obtain ⟨v,ps,hrun,hv⟩:=hown.look_ok uR Tryz.underlying132 (uS w) (nU n) (jR i hi)
 rw [hrun,h1,uT n K i h2 hv]

theorem MapIs.look1 (h:MapIs w m n c K) (i:Nat) (hi:i<2 ^ 63) :
  (Instr.lookup 132 (.map (some m)) (.int .i64 (i:Int)) false).run Tryz.prog w = .ok (at12 n K i) w:=by
 obtain ⟨D,hown,hD⟩:=h
 obtain ⟨h1,h2⟩:=hD i hi
 obtain ⟨v,ps,hrun,hv⟩:=hown.lookup uR Tryz.underlying132 (uS w) (nU n) (jR i hi)
 rw [hrun,uT n K i h2 hv]

theorem MapIs.store (h:MapIs w m n c K) (i g:Nat) (hi:i<c) (hc:c<=100000) (hK:K i=none) :
  ∃w',(Instr.mapUpdate 132 (.map (some m)) (.int .i64 (i:Int)) (.slice (some ⟨g,0,none⟩) n n)).run Tryz.prog w = .ok () w'/\MapIs w' m n c (eB K i g)/\w.grownBy w' (some m)/\w'.heap.size=w.heap.size:=by
 obtain ⟨D,hown,hD⟩:=h
 have hle:=yC K c
 obtain ⟨w',hrun,hown',hg⟩:=hown.store uR Tryz.underlying132 (by unfold maxLen;omega) (jR i (by omega)) (yD n g)
 have hwk:WideAt.IsKeyLit (Lit.int .i64 (i:Int)):=trivial
 refine ⟨w',hrun,⟨_,by rw [nS hK c hi];exact hown',fun j hj => ?_⟩,hg.grown,?_⟩
 ·by_cases e:j=i
  ·subst e
   exact ⟨by rw [Maps.has_put_same hown.isMap hwk];simp [eB],by rw [Maps.atKey_put_same hown.isMap hwk];simp [eB]⟩
  ·have hne:Lit.int .i64 (j:Int) ≠ .int .i64 (i:Int):=by
    intro he
    injection he with _ he
    omega
   obtain ⟨h1,h2⟩:=hD j hj
   exact ⟨by rw [Maps.has_put_other hne,h1];simp [eB,e],by rw [Maps.atKey_put_other hne,h2];simp [eB,e]⟩
 ·obtain ⟨es,clock,es',clock',_,rfl⟩:=hg
  simp [ChangeMaps.setBlock]
end

structure Dk where
 n:Nat
 c:Nat
 kept:Nat->List UInt8
 waits:List (Nat × List UInt8)
 on:Bool
 falls:Int
 hf:Bool
 left:Int

def put1 (k:Nat->List UInt8) (q:Nat × List UInt8):Nat->List UInt8:=fun j=>if j=q.1 then q.2++(k j).drop q.2.length else k j

def cutW (n keep:Nat) (torn:Bool) (j:Nat) (q:Nat × List UInt8):Nat × List UInt8:=if torn=true/\j+1=keep then (q.1,q.2.take (n / 2)) else q
def f8 (n keep:Nat) (torn:Bool) (ws:List (Nat × List UInt8)):List (Nat × List UInt8):=(ws.take keep).mapIdx (cutW n keep torn)
def decideD (D:Dk) (keep:Nat) (torn:Bool):Dk:={ D with kept:=(f8 D.n keep torn D.waits).foldl put1 D.kept,waits:=[] }
def newD (D:Dk) (i:Nat):List UInt8:=match D.waits.reverse.find? (fun q=>q.1 == i) with|some q=>q.2|none=>D.kept i
def dI (D:Dk):Dk:=if D.on then { D with on:=false,falls:=IntKind.u64.wrap (D.falls+1) } else D
def dh (D:Dk):Bool:=D.hf && decide (D.left=0)
def burnD (D:Dk):Dk:=if D.hf then if D.left=0 then dI D else { D with left:=D.left - 1 } else D

def cF (D:Dk) (i:Int):Int:=if D.on=true then if 0<=i/\i<D.c then 0 else 6 else 8
def errD (D:Dk) (i:Int) (k:Nat):Int:=if cF D i=0 then if k=D.n then if dh D=true then 8 else 0 else 3 else cF D i
def dj (D:Dk) (i:Int) (l:List UInt8):Dk:=if cF D i=0 then if l.length=D.n then burnD { D with waits:=D.waits++[(i.toNat,l)] } else D else D
def kS (D:Dk):Int:=if D.on=true then if dh D=true then 8 else 0 else 8
def gn (D:Dk):Dk:=if D.on=true then if dh D=true then burnD D else decideD (burnD D) D.waits.length false else D
def E9 (D:Dk) (k:Int):Dk:={ D with hf:=true,left:=max k 0 }
def backD (D:Dk) (keep:Int) (torn:Bool):Dk:={ decideD (dI D) (min keep.toNat D.waits.length) torn with hf:=false,on:=true }
def EG (D:Dk) (i at_:Int):Int:=if (0<=i/\i<D.c)/\0<=at_/\at_<D.n then 0 else 6
def E5 (D:Dk) (i at_:Int) (by_:UInt8):Dk :=
 if EG D i at_=0 then { D with kept:=fun j=>if j=i.toNat then (D.kept j).set at_.toNat ((D.kept j).getD at_.toNat 0 ^^^ by_) else D.kept j } else D
def ip (n c:Nat):Dk:={ n,c,kept:=fun _=>List.replicate n 0,waits:=[],on:=true,falls:=0,hf:=false,left:=0 }

structure Dk.ok (D:Dk):Prop where
 n1:64<=D.n
 n2:D.n<=512
 c1:1<=D.c
 c2:D.c<=4096
 k:∀i,(D.kept i).length=D.n
 ws:∀q∈D.waits,q.1<D.c/\q.2.length=D.n
 wn:D.waits.length<=100000
 l1:0<=D.left
 l2:D.left<=9223372036854775807

theorem yE {k:Nat->List UInt8} {q:Nat × List UInt8} {n:Nat} (hk:∀i,(k i).length=n) (hq:q.2.length<=n) (i:Nat):(put1 k q i).length=n:=by
 unfold put1
 split
 ·rw [List.length_append,List.length_drop,hk]
  omega
 ·exact hk i
theorem lZ:∀(l:List (Nat × List UInt8)) {k:Nat->List UInt8} {n:Nat},(∀i,(k i).length=n)->(∀q∈l,q.2.length<=n)->∀i,(l.foldl put1 k i).length=n
 | [],_,_,hk,_,i=>hk i
 | q::l,k,n,hk,hl,i=>lZ l (k:=put1 k q) (fun i=>yE hk (hl q (by simp)) i) (fun r hr=>hl r (by simp [hr])) i
theorem l0 {n keep:Nat} {torn:Bool} {j:Nat} {q:Nat × List UInt8} (h:q.2.length=n):(cutW n keep torn j q).2.length<=n:=by
 unfold cutW
 split
 ·simp;omega
 ·omega
theorem rh (n keep:Nat) (torn:Bool) (j:Nat) (q:Nat × List UInt8):(cutW n keep torn j q).1=q.1:=by
 unfold cutW
 split <;> rfl
theorem staysL_get {n keep:Nat} {torn:Bool} {ws:List (Nat × List UInt8)} (j:Nat):(f8 n keep torn ws)[j]?=if j<keep then (ws[j]?).map (cutW n keep torn j) else none:=by
 unfold f8
 rw [List.getElem?_mapIdx,List.getElem?_take]
 split <;> simp
theorem lk {n keep:Nat} {torn:Bool} {ws:List (Nat × List UInt8)} {q:Nat × List UInt8} (h:q∈f8 n keep torn ws):∃j r,r∈ws/\q=cutW n keep torn j r:=by
 obtain ⟨j,hj⟩:=List.mem_iff_getElem?.1 h
 rw [staysL_get] at hj
 split at hj
 ·obtain ⟨r,hr,rfl⟩:=Option.map_eq_some_iff.1 hj
  exact ⟨j,r,List.mem_of_getElem? hr,rfl⟩
 ·cases hj

theorem Dk.ok.decide {D:Dk} (h:D.ok) (keep:Nat) (torn:Bool):(decideD D keep torn).ok :=
 ⟨h.n1,h.n2,h.c1,h.c2,lZ _ h.k fun q hq=>by
  obtain ⟨j,r,hr,rfl⟩:=lk hq
  exact l0 (h.ws r hr).2,fun q hq=>by simp [decideD] at hq,by simp [decideD],h.l1,h.l2⟩
theorem Dk.ok.fall {D:Dk} (h:D.ok):(dI D).ok:=by
 unfold dI
 split
 ·exact ⟨h.n1,h.n2,h.c1,h.c2,h.k,h.ws,h.wn,h.l1,h.l2⟩
 ·exact h
theorem Dk.ok.burn {D:Dk} (h:D.ok):(burnD D).ok:=by
 unfold burnD
 split
 ·split
  ·exact h.fall
  ·have:=h.l1
   have:=h.l2
   exact ⟨h.n1,h.n2,h.c1,h.c2,h.k,h.ws,h.wn,by simp;omega,by simp;omega⟩
 ·exact h
theorem jS (D:Dk):(burnD D).waits=D.waits:=by
 unfold burnD dI
 split <;> (try split) <;> (try split) <;> rfl
theorem jT (D:Dk):(dI D).waits=D.waits:=by
 unfold dI
 split <;> rfl
theorem EH (D:Dk):(burnD D).n=D.n/\(burnD D).c=D.c:=by
 unfold burnD dI
 split <;> (try split) <;> (try split) <;> exact ⟨rfl,rfl⟩
theorem jU (D:Dk):(dI D).n=D.n/\(dI D).c=D.c:=by
 unfold dI
 split <;> exact ⟨rfl,rfl⟩
theorem yF {D:Dk} (h:D.ok) (i:Nat):(newD D i).length=D.n:=by
 unfold newD
 split
 ·rename_i q hq
  have:=List.mem_of_find?_eq_some hq
  exact (h.ws q (by simpa using this)).2
 ·exact h.k i

structure Chg (S:Nat->Prop) (w w':World):Prop where
 os:w'.os=w.os
 tape:w'.tape=w.tape
 output:w'.output=w.output
 size:w.heap.size<=w'.heap.size
 block:∀k,k<w.heap.size->¬S k->w'.heap[k]?=w.heap[k]?
section
variable {S S' : Nat -> Prop} {a b c w w' : World}
theorem Chg.refl (S:Nat->Prop) (w:World):Chg S w w:=⟨rfl,rfl,rfl,Nat.le_refl _,fun _ _ _=>rfl⟩
theorem Chg.trans (h:Chg S a b) (k:Chg S' b c) (hs:∀g,S' g->g<a.heap.size->S g):Chg S a c :=
 ⟨k.os.trans h.os,k.tape.trans h.tape,k.output.trans h.output,Nat.le_trans h.size k.size,fun i hi hn=>(k.block i (Nat.lt_of_lt_of_le hi h.size) fun e=>hn (hs i e hi)).trans (h.block i hi hn)⟩
theorem Chg.of_below (h:Below w.heap.size w w'):Chg S w w':=⟨h.os,h.tape,h.output,h.size,fun k hk _=>h.block k hk⟩
theorem Chg.of_grown {g:Nat} (h:w.grownBy w' (some g)) (hg:S g∨w.heap.size<=g):Chg S w w' :=
 ⟨h.os,h.tape,h.output,h.size,fun k hk hn=>h.block k hk fun e=>by
  injection e with e
  subst e
  rcases hg with hg|hg
  ·exact hn hg
  ·omega⟩
theorem Chg.below (h:Chg S w w') {B:Nat} (hB:B<=w.heap.size) (hS:∀g,S g->B<=g):Below B w w' :=
 ⟨h.os,h.tape,h.output,h.size,fun k hk=>h.block k (by omega) fun e=>by have:=hS k e;omega⟩
theorem Chg.mono (h:Chg S w w') (hs:∀g,S g->S' g):Chg S' w w':=⟨h.os,h.tape,h.output,h.size,fun k hk hn=>h.block k hk fun e=>hn (hs k e)⟩
end

structure Lay where
 b:Nat
 m:Nat
 A:Option Addr
 cp:Nat
 K:Nat->Option Nat
 G:List (Nat × Nat)

def Lay.has (L:Lay) (g:Nat):Prop:=g=L.b∨g=L.m∨(∃o s,L.A=some ⟨g,o,s⟩)∨(∃i,L.K i=some g)∨∃p∈L.G,p.1=g

def wcs:List (Nat × Nat)->List (Nat × List UInt8)->List Value
 | p::G,q::W => .int .i64 (q.1:Int) :: .slice (some ⟨p.1,0,none⟩) q.2.length p.2::wcs G W
 | _,_=>[]
theorem uU:∀(G:List (Nat × Nat)) (W:List (Nat × List UInt8)) (j:Nat) (p:Nat × Nat) (q:Nat × List UInt8),G[j]?=some p->W[j]?=some q ->
  (wcs G W)[j * 2]?=some (.int .i64 (q.1:Int))/\(wcs G W)[j * 2+1]?=some (.slice (some ⟨p.1,0,none⟩) q.2.length p.2)
 | [],_,j,p,q,h,_=>by simp at h
 | _::_,[],j,p,q,_,h=>by simp at h
 | p0::G,q0::W,0,p,q,h1,h2=>by
  simp at h1 h2
  subst h1 h2
  exact ⟨rfl,rfl⟩
 | p0::G,q0::W,j+1,p,q,h1,h2=>by
  have:=uU G W j p q (by simpa using h1) (by simpa using h2)
  have e1:(j+1) * 2=j * 2+1+1:=by omega
  rw [e1]
  simpa [wcs] using this
theorem l7:∀(G:List (Nat × Nat)) (W:List (Nat × List UInt8)) (p:Nat × Nat) (q:Nat × List UInt8),G.length=W.length ->
  wcs (G++[p]) (W++[q])=wcs G W++[.int .i64 (q.1:Int), .slice (some ⟨p.1,0,none⟩) q.2.length p.2]
 | [],[],p,q,_=>rfl
 | [],_::_,p,q,h=>by simp at h
 | _::_,[],p,q,h=>by simp at h
 | p0::G,q0::W,p,q,h=>by
  have:=l7 G W p q (by simpa using h)
  simp [wcs,this]
theorem pM:∀(G:List (Nat × Nat)) (W:List (Nat × List UInt8)),∀u∈wcs G W,u.oneCell'=true
 | [],_,u,h=>by simp [wcs] at h
 | _::_,[],u,h=>by simp [wcs] at h
 | p0::G,q0::W,u,h=>by
  simp only [wcs,List.mem_cons] at h
  rcases h with rfl|rfl|h
  ·rfl
  ·rfl
  ·exact pM G W u h

def dcs (L:Lay) (D:Dk):Array Value :=
 #[.int .i64 (D.n:Int), .int .i64 (D.c:Int), .map (some L.m), .slice L.A D.waits.length L.cp, .bool D.on, .int .u64 D.falls, .bool D.hf, .int .i64 D.left]

structure DiskAt (w:World) (L:Lay) (D:Dk):Prop where
 box:BoxAt w L.b (dcs L D) 135
 map:MapIs w L.m D.n D.c L.K
 row:w.ownsRow 0 299 2 (.slice L.A D.waits.length L.cp) D.waits.length (wcs L.G D.waits)
 len:L.G.length=D.waits.length
 keep:∀i g,L.K i=some g->i<D.c/\RowIs w g (D.kept i)
 zero:∀i,L.K i=none->D.kept i=List.replicate D.n 0
 inj:∀i j g,L.K i=some g->L.K j=some g->i=j
 wt:∀(j:Nat) (p:Nat × Nat) (q:Nat × List UInt8),L.G[j]?=some p->D.waits[j]?=some q->RowIs w p.1 q.2/\q.2.length<=p.2/\∀i,L.K i≠some p.1
 ok:D.ok

section
variable {w w' : World} {L : Lay} {D : Dk}
theorem RowIs.lt {w:World} {g:Nat} {l:List UInt8} (h:RowIs w g l):g<w.heap.size:=by
 obtain ⟨cur,hg,_⟩:=h
 exact (Array.getElem?_eq_some_iff.1 hg).1
theorem RowIs.stay12 {w w':World} {g:Nat} {l:List UInt8} (h:RowIs w g l) (hb:w'.heap[g]?=w.heap[g]?):RowIs w' g l:=by
 obtain ⟨cur,hg,hc⟩:=h
 exact ⟨cur,hb.trans hg,hc⟩
theorem ca {base n s:Nat} {e:TypeId} {A:Option Addr} {cp:Nat} {xs:List Value} (h:w.ownsRow base e s (.slice A n cp) n xs) (hb:∀g o s,A=some ⟨g,o,s⟩->w'.heap[g]?=w.heap[g]?):w'.ownsRow base e s (.slice A n cp) n xs:=by
 refine ⟨h.1,?_⟩
 rcases h.2 with h0 | ⟨g,cap,cur,hv,h1,hg,h2⟩
 ·exact .inl h0
 ·injection hv with hA hn hc
  subst hA hc
  exact .inr ⟨g,cp,cur,rfl,h1,(hb g 0 none rfl).trans hg,h2⟩
theorem DiskAt.stay (h:DiskAt w L D) (hb:∀g,L.has g->w'.heap[g]?=w.heap[g]?):DiskAt w' L D where
 box:=(hb _ (.inl rfl)).trans h.box
 map:=h.map.stay (hb _ (.inr (.inl rfl)))
 row:=ca h.row fun g o s e=>hb g (.inr (.inr (.inl ⟨o,s,e⟩)))
 len:=h.len
 keep i g e:=⟨(h.keep i g e).1,(h.keep i g e).2.stay12 (hb g (.inr (.inr (.inr (.inl ⟨i,e⟩)))))⟩
 zero:=h.zero
 inj:=h.inj
 wt j p q e1 e2:=⟨(h.wt j p q e1 e2).1.stay12 (hb _ (.inr (.inr (.inr (.inr ⟨p,List.mem_of_getElem? e1,rfl⟩))))),(h.wt j p q e1 e2).2⟩
 ok:=h.ok
theorem DiskAt.lt (h:DiskAt w L D) {g:Nat} (hg:L.has g):g<w.heap.size:=by
 rcases hg with rfl|rfl | ⟨o,s,e⟩ | ⟨i,e⟩ | ⟨p,hp,rfl⟩
 ·exact h.box.lt
 ·exact h.map.lt
 ·rcases h.row.2 with ⟨hv,_⟩ | ⟨g',cap,cur,hv,_,hg,_⟩
  ·injection hv with hA
   rw [e] at hA
   cases hA
  ·injection hv with hA
   rw [e] at hA
   injection hA with hA
   injection hA with hA
   subst hA
   exact (Array.getElem?_eq_some_iff.1 hg).1
 ·exact (h.keep i g e).2.lt
 ·obtain ⟨j,hj⟩:=List.mem_iff_getElem?.1 hp
  have hjl:j<D.waits.length:=by
   have:=(List.getElem?_eq_some_iff.1 hj).1
   rw [h.len] at this
   exact this
  exact (h.wt j p _ hj (List.getElem?_eq_getElem hjl)).1.lt
theorem DiskAt.below (h:DiskAt w L D) (hb:Below w.heap.size w w'):DiskAt w' L D:=h.stay fun _ hg=>hb.block _ (h.lt hg)

theorem DiskAt.beside {S:Nat->Prop} (h:DiskAt w L D) (hc:Chg S w w') (hs:∀g,L.has g->¬S g):DiskAt w' L D:=h.stay fun g hg=>hc.block g (h.lt hg) (hs g hg)
theorem DiskAt.cell (h:DiskAt w L D) (i:Nat):w.cell? ⟨L.b,i,none⟩=(dcs L D)[i]?:=h.box.cell i
theorem DiskAt.free (h:DiskAt w L D) (i:Nat):w.frozen? ⟨L.b,i,none⟩=false:=h.box.free9 i
end

def Does (L:Lay) (w w':World) (D':Dk):Prop:=∃L',L'.b=L.b/\DiskAt w' L' D'/\Chg L.has w w'/\∀g,L'.has g->L.has g∨w.heap.size<=g

theorem Does.of_stay {L:Lay} {w w':World} {D:Dk} (h:DiskAt w L D) (hb:Below w.heap.size w w'):Does L w w' D:=⟨L,rfl,h.below hb,Chg.of_below hb,fun _ hg => .inl hg⟩
theorem Does.trans {L L':Lay} {w w' w'':World} {D'':Dk} (hc:Chg L.has w w') (hs:∀g,L'.has g->L.has g∨w.heap.size<=g) (hb:L'.b=L.b) (h:Does L' w' w'' D''):Does L w w'' D'':=by
 obtain ⟨L2,e2,h2,c2,s2⟩:=h
 refine ⟨L2,e2.trans hb,h2,hc.trans c2 fun g hg hlt => ?_,fun g hg => ?_⟩
 ·rcases hs g hg with h|h
  ·exact h
  ·omega
 ·rcases s2 g hg with h|h
  ·exact hs g h
  ·exact .inr (Nat.le_trans hc.size h)
end Go.Proofs.YtnkjdijbfnmnhaaGreat
