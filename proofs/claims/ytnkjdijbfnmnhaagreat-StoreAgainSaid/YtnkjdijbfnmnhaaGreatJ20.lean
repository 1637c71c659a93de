/-
  Texts of this claim put together: PutT4, Great, Law05, RefT, RefT2, TabX.
-/
import Derived.Test.YtnkjdijbfnmnhaaGreatJ19
import Derived.Test.YtnkjdijbfnmnhaaGreatJ18
import Derived.Test.YtnkjdijbfnmnhaaGreatJ03
import Derived.Test.YtnkjdijbfnmnhaaGreatJ15
import Derived.Test.YtnkjdijbfnmnhaaGreatJ17
import Derived.Deep.RegionHeld
import Derived.IntWalk
import Derived.Deep.DeepCutAuto

namespace Go.Proofs.YtnkjdijbfnmnhaaGreat
open Go.RowKit

def putR (st vs:Int) (l:List RuM):List UInt8 × Int:=if mayT st vs l then (EN st vs l,0) else ([],10)

def yR (r:List UInt8 × Int) (w:World) (e:Ending) (w':World):Prop :=
 ∃A c,e = .returned (.tuple #[.slice A r.1.length c, .int .i64 r.2])/\w'.ownsRow w.heap.size 5 1 (.slice A r.1.length c) r.1.length (bv r.1)/\Below w.heap.size w w'



theorem Sees.ownRow {w:World} {base n c size:Nat} {e:TypeId} {A:Option Addr} {xs:List Value} (h:w.ownsRow base e size (.slice A n c) n xs):Sees w w.heap.size A xs:=fun hn=>by
 rcases h.2 with ⟨hv,rfl⟩ | ⟨g,cap,cur,hv,_,hg,_,_,hsz,hx⟩
 ·have:=h.1
  rw [Nat.zero_mul] at this
  omega
 ·injection hv with hA
  subst hA
  have hlt:g<w.heap.size:=(Array.getElem?_eq_some_iff.1 hg).1
  refine ⟨_,rfl,hlt,fun j u hu => ?_⟩
  rw [Addr.add_lit,cell_of_row w g _ _ _ _ hg,Nat.zero_add,<- Array.getElem?_toList]
  rw [<- hx,List.getElem?_take] at hu
  split at hu
  ·exact hu
  ·cases hu
theorem Sees.msg {w:World} {B:Nat} {A:Option Addr} {l:List (Int × Int × Int)} {k:Nat} {x:Int × Int × Int} (h:Sees w B A (cv l)) (hk:l[k]?=some x) :
  ∃b o,A=some ⟨b,o,none⟩/\b<B/\w.cell? ⟨b,o+k * 4,none⟩=some (.int .u64 0)/\w.cell? ⟨b,o+k * 4+1,none⟩=some (.int .u8 x.1)/\w.cell? ⟨b,o+k * 4+2,none⟩=some (.int .i64 x.2.1)/\w.cell? ⟨b,o+k * 4+3,none⟩=some (.int .i64 x.2.2):=by
 obtain ⟨b,o,e,hb,hc⟩:=Sees.at (cs:=AY) (q:=4) (fun _=>rfl) (by omega) h hk
 exact ⟨b,o,e,hb,hc 0 _ rfl,hc 1 _ rfl,hc 2 _ rfl,hc 3 _ rfl⟩

theorem vo {Q:Int × Int × Int->Prop} {l:List EmM} {vars:List Int} {arg:Int} (hq:∀(k:Nat) (e:EmM) (x:Int),l[k]?=some e->Q (e.tg,e.ac,x)):∀ {j:Nat} {cur:List (Int × Int × Int)},fh l vars arg j=some cur->∀c∈cur,Q c:=by
 intro j
 induction j with
 | zero=>intro cur h;injection h with h;subst h;simp
 | succ j ih =>
  intro cur h
  change (fh l vars arg j).bind _=some cur at h
  cases hp:fh l vars arg j with
  | none=>rw [hp] at h;cases h
  | some c =>
   rw [hp] at h
   simp only [Option.bind_some] at h
   cases hl:l[j]? with
   | none=>rw [hl] at h;cases h
   | some s =>
    rw [hl] at h
    simp only at h
    split at h
    ·injection h with h
     subst h
     intro y hy
     rcases List.mem_append.1 hy with hy|hy
     ·exact ih hp y hy
     ·simp at hy
      subst hy
      exact hq j s _ hl
    ·cases h

theorem Cx (st vs:Int) (l:List RuM) (sa ac pa:Int) (vars:List Int) (arg:Int) :
  (∃e,e≠0/\vg st vs l sa ac pa vars arg=(0,[],[],e)) ∨
  (∃s v c,vg st vs l sa ac pa vars arg=(s,v,c,0)/\(0<=s/\s<st)/\((v.length:Int)=vs/\v.length=vars.length)/\c.length<=4/\∀x∈c,x.1<=15/\0<=x.2.1/\x.2.1<=31):=by
 unfold vg
 by_cases h:sO st vs l vars=true
 ·rw [if_pos h]
  unfold sO at h
  simp only [Bool.and_eq_true,decide_eq_true_eq] at h
  cases hi:idxO (takX sa ac pa vars arg l) l.length with
  | none=>exact .inl ⟨13,by omega,rfl⟩
  | some k =>
   simp only
   cases hk:l[k]? with
   | none=>exact .inl ⟨13,by omega,rfl⟩
   | some r =>
    simp only
    obtain ⟨-,hto, -, -, -,hs,he⟩:=jZ (jY h.2 hk)
    cases ha:ve r.se.l vars arg with
    | none=>exact .inl ⟨18,by omega,rfl⟩
    | some a =>
     cases hc:Ah r.em.l vars arg with
     | none=>exact .inl ⟨18,by omega,rfl⟩
     | some c =>
      have h1:=sP ha
      have h2:=vf hc
      have h3:=rn he
      refine .inr ⟨r.tt,a,c,rfl,⟨hto.1,by omega⟩,⟨by rw [h1];exact h.1,h1⟩,by omega,fun x hx => ?_⟩
      have:=vo (Q:=fun c=>c.1<=15/\0<=c.2.1/\c.2.1<=31) (fun k e x hk=>by
       have:=vi he hk
       exact ⟨by simp only;omega,this.2.1.1,this.2.1.2⟩) hc x hx
      exact this
 ·rw [if_neg h]
  exact .inl ⟨10,by omega,rfl⟩


theorem Ba {st vs:Int} {l:List RuM} {k:Nat} {x:RuM} (h:l[k]?=some x):ruX st vs l k = !(ruB st vs x):=by unfold ruX;rw [h]
theorem Di {st vs:Int} {l:List RuM} {k:Nat} (hk:k<l.length) (h:ruX st vs l k=true):rusB st vs l=false:=by
 unfold rusB
 rw [anyB_true.2 ⟨k,hk,h⟩]
 simp
theorem yS {st vs:Int} {l:List RuM} (h8:l.length<=32) (h:∀j,j<l.length->ruX st vs l j=false):rusB st vs l=true:=by
 unfold rusB
 rw [anyB_false.2 h,decide_eq_true h8]
 rfl


def eD (fr ac pa d:Int):RuM:=⟨fr,ac,pa,d,⟨none,0,[]⟩,⟨none,0,[]⟩,⟨none,0,[]⟩⟩
theorem Eh {w:World} {B:Nat} {fr ac pa d:Int} (h1:I64 fr) (h2:I64 ac) (h3:I64 pa) (h4:I64 d):RuM.ok w B (eD fr ac pa d) :=
 ⟨⟨h1,h2,h3,h4⟩,⟨by simp [eD],by simp [eD,maxLen],Sees.empty _ _ _,by simp [eD]⟩,⟨by simp [eD],by simp [eD,maxLen],Sees.empty _ _ _,by simp [eD]⟩,⟨by simp [eD],by simp [eD,maxLen],Sees.empty _ _ _,by simp [eD]⟩⟩

theorem bP {w:World} {base n c size:Nat} {e:TypeId} {A:Option Addr} {xs:List Value} (h:w.ownsRow base e size (.slice A n c) n xs):n<=c/\c<=maxLen:=by
 rcases h.2 with ⟨hv,rfl⟩ | ⟨g,cap,cur,hv,_,_,hc,hm,_⟩
 ·injection hv with _ _ hc
  subst hc
  exact ⟨Nat.le_refl _,by simp [maxLen]⟩
 ·injection hv with _ _ hc'
  subst hc'
  exact ⟨hc,hm⟩

theorem vp {st vs fr ac pa d:Int} (h1:0<=fr/\fr<=st - 1) (h2:0<=ac/\ac<=31) (h3:0<=pa/\pa<=7) (h4:0<=d/\d<=st - 1):ruB st vs (eD fr ac pa d)=true:=by
 unfold ruB eD
 simp only
 rw [inB_true.2 h1,inB_true.2 h4,inB_true.2 h2,inB_true.2 h3]
 rfl
theorem Bb {st vs:Int} {l:List RuM} (h1:1<=st/\st<=32) (h2:0<=vs/\vs<=8) (h3:l.length<=32) (h:∀(k:Nat) (x:RuM),l[k]?=some x->ruB st vs x=true):mayT st vs l=true:=by
 unfold mayT
 rw [inB_true.2 h1,inB_true.2 h2,yS h3 fun j hj=>by rw [Ba (List.getElem?_eq_getElem hj),h j _ (List.getElem?_eq_getElem hj)];rfl]
 rfl
theorem vq {st vs:Int} {l:List RuM} {x:RuM} (h:mayT st vs l=true) (hx:ruB st vs x=true) (hn:l.length<=31):mayT st vs (x::l)=true:=by
 have hm:=yN h
 refine Bb hm.1 hm.2.1 (by simp;omega) fun k y hy => ?_
 rcases k with _|k
 ·simp at hy
  subst hy
  exact hx
 ·exact jY h (by simpa using hy)
theorem sR (vars:List Int) (arg:Int):holdsB [] vars arg=true:=rfl
theorem Cy {st vs:Int} {l:List RuM} {k:Nat} {r:RuM} {d:Int} {vars:List Int} (arg:Int) (h:mayT st vs l=true) (hr:l[k]?=some r) (hn:l.length<=31) (hd:0<=d/\d<st) (hv:(vars.length:Int)=vs) :
  vg st vs (eD r.fr r.ac r.pa d::l) r.fr r.ac r.pa vars arg=(d,vars,[],0)/\C8 st vs (eD r.fr r.ac r.pa d::l) r.fr r.ac r.pa vars arg=0:=by
 obtain ⟨h1, -,h2,h3, -⟩:=jZ (jY h hr)
 have hm:=vq h (vp (vs:=vs) h1 h2 h3 (show 0<=d/\d<=st - 1 by omega)) hn
 have hf:sO st vs (eD r.fr r.ac r.pa d::l) vars=true:=by
  unfold sO
  rw [hm,decide_eq_true hv]
  rfl
 have hi:idxO (takX r.fr r.ac r.pa vars arg (eD r.fr r.ac r.pa d::l)) (eD r.fr r.ac r.pa d::l).length=some 0:=by
  refine vd (by simp) ?_ fun j hj=>absurd hj (by omega)
  rw [A0 (x:=eD r.fr r.ac r.pa d) rfl]
  unfold AR eD
  simp [sR]
 constructor
 ·unfold vg
  rw [if_pos hf,hi]
  rfl
 ·unfold C8
  rw [if_pos hf]
  unfold takI idxI
  rw [hi]
  rfl
end Go.Proofs.YtnkjdijbfnmnhaaGreat
