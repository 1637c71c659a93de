/-
  Texts of this claim put together: Sta14, Open14, Sam14, Gb14.
-/
import Derived.Test.YtnkjdijbfnmnhaaGreatJ35
import Derived.Test.YtnkjdijbfnmnhaaGreatJ32
import Derived.Test.YtnkjdijbfnmnhaaGreatJ33
import Derived.Test.YtnkjdijbfnmnhaaGreatJ04
import Derived.Test.YtnkjdijbfnmnhaaGreatJ31
import Derived.Test.YtnkjdijbfnmnhaaGreatJ13
import Derived.Test.YtnkjdijbfnmnhaaGreatJ03
import Derived.Deep.RegionHeld
import Derived.Test.YtnkjdijbfnmnhaaGreatJ34
import Derived.Deep.DeepCutAuto

namespace Go.Proofs.YtnkjdijbfnmnhaaGreat
set_option maxRecDepth 100000
set_option maxHeartbeats 12800000
open Go.RowKit

structure SlotM where
 ha:Bool
 pc:Nat
 pn:Nat
 pl:Nat
 ac:Nat
 an:Nat
 al:Nat
 r:RegM
structure SlotP where
 ha:Bool
 pc:Nat
 pn:Nat
 pl:Nat
 ac:Nat
 an:Nat
 al:Nat
 r:RegP
deriving DecidableEq
def SlotM.p (m:SlotM):SlotP:=⟨m.ha,m.pc,m.pn,m.pl,m.ac,m.an,m.al,m.r.p⟩
def SlotM.box (m:SlotM):Array Value := #[.bool m.ha, .int .u64 m.pc, .int .u8 m.pn, .int .u32 m.pl, .int .u64 m.ac, .int .u8 m.an, .int .u32 m.al, .int .u8 m.r.ki, .int .u64 m.r.inc, .int .i64 m.r.st, .slice m.r.va.A m.r.va.l.length m.r.va.c, .slice m.r.dn.A m.r.dn.l.length m.r.dn.c, .slice m.r.ou.A m.r.ou.l.length m.r.ou.c, .int .u64 m.r.la, .slice m.r.ma.A m.r.ma.l.length m.r.ma.c]
def SlotM.v (m:SlotM):Value := .agg m.box
def SlotM.num (m:SlotM):Prop:=BalIn m.pc m.pn m.pl/\BalIn m.ac m.an m.al
def SlotM.good (w:World) (B:Nat) (m:SlotM):Prop:=m.num/\RegM.ok w B m.r
def zeroSl:SlotM:=⟨false,0,0,0,0,0,0,zeroM⟩
def eX:SlotP:=⟨false,0,0,0,0,0,0,zeroP⟩
theorem rI:∃d,Tryz.prog.underlying 72=some d/\d.isRow=true:=⟨_,Tryz.underlying72,rfl⟩
theorem bN:(Tryz.prog.info? 72).map (·.size)=some 15:=by kernel_rfl
theorem wC:∃d,Tryz.prog.underlying 31=some d/\d.isRow=true:=⟨_,Tryz.underlying31,rfl⟩
theorem da:∃d,Tryz.prog.underlying 52=some d/\d.isRow=true:=⟨_,Tryz.underlying52,rfl⟩
theorem aW:(Tryz.prog.info? 52).map (·.size)=some 3:=by kernel_rfl
def RegM.bx (r:RegM):List Value:=r.cs
def SlotM.hd (m:SlotM):List Value:=[.bool m.ha, .int .u64 m.pc, .int .u8 m.pn, .int .u32 m.pl, .int .u64 m.ac, .int .u8 m.an, .int .u32 m.al]
def SlotM.cs (m:SlotM):List Value:=m.hd++m.r.cs
theorem SlotM.cs_box (m:SlotM):m.cs=m.box.toList:=rfl
theorem SlotM.cs_len (m:SlotM):m.cs.length=15:=rfl
theorem RegM.cs_len (m:RegM):m.cs.length=8:=rfl
theorem CfM.cs_len (m:CfM):m.cs.length=3:=rfl

structure StaM where
 f:Nat->SlotM
 fe:Nat
 li:Nat
 cf:CfM
structure StaP where
 f:Nat->SlotP
 fe:Nat
 li:Nat
 cf:CfP
def StaM.p (s:StaM):StaP:=⟨fun i=>(s.f i).p,s.fe,s.li,s.cf.p⟩
def bH (f:Nat->SlotM) (s n:Nat):List Value:=(List.range' s n).flatMap fun i=>(f i).cs
def StaM.tl (s:StaM):List Value:=[.int .u64 s.fe, .int .u32 s.li]++s.cf.cs
def StaM.L (s:StaM):List Value:=bH s.f 0 16++s.tl
def StaM.box (s:StaM):Array Value:=s.L.toArray
def StaM.v (s:StaM):Value := .agg s.box
def zeroSt:StaM:=⟨fun _=>zeroSl,0,0,zeroCf⟩
def cZ:StaP:=⟨fun _=>eX,0,0,(0,[],[])⟩
theorem Et:zeroSt.p=cZ:=rfl
theorem aJ:∃d,Tryz.prog.underlying 75=some d/\d.isRow=true:=⟨_,Tryz.underlying75,rfl⟩
theorem am:(Tryz.prog.info? 75).map (·.size)=some 245:=by kernel_rfl
theorem bC:(Tryz.prog.info? 75).map (fun i=>(i.zero,i.size))=some (some (.agg zeroSt.box),245):=by kernel_rfl

theorem aZ (f:Nat->SlotM):∀(n s:Nat),(bH f s n).length=n * 15
 | 0,s=>rfl
 | n+1,s=>by
  rw [bH,List.range'_succ,List.flatMap_cons,List.length_append]
  have:=aZ f n (s+1)
  rw [bH] at this
  rw [this,(f s).cs_len,Nat.succ_mul]
  omega
theorem slotsL_add (f:Nat->SlotM) (s m n:Nat):bH f s (m+n)=bH f s m++bH f (s+m) n:=by
 rw [bH,<- List.range'_append_1,List.flatMap_append]
 rfl
theorem slotsL_one (f:Nat->SlotM) (s:Nat):bH f s 1=(f s).cs:=by simp [bH]
theorem i9 {f g:Nat->SlotM} {s n:Nat} (h:∀i,s<=i->i<s+n->f i=g i):bH f s n=bH g s n:=by
 unfold bH
 rw [List.flatMap_def,List.flatMap_def]
 congr 1
 refine List.map_congr_left fun i hi => ?_
 rw [List.mem_range'_1] at hi
 rw [h i hi.1 hi.2]

def StaM.pre (s:StaM) (i:Nat):List Value:=bH s.f 0 i
def StaM.post (s:StaM) (i:Nat):List Value:=bH s.f (i+1) (15 - i)++s.tl
theorem StaM.pre_len (s:StaM) (i:Nat):(s.pre i).length=i * 15:=aZ s.f i 0
theorem StaM.L_at (s:StaM) {i:Nat} (h:i<16):s.L=s.pre i++(s.f i).cs++s.post i:=by
 unfold StaM.L StaM.pre StaM.post
 have e:16=i+(1+(15 - i)):=by omega
 rw [show bH s.f 0 16=bH s.f 0 (i+(1+(15 - i))) from by rw [<- e],slotsL_add,slotsL_add,slotsL_one,Nat.zero_add]
 simp [List.append_assoc]
theorem StaM.L_len (s:StaM):s.L.length=245:=by
 unfold StaM.L
 rw [List.length_append,aZ]
 rfl
theorem StaM.box_size (s:StaM):s.box.size=245:=by
 unfold StaM.box
 rw [List.size_toArray,s.L_len]

theorem iK (a m b:List Value) (i n:Nat) (hi:a.length=i) (hn:m.length=n):(a++m++b).toArray.extract i (i+n)=m.toArray:=by
 rw [List.extract_toArray,List.append_assoc]
 congr 1
 rw [List.extract_eq_take_drop,List.drop_append_of_le_length (by omega),List.drop_of_length_le (by omega),List.nil_append,Nat.add_sub_cancel_left,List.take_append_of_le_length (by omega),List.take_of_length_le (by omega)]
theorem iL (a m b v:List Value) (i:Nat) (hi:a.length=i) (hv:v.length=m.length):splice (a++m++b).toArray i v=(a++v++b).toArray:=by
 unfold splice
 congr 1
 rw [List.append_assoc a m b,List.take_append_of_le_length (by omega),List.take_of_length_le (by omega),hv]
 congr 1
 rw [<- List.append_assoc,List.drop_append_of_le_length (by simp;omega),List.drop_of_length_le (by simp;omega),List.nil_append]

def StaM.setF (s:StaM) (i:Nat) (x:SlotM):StaM:={ s with f:=fun j=>if j=i then x else s.f j }
theorem StaM.setF_L (s:StaM) {i:Nat} (h:i<16) (x:SlotM):(s.setF i x).L=s.pre i++x.cs++s.post i:=by
 rw [(s.setF i x).L_at h]
 have e1:(s.setF i x).pre i=s.pre i:=i9 fun j h1 h2=>if_neg (show ¬j=i from by omega)
 have e2:(s.setF i x).post i=s.post i:=by
  unfold StaM.post
  rw [show bH (s.setF i x).f (i+1) (15 - i)=bH s.f (i+1) (15 - i) from i9 fun j h1 h2=>if_neg (show ¬j=i from by omega)]
  rfl
 have e3:(s.setF i x).f i=x:=if_pos rfl
 rw [e1,e2,e3]

theorem StaM.slot_get (s:StaM) {i:Nat} (h:i<16):s.box.extract (i * 15) (i * 15+15)=(s.f i).box:=by
 unfold StaM.box
 rw [s.L_at h,iK _ _ _ _ _ (s.pre_len i) (s.f i).cs_len,SlotM.cs_box]
theorem StaM.slot_set (s:StaM) {i:Nat} (h:i<16) (x:SlotM):splice s.box (i * 15) x.cs=(s.setF i x).box:=by
 unfold StaM.box
 rw [s.L_at h,iL _ _ _ _ _ (s.pre_len i) (by rw [x.cs_len,(s.f i).cs_len]),s.setF_L h]

theorem StaM.reg_split (s:StaM) {i:Nat} (h:i<16):s.L=(s.pre i++(s.f i).hd)++(s.f i).r.cs++s.post i:=by
 rw [s.L_at h,SlotM.cs]
 simp [List.append_assoc]
theorem StaM.reg_get (s:StaM) {i:Nat} (h:i<16):s.box.extract (i * 15+7) (i * 15+7+8)=(s.f i).r.cs.toArray:=by
 unfold StaM.box
 rw [s.reg_split h,iK _ _ _ _ _ (by rw [List.length_append,s.pre_len];rfl) (s.f i).r.cs_len]
def StaM.setR (s:StaM) (i:Nat) (r:RegM):StaM:=s.setF i { s.f i with r:=r }
theorem StaM.reg_set (s:StaM) {i:Nat} (h:i<16) (r:RegM):splice s.box (i * 15+7) r.cs=(s.setR i r).box:=by
 unfold StaM.box
 rw [s.reg_split h,iL _ _ _ _ _ (by rw [List.length_append,s.pre_len];rfl) (by rw [r.cs_len,(s.f i).r.cs_len]),StaM.setR,s.setF_L h]
 show _=(s.pre i++((s.f i).hd++r.cs)++s.post i).toArray
 simp [List.append_assoc]

theorem StaM.cell_fe (s:StaM):s.box[240]?=some (.int .u64 s.fe):=by
 unfold StaM.box StaM.L
 rw [List.getElem?_toArray,List.getElem?_append_right (by rw [aZ];omega),aZ]
 rfl
theorem StaM.cell_li (s:StaM):s.box[241]?=some (.int .u32 s.li):=by
 unfold StaM.box StaM.L
 rw [List.getElem?_toArray,List.getElem?_append_right (by rw [aZ];omega),aZ]
 rfl
theorem StaM.cf_split (s:StaM):s.L=(bH s.f 0 16++[.int .u64 s.fe, .int .u32 s.li])++s.cf.cs++[]:=by
 unfold StaM.L StaM.tl
 simp [List.append_assoc]
theorem StaM.cf_get (s:StaM):s.box.extract 242 (242+3)=s.cf.cs.toArray:=by
 unfold StaM.box
 rw [s.cf_split,iK _ _ _ _ _ (by rw [List.length_append,aZ];rfl) s.cf.cs_len]
theorem StaM.cf_set (s:StaM) (c:CfM):splice s.box 242 c.cs={ s with cf:=c }.box:=by
 unfold StaM.box
 rw [s.cf_split,iL _ _ _ _ _ (by rw [List.length_append,aZ];rfl) (by rw [c.cs_len,s.cf.cs_len]),StaM.cf_split]
theorem wD (a b:List Value) (m v:Value) (i:Nat) (hi:a.length=i):(a++m::b).toArray.setIfInBounds i v=(a++v::b).toArray:=by
 rw [List.setIfInBounds_toArray,List.set_append_right _ _ (by omega),hi,Nat.sub_self]
 rfl
theorem StaM.fe_set (s:StaM) (n:Nat):s.box.setIfInBounds 240 (.int .u64 n)={ s with fe:=n }.box:=by
 unfold StaM.box StaM.L StaM.tl
 exact wD _ _ _ _ _ (by rw [aZ])
theorem StaM.li_set (s:StaM) (n:Nat):s.box.setIfInBounds 241 (.int .u32 n)={ s with li:=n }.box:=by
 unfold StaM.box StaM.L StaM.tl
 have:=wD (bH s.f 0 16++[.int .u64 s.fe]) s.cf.cs (.int .u32 s.li) (.int .u32 n) 241 (by rw [List.length_append,aZ];rfl)
 simpa [List.append_assoc] using this
theorem qu {f:Nat->SlotM} {s n:Nat}:∀u∈bH f s n,u.oneCell'=true:=fun u hu=>by
 obtain ⟨i,_,hi⟩:=List.mem_flatMap.1 hu
 have:u∈(f i).cs:=hi
 simp [SlotM.cs,SlotM.hd,RegM.cs,Sl.v] at this
 rcases this with h|h|h|h|h|h|h|h|h|h|h|h|h|h|h <;> subst h <;> rfl
theorem StaM.one (s:StaM):s.box.all (·.oneCell')=true:=by
 unfold StaM.box
 refine all_oneCell_toArray fun u hu => ?_
 rcases List.mem_append.1 hu with h|h
 ·exact qu u h
 ·simp [StaM.tl,CfM.cs,NdM.v] at h
  rcases h with h|h|h|h|h <;> subst h <;> rfl

def RegM.few (r:RegM):Prop:=(r.va.l.length<=50/\r.dn.l.length<=50/\r.ou.l.length<=50/\r.ma.l.length<=50)/\∀d∈r.dn.l,d.va.l.length<=50
structure StaM.good (w:World) (B:Nat) (s:StaM):Prop where
 sl:∀i,i<16->SlotM.good w B (s.f i)/\(s.f i).r.few
 fe:N64 s.fe
 li:N32 s.li
 cf:CfM.ok w B s.cf
theorem StaM.good.below {w w':World} {B:Nat} {s:StaM} (h:StaM.good w B s) (hb:Below B w w'):StaM.good w' B s :=
 ⟨fun i hi=>⟨⟨(h.sl i hi).1.1,reg_stable.below (h.sl i hi).1.2 hb⟩,(h.sl i hi).2⟩,h.fe,h.li,h.cf.below hb⟩
theorem StaM.good.more {w:World} {B B':Nat} {s:StaM} (h:StaM.good w B s) (hb:B<=B'):StaM.good w B' s :=
 ⟨fun i hi=>⟨⟨(h.sl i hi).1.1,reg_stable.more (h.sl i hi).1.2 hb⟩,(h.sl i hi).2⟩,h.fe,h.li,h.cf.more hb⟩
theorem gw (w:World) (B:Nat):StaM.good w B zeroSt :=
 ⟨fun i _=>⟨⟨by simp [SlotM.num,zeroSt,zeroSl,BalIn,N64],bA w B⟩,by simp [RegM.few,zeroSt,zeroSl,zeroM]⟩,by simp [zeroSt,N64],by simp [zeroSt,N32],gO w B⟩

def SAside (w:World) (row:Option Nat) (s:StaM):Prop:=∀u,w.grownBy u row->StaM.good u u.heap.size s
theorem SAside.good {w:World} {row:Option Nat} {s:StaM} (h:SAside w row s):StaM.good w w.heap.size s:=h w (World.grownBy.refl w _)
theorem SAside.step {w w':World} {row:Option Nat} {s:StaM} (h:SAside w row s) (hb:Below w.heap.size w w'):SAside w' row s:=fun u hu=>h u (ag (aP (World.grownBy.refl w _) hb) hu)
theorem SAside.set {w w':World} {row:Option Nat} {s:StaM} (h:SAside w row s) (hg:w.grownBy w' row):SAside w' row s:=fun u hu=>h u (ag hg hu)
theorem SAside.zero (w:World) (row:Option Nat):SAside w row zeroSt:=fun _ _=>gw _ _
theorem SAside.none {w:World} {s:StaM} (h:StaM.good w w.heap.size s):SAside w none s:=fun u hu=>by
 have hb:Below w.heap.size w u:=(Below.refl _ _).grown hu (Nat.le_refl _) (fun k hk=>by cases hk)
 exact (h.below hb).more hb.size

def RAside (w:World) (row:Option Nat) (x:RegM):Prop:=∀u,w.grownBy u row->RegM.ok u u.heap.size x
def CAside (w:World) (row:Option Nat) (x:CfM):Prop:=∀u,w.grownBy u row->CfM.ok u u.heap.size x
theorem oK {w u:World} {B:Nat} {row:Option Nat} (hu:w.grownBy u row) (hB:B<=w.heap.size) (hr:∀z,row=some z->B<=z):Below B w u:=(Below.refl _ _).grown hu hB hr
theorem RAside.low {w:World} {B:Nat} {row:Option Nat} {x:RegM} (h:RegM.ok w B x) (hB:B<=w.heap.size) (hr:∀z,row=some z->B<=z):RAside w row x:=fun u hu=>by
 have hb:=oK hu hB hr
 exact reg_stable.more (reg_stable.below h hb) (Nat.le_trans hB hb.size)
theorem CAside.low {w:World} {B:Nat} {row:Option Nat} {x:CfM} (h:CfM.ok w B x) (hB:B<=w.heap.size) (hr:∀z,row=some z->B<=z):CAside w row x:=fun u hu=>by
 have hb:=oK hu hB hr
 exact (h.below hb).more (Nat.le_trans hB hb.size)
theorem SAside.reg {w:World} {row:Option Nat} {s:StaM} (h:SAside w row s) {i:Nat} (hi:i<16):RAside w row (s.f i).r:=fun u hu=>((h u hu).sl i hi).1.2
theorem SAside.conf {w:World} {row:Option Nat} {s:StaM} (h:SAside w row s):CAside w row s.cf:=fun u hu=>(h u hu).cf
theorem RAside.fresh {w:World} {lo:Nat} {row:Option Nat} {x:RegM} (h:Fresh w lo x) (hz:∀z,row=some z->z<lo):RAside w row x:=fun u hu=>by
 rcases row with _|z
 ·have hb:Below w.heap.size w u:=(Below.refl _ _).grown hu (Nat.le_refl _) (fun k hk=>by cases hk)
  exact (h.below hb).ok
 ·exact Aside14.fresh h (hz z rfl) u hu
def NFresh (w:World) (lo:Nat) (x:NdM):Prop:=w.ownsRow lo 5 1 (.slice x.A x.l.length x.c) x.l.length (bv x.l)/\x.l.length<=100
def CFresh (w:World) (lo:Nat) (x:CfM):Prop:=x.C<18446744073709551616/\NFresh w lo x.o/\NFresh w lo x.n
theorem NFresh.ok {w:World} {lo:Nat} {x:NdM} (h:NFresh w lo x):NdM.ok w w.heap.size x:=⟨h.2,Sees.own h.1⟩
theorem NFresh.grown {w u:World} {lo:Nat} {row:Option Nat} {x:NdM} (h:NFresh w lo x) (hu:w.grownBy u row) (hz:∀z,row=some z->z<lo):NFresh u lo x:=by
 rcases row with _|z
 ·have hb:Below w.heap.size w u:=(Below.refl _ _).grown hu (Nat.le_refl _) (fun k hk=>by cases hk)
  exact ⟨ao h.1 hb,h.2⟩
 ·exact ⟨aM h.1 (fun e=>kl h.1 (hz z rfl) e.symm) hu,h.2⟩
theorem CFresh.grown {w u:World} {lo:Nat} {row:Option Nat} {x:CfM} (h:CFresh w lo x) (hu:w.grownBy u row) (hz:∀z,row=some z->z<lo):CFresh u lo x:=⟨h.1,h.2.1.grown hu hz,h.2.2.grown hu hz⟩
theorem CFresh.ok {w:World} {lo:Nat} {x:CfM} (h:CFresh w lo x):CfM.ok w w.heap.size x:=⟨h.1,h.2.1.ok,h.2.2.ok⟩
theorem CAside.fresh {w:World} {lo:Nat} {row:Option Nat} {x:CfM} (h:CFresh w lo x) (hz:∀z,row=some z->z<lo):CAside w row x:=fun _ hu=>(h.grown hu hz).ok
theorem Fresh.grown14 {w u:World} {lo:Nat} {row:Option Nat} {x:RegM} (h:Fresh w lo x) (hu:w.grownBy u row) (hz:∀z,row=some z->z<lo):Fresh u lo x:=by
 rcases row with _|z
 ·have hb:Below w.heap.size w u:=(Below.refl _ _).grown hu (Nat.le_refl _) (fun k hk=>by cases hk)
  exact h.below hb
 ·exact Aside14.fresh' h (hz z rfl) hu

structure StaM.fresh (w:World) (lo:Nat) (s:StaM):Prop where
 sl:∀i,i<16->(s.f i).num/\Fresh w lo (s.f i).r/\(s.f i).r.few
 fe:N64 s.fe
 li:N32 s.li
 cf:CFresh w lo s.cf
theorem StaM.fresh.grown {w u:World} {lo:Nat} {row:Option Nat} {s:StaM} (h:StaM.fresh w lo s) (hu:w.grownBy u row) (hz:∀z,row=some z->z<lo):StaM.fresh u lo s :=
 ⟨fun i hi=>⟨(h.sl i hi).1,(h.sl i hi).2.1.grown14 hu hz,(h.sl i hi).2.2⟩,h.fe,h.li,h.cf.grown hu hz⟩
theorem StaM.fresh.good {w:World} {lo:Nat} {s:StaM} (h:StaM.fresh w lo s):StaM.good w w.heap.size s :=
 ⟨fun i hi=>⟨⟨(h.sl i hi).1,(h.sl i hi).2.1.ok⟩,(h.sl i hi).2.2⟩,h.fe,h.li,h.cf.ok⟩
theorem StaM.fresh.aside {w:World} {lo:Nat} {row:Option Nat} {s:StaM} (h:StaM.fresh w lo s) (hz:∀z,row=some z->z<lo):SAside w row s:=fun _ hu=>(h.grown hu hz).good
theorem StaM.fresh.less {w:World} {lo lo':Nat} {s:StaM} (h:StaM.fresh w lo s) (hl:lo'<=lo):StaM.fresh w lo' s :=
 ⟨fun i hi=>⟨(h.sl i hi).1,Aside14.less (h.sl i hi).2.1 hl,(h.sl i hi).2.2⟩,h.fe,h.li,⟨h.cf.1,⟨az h.cf.2.1.1 hl,h.cf.2.1.2⟩,⟨az h.cf.2.2.1 hl,h.cf.2.2.2⟩⟩⟩
open Go.ChangeShapes Go.WideShapes Go.ChangeAt Go.RowKit Go.Joins Go.Deep

def NdM.wide (w:World) (B:Nat) (x:NdM):Prop:=x.l.length<=x.c/\x.c<=maxLen/\Sees w B x.A (bv x.l)
def CfM.wide (w:World) (B:Nat) (x:CfM):Prop:=x.C<18446744073709551616/\NdM.wide w B x.o/\NdM.wide w B x.n
def RecM.wide (w:World) (B:Nat) (m:RecM):Prop:=m.ok'/\RegM.ok w B m.r/\CfM.wide w B m.cf
theorem oL:Stable NdM.wide:=fun _ _ _ _ _ h hk hB=>⟨h.1,h.2.1,(h.2.2.keep hk).more hB⟩
theorem tC:Stable CfM.wide:=fun w w' B B' x h hk hB=>⟨h.1,oL w w' B B' x.o h.2.1 hk hB,oL w w' B B' x.n h.2.2 hk hB⟩
theorem qw:Stable RecM.wide:=fun w w' B B' x h hk hB=>⟨h.1,reg_stable w w' B B' x.r h.2.1 hk hB,tC w w' B B' x.cf h.2.2 hk hB⟩
def RecM.cs (m:RecM):List Value:=m.box.toList
theorem RecM.cs_len (m:RecM):m.cs.length=21:=rfl
def oM (w:World) (B:Nat) (s:Sl RecM):Prop:=Sl.ok RecM.cs RecM.wide w B s
theorem BK:Stable oM:=Sl.stable qw

def RecM.least (m:RecM):Prop:=m.r.few/\m.cf.o.l.length<=80/\m.cf.n.l.length<=80
theorem RecM.wide.tame {w:World} {B:Nat} {m:RecM} (h:RecM.wide w B m) (hl:m.least):m.ok'/\RegM.ok w B m.r/\CfM.ok w B m.cf/\m.r.few :=
 ⟨h.1,h.2.1,⟨h.2.2.1,⟨Nat.le_trans hl.2.1 (by decide),h.2.2.2.1.2.2⟩,⟨Nat.le_trans hl.2.2 (by decide),h.2.2.2.2.2.2⟩⟩,hl.1⟩

section
variable {H : Type} {enc : TypeId × Value -> H} {w : World} {base : Nat} {spare : Nat -> Bool} {held : Bool}

theorem wE {n:Nat} {v:Value} {y:DataW H × List MemPlace} (h:DataW.trod enc Tryz.prog w base spare held n 50 [v]=some y):∃s:NdM,v=s.v/\NdM.wide w w.heap.size s:=by
 obtain ⟨s,hv,h1,h2,h3,_⟩:=dz (fun b:UInt8=>[Value.int .u8 (b.toNat:Int)]) (fun _=>True) (q:=1) (by omega) Tryz.underlying50 (by kernel_rfl) (fun _=>rfl) (fun n xs y hl h=>by
  match xs,hl with
  | [c0],_ =>
   obtain ⟨a,rfl,ha,hb⟩:=dp Tryz.underlying5 h
   refine ⟨UInt8.ofNat a.toNat,?_,trivial⟩
   rw [lR (by omega)]
   congr 2
   omega) h
 have e:s.l.flatMap (fun b:UInt8=>[Value.int .u8 (b.toNat:Int)])=bv s.l:=by
  induction s.l with
  | nil=>rfl
  | cons b l ih=>rw [List.flatMap_cons,ih];rfl
 rw [e] at h3
 exact ⟨⟨s.A,s.c,s.l⟩,hv,h1,h2,h3⟩

theorem BL {n:Nat} {xs:List Value} {y:DataW H × List MemPlace} (hl:xs.length=3) (h:DataW.trod enc Tryz.prog w base spare held n 52 xs=some y):∃x:CfM,xs=x.cs/\CfM.wide w w.heap.size x:=by
 match xs,hl with
 | [c0,c1,c2],_ =>
  obtain ⟨_,_,h0⟩:=ay Tryz.underlying52 h 0 rfl rfl rfl (by kernel_rfl) rfl
  obtain ⟨_,_,h1⟩:=ay Tryz.underlying52 h 1 rfl rfl rfl (by kernel_rfl) rfl
  obtain ⟨_,_,h2⟩:=ay Tryz.underlying52 h 2 rfl rfl rfl (by kernel_rfl) rfl
  obtain ⟨a,rfl,ha⟩:=km Tryz.underlying25 h0
  obtain ⟨b,rfl,hb⟩:=wE h1
  obtain ⟨c,rfl,hc⟩:=wE h2
  exact ⟨⟨a,b,c⟩,rfl,ha,hb,hc⟩

theorem DL {n:Nat} {xs:List Value} {y:DataW H × List MemPlace} (hl:xs.length=21) (h:DataW.trod enc Tryz.prog w base spare held n 54 xs=some y):∃m:RecM,xs=m.cs/\RecM.wide w w.heap.size m:=by
 match xs,hl with
 | [c0,c1,c2,c3,c4,c5,c6,c7,c8,c9,c10,c11,c12,c13,c14,c15,c16,c17,c18,c19,c20],_ =>
  obtain ⟨_,_,h0⟩:=ay Tryz.underlying54 h 0 rfl rfl rfl (by kernel_rfl) rfl
  obtain ⟨_,_,h1⟩:=ay Tryz.underlying54 h 1 rfl rfl rfl (by kernel_rfl) rfl
  obtain ⟨_,_,h2⟩:=ed (cs:=[c2,c3,c4]) (q:=3) Tryz.underlying54 h 2 rfl rfl rfl (by kernel_rfl) rfl
  obtain ⟨_,_,h3⟩:=ed (cs:=[c5,c6,c7]) (q:=3) Tryz.underlying54 h 3 rfl rfl rfl (by kernel_rfl) rfl
  obtain ⟨_,_,h4⟩:=ed (cs:=[c8,c9,c10,c11,c12,c13,c14,c15]) (q:=8) Tryz.underlying54 h 4 rfl rfl rfl (by kernel_rfl) rfl
  obtain ⟨_,_,h5⟩:=ay Tryz.underlying54 h 5 rfl rfl rfl (by kernel_rfl) rfl
  obtain ⟨_,_,h6⟩:=ay Tryz.underlying54 h 6 rfl rfl rfl (by kernel_rfl) rfl
  obtain ⟨_,_,h7⟩:=ed (cs:=[c18,c19,c20]) (q:=3) Tryz.underlying54 h 7 rfl rfl rfl (by kernel_rfl) rfl
  obtain ⟨ki,rfl,b0⟩:=nf Tryz.underlying5 h0
  obtain ⟨ke,rfl,b1⟩:=nf Tryz.underlying5 h1
  obtain ⟨pc,pn,pl,e2,b2⟩:=Ap rfl h2
  obtain ⟨ac,an,al,e3,b3⟩:=Ap rfl h3
  obtain ⟨r,e4,b4⟩:=DF rfl h4
  obtain ⟨fe,rfl,b5⟩:=km Tryz.underlying25 h5
  obtain ⟨li,rfl,b6⟩:=oH Tryz.underlying47 h6
  obtain ⟨cf,e7,b7⟩:=BL rfl h7
  simp only [List.cons.injEq,and_true] at e2 e3
  simp only [RegM.cs,List.cons.injEq,and_true] at e4
  simp only [CfM.cs,List.cons.injEq,and_true] at e7
  obtain ⟨rfl,rfl,rfl⟩:=e2
  obtain ⟨rfl,rfl,rfl⟩:=e3
  obtain ⟨rfl,rfl,rfl,rfl,rfl,rfl,rfl,rfl⟩:=e4
  obtain ⟨rfl,rfl,rfl⟩:=e7
  exact ⟨⟨ki,ke,pc,pn,pl,ac,an,al,r,fe,li,cf⟩,rfl,⟨⟨b0,b1⟩,b2,b3,b5,b6⟩,b4,b7⟩

theorem wF {r:Reach} {b0:Nat} {v:Value} {d:DataW H} {p:List MemPlace} (hv:Value.okWide Tryz.prog w r b0 56 v) (h:DataW.Trod enc Tryz.prog w base spare held 56 v d p) :
  ∃s:Sl RecM,v=s.v/\oM w w.heap.size s:=by
 obtain ⟨A,n,c,rfl⟩:=okWide_slice Tryz.underlying56 hv
 obtain ⟨fuel,hf⟩:=h
 obtain ⟨s,hv,h1,h2,h3,h4⟩:=dz RecM.cs (RecM.wide w w.heap.size) (q:=21) (by omega) Tryz.underlying56 (by kernel_rfl) (fun _=>rfl) (fun _ _ _ hl h=>DL hl h) (by simpa [Value.cells] using hf)
 exact ⟨s,hv,h1,h2,h3,h4⟩

end

theorem wG:∃d,Tryz.prog.underlying 31=some d/\d.isRow=true:=⟨_,Tryz.underlying31,rfl⟩
theorem Sees.rec14 {w:World} {B:Nat} {A:Option Addr} {l:List RecM} {k:Nat} {x:RecM} (h:Sees w B A (l.flatMap RecM.cs)) (hk:l[k]?=some x) :
  ∃b o,A=some ⟨b,o,none⟩/\b<B/\∀u:World,(∀q:Addr,q.block<B->u.cell? q=w.cell? q)->u.rangeAt b (o+k * 21) x.cs:=by
 obtain ⟨b,o,e,hb,hc⟩:=h.at (q:=21) (fun _=>rfl) (by omega) hk
 exact ⟨b,o,e,hb,fun u hu j v hv=>(hu _ hb).trans (hc j v hv)⟩
theorem World.rangeAt.part {w:World} {b o:Nat} {a m c:List Value} {i:Nat} (h:w.rangeAt b o (a++m++c)) (hi:a.length=i):w.rangeAt b (o+i) m:=fun j v hv=>by
 rw [Nat.add_assoc]
 refine h (i+j) v ?_
 rw [List.append_assoc,List.getElem?_append_right (by omega),hi,Nat.add_sub_cancel_left,List.getElem?_append_left (List.getElem?_eq_some_iff.1 hv).1]
 exact hv

section
variable {P : Program} {w : World} {ops : Array Oper} {rest : List Oper} {o : Oper} {a : Act} {Q : Exit -> Act -> World -> Prop}

theorem lv (ty:TypeId) (hgd:Region.wanted o (yielded ops a.tmps)=true) (x:Operand) (ho:o.op = .load ty x) {n:Nat} (hi:(P.info? ty).map (·.size)=some n) (hu:∃d,P.underlying ty=some d/\d.isRow=true)
  {g i:Nat} {cs:List Value} (hb:w.rangeAt g i cs) (hn:cs.length=n) {V:Value} (hV:V = .agg cs.toArray) (hx:a.eval x = .pointer (some ⟨g,i,none⟩))
  (h:wpList P ops Q rest (a.put o.dst V) w):wpList P ops Q (o::rest) a w:=by
 refine wpList_step fun _ hK => ?_
 rw [if_pos hgd]
 obtain ⟨d,hu1,hu2⟩:=hu
 subst hV
 exact wp_load_mid ty x ho g i hx cs d hb hu1 hu2 (by rw [hi,hn]) (hK _ _ h)
theorem rJ {S:World->Prop} (ty:TypeId) (hw:Region.wanted o (yielded ops a.tmps)=true) (x:Operand) (ho:o.op = .load ty x) {n:Nat} (hi:(P.info? ty).map (·.size)=some n) (hu:∃d,P.underlying ty=some d/\d.isRow=true) {V:Value} {cs:List Value} (hV:V = .agg cs.toArray) {g i:Nat}
  (hS:∀w,S w->w.rangeAt g i cs) (hn:cs.length=n) (hx:a.eval x = .pointer (some ⟨g,i,none⟩)):YieldsIf P ops S o V a:=by
 subst hV
 obtain ⟨d,hu1,hu2⟩:=hu
 exact yieldsIf_load_mid (P:=P) (S:=S) hw _ x ho g i hx cs d hS hu1 hu2 (by rw [hi,hn])
end

def oN (l:List RecM) (w:World) (e:Ending) (w':World):Prop:=∃b:Bool,e = .returned (.bool b)/\Below w.heap.size w w'/\(b=false->l.length<=60/\∀m∈l,m.least)
theorem tD {l:List RecM} {w w':World} {e:Ending} (h:e = .returned (.bool true)) (hb:Below w.heap.size w w'):oN l w e w':=⟨true,h,hb,fun e=>by cases e⟩
theorem wH {l:List RecM} {w w':World} {e:Ending} (h:e = .returned (.bool false)) (hb:Below w.heap.size w w') (h2:l.length<=60/\∀m∈l,m.least):oN l w e w':=⟨false,h,hb,fun _=>h2⟩

theorem qx (s:Sl RecM) (B:Nat) (w:World) (h:oM w B s) (hB:B<=w.heap.size):Calls Tryz.prog 16 #[s.v] w (oN s.l w):=by
 obtain ⟨A,cp,l⟩:=s
 obtain ⟨hlc,hcm,hs,hok⟩:=h
 simp only [Sl.v] at *
 have HY:=aa (fun (e:Ending) (w':World) (h1:e = .returned (.bool true)) (h2:Below w.heap.size w w')=>tD (l:=l) h1 h2)
 have HNO:=aa (fun (e:Ending) (w':World) (h1:e = .returned (.bool false)) (h2:Below w.heap.size w w') h3=>wH (l:=l) h1 h2 h3)
 obtain ⟨G,hG⟩:∃G:Ending->World->Prop,oN l w=G:=⟨_,rfl⟩
 simp only [hG] at HY HNO ⊢
 obtain ⟨m,hm⟩:∃m,l.length=m:=⟨_,rfl⟩
 rw [hm]
 have HS:=aa hs
 have HOK:=aa hok
 have HM:=aa hm
 have hm9:m<=9223372036854775807:=by
  unfold maxLen at hcm
  omega
 clear hs hok hG hm hlc hcm
 by_cases h5:60<m
 ·clear hm9
  go_enter Tryz.func16,Tryz.ntmps16
  go_wp2
  exact HY.out _ _ rfl (Below.refl _ _)
 clear hm9
 go_enter Tryz.func16,Tryz.ntmps16
 go_wp2
 go_loopw [3,9] (fun _ i wr=>∃k:Nat,k<=m/\i = .int .i64 (k:Int)/\Hid (∀j x,j<k->l[j]?=some x->x.least)/\Hid (Below w.heap.size w wr)) (fun _ i _=>m - (intOf i).toNat)
 case atStart=>exact ⟨0,Nat.zero_le _,rfl,aa (fun j x hj=>absurd hj (by omega)),aa (Below.refl _ _)⟩
 case round =>
  obtain ⟨k,hk,rfl,HJ,HB⟩:=hrel
  by_cases hlt:k<m
  case neg =>
   have hkm:m=k:=by omega
   subst hkm
   have HF:=aa (show l.length<=60/\∀x∈l,x.least from ⟨by rw [HM.out];omega,fun x hx=>by
    obtain ⟨j,hj⟩:=List.mem_iff_getElem?.1 hx
    have:=(List.getElem?_eq_some_iff.1 hj).1
    rw [HM.out] at this
    exact HJ.out j x this hj⟩)
   go_wp2
   exact HNO.out _ _ rfl HB.out HF.out
  obtain ⟨x,hx⟩:∃x,l[k]?=some x:=⟨_,List.getElem?_eq_getElem (by rw [HM.out];exact hlt)⟩
  obtain ⟨b,off,rfl,hb,hrg⟩:=HS.out.rec14 hx
  have hwd:=HOK.out x (List.mem_of_getElem? hx)
  have HRG:=aa (fun (u:World) (h:Below w.heap.size w u)=>hrg u (fun q hq=>(h.mono hB).cell hq))
  have HGR:=aa (fun (u:World) (h:Below w.heap.size w u)=>td x.r B u (reg_stable.below hwd.2.1 (h.mono hB)) (Nat.le_trans hB h.size))
  have HX:=aa hx
  clear hx hrg hwd
  have HLST:=aa (show x.r.few/\x.cf.o.l.length<=80/\x.cf.n.l.length<=80->x.least from id)
  have HNX:=aa (show x.least->∀j y,j<k+1->l[j]?=some y->y.least from fun hl j y h1 h2=>by
   by_cases e:j=k
   ·subst e
    rw [HX.out] at h2
    injection h2 with h2
    subst h2
    exact hl
   ·exact HJ.out j y (by omega) h2)
  obtain ⟨ki,ke,pc,pn,pl,ac,an,al,⟨rk,inc,st,⟨vA,vc,vl⟩,⟨dA,dc,dl⟩,⟨oA,oc,ol⟩,la,⟨mA,mc,ml⟩⟩,fe,li,⟨C,⟨xA,xc,xl⟩,⟨yA,yc,yl⟩⟩⟩:=x
  simp only [RegM.v,Sl.v] at HGR
  simp only at HLST HNX
  have HCS:=aa (fun (u:World) (h:Below w.heap.size w u)=>(HRG.out u h:u.rangeAt b (off+k * 21) [.int .u8 ki, .int .u8 ke, .int .u64 pc, .int .u8 pn, .int .u32 pl, .int .u64 ac, .int .u8 an, .int .u32 al, .int .u8 rk, .int .u64 inc, .int .i64 st, .slice vA vl.length vc, .slice dA dl.length dc, .slice oA ol.length oc, .int .u64 la, .slice mA ml.length mc, .int .u64 fe, .int .u32 li, .int .u64 C, .slice xA xl.length xc, .slice yA yl.length yc]))
  have HRR:=aa (fun (u:World) (h:Below w.heap.size w u)=>World.rangeAt.part (a:=[.int .u8 ki, .int .u8 ke, .int .u64 pc, .int .u8 pn, .int .u32 pl, .int .u64 ac, .int .u8 an, .int .u32 al]) (m:=[.int .u8 rk, .int .u64 inc, .int .i64 st, .slice vA vl.length vc, .slice dA dl.length dc, .slice oA ol.length oc, .int .u64 la, .slice mA ml.length mc]) (c:=[.int .u64 fe, .int .u32 li, .int .u64 C, .slice xA xl.length xc, .slice yA yl.length yc]) (i:=8) (HRG.out u h) rfl)
  have HC19:=aa (fun (u:World) (h:Below w.heap.size w u)=>HCS.out u h 19 _ rfl)
  have HC20:=aa (fun (u:World) (h:Below w.heap.size w u)=>HCS.out u h 20 _ rfl)
  obtain ⟨n1,hn1⟩:∃n,xl.length=n:=⟨_,rfl⟩
  obtain ⟨n2,hn2⟩:∃n,yl.length=n:=⟨_,rfl⟩
  simp only [hn1] at HLST HC19
  simp only [hn2] at HLST HC20
  have hbz:b<wr.heap.size:=Nat.lt_of_lt_of_le hb (Nat.le_trans hB HB.out.size)
  have HBL:=aa (fun (u:World) (h:Below w.heap.size w u)=>Nat.lt_of_lt_of_le hb (Nat.le_trans hB h.size))
  clear hn1 hn2 HX HJ HRG HCS hb
  go_wp2_with (refine lv 31 (by rfl) _ (by rfl) j8 wG (HRR.out _ HB.out) (by rfl) (by rfl) (by rfl) ?_)
  refine (HGR.out _ HB.out).mono ?_
  rintro en w2 ⟨bb,rfl,hb2,hfew⟩
  have HB2:=aa (HB.out.trans (hb2.mono HB.out.size))
  have HFEW:=aa hfew
  have c19:=HC19.out _ HB2.out
  have c20:=HC20.out _ HB2.out
  have hbz2:=HBL.out _ HB2.out
  clear hb2 hfew hbz
  cases bb with
  | true =>
   go_wp2
   exact HY.out _ _ rfl HB2.out
  | false =>
  by_cases h80:80<n1
  ·go_wp2
   exact HY.out _ _ rfl HB2.out
  by_cases h81:80<n2
  ·go_wp2
   exact HY.out _ _ rfl HB2.out
  ·go_wp2
   go_roundw
   case rel =>
    have hf:=HFEW.out (by first|trivial|rfl)
    exact ⟨k+1,by omega,by go_num,aa (HNX.out (HLST.out ⟨⟨⟨hf.1,hf.2.1,hf.2.2.1,hf.2.2.2.1⟩,hf.2.2.2.2⟩,by omega,by omega⟩)),HB2⟩
   case measure=>simp [intOf];omega


theorem zB (a b:SlotP):decide (a=b)=(decide (a.ha=b.ha) && (decide (a.pc=b.pc) && (decide (a.pn=b.pn) && (decide (a.pl=b.pl) && (decide (a.ac=b.ac) && (decide (a.an=b.an) && (decide (a.al=b.al) && (decide (a.r=b.r))))))))):=by
 obtain ⟨a0,a1,a2,a3,a4,a5,a6,a7⟩:=a
 obtain ⟨b0,b1,b2,b3,b4,b5,b6,b7⟩:=b
 rw [Bool.eq_iff_iff]
 simp only [decide_eq_true_eq,Bool.and_eq_true,SlotP.mk.injEq]

theorem kn (x y:SlotM) (B:Nat) (w:World) (hx:SlotM.good w B x) (hy:SlotM.good w B y) (hB:B<=w.heap.size):Calls Tryz.prog 90 #[x.v,y.v] w fun e w'=>e = .returned (.bool (decide (x.p=y.p)))/\Below w.heap.size w w':=by
 have Hr:=aa (fun (u:World) (hb:Below w.heap.size w u)=>oB x.r y.r w.heap.size u (reg_stable.below (reg_stable.more hx.2 hB) hb) (reg_stable.below (reg_stable.more hy.2 hB) hb) hb.size)
 have HP:=aa (zB x.p y.p)
 rw [HP.out]
 clear HP
 unfold SlotM.p
 simp only
 obtain ⟨qr,hr⟩:∃q,decide (x.r.p=y.r.p)=q:=⟨_,rfl⟩
 simp only [hr] at Hr ⊢
 clear hr hx hy
 obtain ⟨VX,hVX⟩:∃V,x.v=V:=⟨_,rfl⟩
 obtain ⟨VY,hVY⟩:∃V,y.v=V:=⟨_,rfl⟩
 rw [hVX,hVY]
 obtain ⟨ha,pc,pn,pl,ac,an,al,⟨rk,inc,st,⟨vA,vc,vl⟩,⟨dA,dc,dl⟩,⟨oA,oc,ol⟩,la,⟨mA,mc,ml⟩⟩⟩:=x
 obtain ⟨ha2,pc2,pn2,pl2,ac2,an2,al2,⟨rk2,inc2,st2,⟨vA2,vc2,vl2⟩,⟨dA2,dc2,dl2⟩,⟨oA2,oc2,ol2⟩,la2,⟨mA2,mc2,ml2⟩⟩⟩:=y
 have HVX:=aa (show VX = .agg #[.bool ha, .int .u64 pc, .int .u8 pn, .int .u32 pl, .int .u64 ac, .int .u8 an, .int .u32 al, .int .u8 rk, .int .u64 inc, .int .i64 st, .slice vA vl.length vc, .slice dA dl.length dc, .slice oA ol.length oc, .int .u64 la, .slice mA ml.length mc] from hVX.symm)
 have HVY:=aa (show VY = .agg #[.bool ha2, .int .u64 pc2, .int .u8 pn2, .int .u32 pl2, .int .u64 ac2, .int .u8 an2, .int .u32 al2, .int .u8 rk2, .int .u64 inc2, .int .i64 st2, .slice vA2 vl2.length vc2, .slice dA2 dl2.length dc2, .slice oA2 ol2.length oc2, .int .u64 la2, .slice mA2 ml2.length mc2] from hVY.symm)
 clear hVX hVY
 simp only [RegM.v,Sl.v] at Hr ⊢
 go_enter Tryz.func90,Tryz.ntmps90
 go_upto_region 0 with fail
 refine wp_region_lit ?_
 refine aw 72 rfl _ rfl rfl HVX.out ?_
 intro W0 HX0 HB0 HZ0
 simp only [Act.put,List.setIfInBounds_toArray,List.set_cons_zero,List.set_cons_succ]
 refine aw 72 rfl _ rfl rfl HVY.out ?_
 intro W1 HY1 HB1 HZ1
 simp only [Act.put,List.setIfInBounds_toArray,List.set_cons_zero,List.set_cons_succ]
 have HX1:=aa (HX0.out.below HB1.out)
 have HW1:=aa (HB0.out.trans (HB1.out.mono (by have:=HZ0.out;omega)))
 clear HX0 HB0 HB1
 have hcx:=HX1.out.cell
 have hcy:=HY1.out.cell
 go_upto_region 1 with fail
 refine wp_region_lit ?_
 try simp only [List.append_eq,List.cons_append,List.nil_append]
 by_cases c_ha:ha=ha2
 case neg =>
  have hd:(ha == ha2)=false:=beq_eq_false_iff_ne.2 c_ha
  have HE:=aa (decide_eq_false c_ha)
  have HNE:=aa c_ha
  clear c_ha
  refine ax 5 ?_
  intro L HL
  simp only [List.take_succ_cons,List.take_zero,List.cons_append,List.nil_append]
  go_wp2_with fail
  all_goals first
   | (exact absurd ‹ha=ha2› HNE.out)
   | (rw [<- HL.out];exact aY (by assumption) 4 (by rfl) (.bool false) (by kernel_rfl) (by kernel_rfl) (by kernel_rfl) ⟨by rw [HE.out];simp,HW1.out⟩)
 subst c_ha
 refine ax 5 ?_
 intro L HL
 simp only [List.take_succ_cons,List.take_zero,List.cons_append,List.nil_append]
 go_wp2_with fail
 rw [<- HL.out]
 simp only [List.drop_succ_cons,List.drop_zero]
 clear HL
 by_cases c_pc:pc=pc2
 case neg =>
  have hd:((pc:Int) == pc2)=false:=beq_eq_false_iff_ne.2 (by omega)
  have HE:=aa (decide_eq_false c_pc)
  have HNE:=aa c_pc
  clear c_pc
  refine ax 7 ?_
  intro L HL
  simp only [List.take_succ_cons,List.take_zero,List.cons_append,List.nil_append]
  go_wp2_with fail
  all_goals first
   | (exact absurd ‹pc=pc2› HNE.out)
   | (rw [<- HL.out];exact aY (by assumption) 4 (by rfl) (.bool false) (by kernel_rfl) (by kernel_rfl) (by kernel_rfl) ⟨by rw [HE.out];simp,HW1.out⟩)
 subst c_pc
 by_cases c_pn:pn=pn2
 case neg =>
  have hd:((pn:Int) == pn2)=false:=beq_eq_false_iff_ne.2 (by omega)
  have HE:=aa (decide_eq_false c_pn)
  have HNE:=aa c_pn
  clear c_pn
  refine ax 7 ?_
  intro L HL
  simp only [List.take_succ_cons,List.take_zero,List.cons_append,List.nil_append]
  go_wp2_with fail
  all_goals first
   | (exact absurd ‹pn=pn2› HNE.out)
   | (rw [<- HL.out];exact aY (by assumption) 4 (by rfl) (.bool false) (by kernel_rfl) (by kernel_rfl) (by kernel_rfl) ⟨by rw [HE.out];simp,HW1.out⟩)
 subst c_pn
 by_cases c_pl:pl=pl2
 case neg =>
  have hd:((pl:Int) == pl2)=false:=beq_eq_false_iff_ne.2 (by omega)
  have HE:=aa (decide_eq_false c_pl)
  have HNE:=aa c_pl
  clear c_pl
  refine ax 7 ?_
  intro L HL
  simp only [List.take_succ_cons,List.take_zero,List.cons_append,List.nil_append]
  go_wp2_with fail
  all_goals first
   | (exact absurd ‹pl=pl2› HNE.out)
   | (rw [<- HL.out];exact aY (by assumption) 4 (by rfl) (.bool false) (by kernel_rfl) (by kernel_rfl) (by kernel_rfl) ⟨by rw [HE.out];simp,HW1.out⟩)
 subst c_pl
 refine ax 7 ?_
 intro L HL
 simp only [List.take_succ_cons,List.take_zero,List.cons_append,List.nil_append]
 go_wp2_with fail
 rw [<- HL.out]
 simp only [List.drop_succ_cons,List.drop_zero]
 clear HL
 by_cases c_ac:ac=ac2
 case neg =>
  have hd:((ac:Int) == ac2)=false:=beq_eq_false_iff_ne.2 (by omega)
  have HE:=aa (decide_eq_false c_ac)
  have HNE:=aa c_ac
  clear c_ac
  refine ax 7 ?_
  intro L HL
  simp only [List.take_succ_cons,List.take_zero,List.cons_append,List.nil_append]
  go_wp2_with fail
  all_goals first
   | (exact absurd ‹ac=ac2› HNE.out)
   | (rw [<- HL.out];exact aY (by assumption) 4 (by rfl) (.bool false) (by kernel_rfl) (by kernel_rfl) (by kernel_rfl) ⟨by rw [HE.out];simp,HW1.out⟩)
 subst c_ac
 by_cases c_an:an=an2
 case neg =>
  have hd:((an:Int) == an2)=false:=beq_eq_false_iff_ne.2 (by omega)
  have HE:=aa (decide_eq_false c_an)
  have HNE:=aa c_an
  clear c_an
  refine ax 7 ?_
  intro L HL
  simp only [List.take_succ_cons,List.take_zero,List.cons_append,List.nil_append]
  go_wp2_with fail
  all_goals first
   | (exact absurd ‹an=an2› HNE.out)
   | (rw [<- HL.out];exact aY (by assumption) 4 (by rfl) (.bool false) (by kernel_rfl) (by kernel_rfl) (by kernel_rfl) ⟨by rw [HE.out];simp,HW1.out⟩)
 subst c_an
 by_cases c_al:al=al2
 case neg =>
  have hd:((al:Int) == al2)=false:=beq_eq_false_iff_ne.2 (by omega)
  have HE:=aa (decide_eq_false c_al)
  have HNE:=aa c_al
  clear c_al
  refine ax 7 ?_
  intro L HL
  simp only [List.take_succ_cons,List.take_zero,List.cons_append,List.nil_append]
  go_wp2_with fail
  all_goals first
   | (exact absurd ‹al=al2› HNE.out)
   | (rw [<- HL.out];exact aY (by assumption) 4 (by rfl) (.bool false) (by kernel_rfl) (by kernel_rfl) (by kernel_rfl) ⟨by rw [HE.out];simp,HW1.out⟩)
 subst c_al
 refine ax 7 ?_
 intro L HL
 simp only [List.take_succ_cons,List.take_zero,List.cons_append,List.nil_append]
 go_wp2_with fail
 rw [<- HL.out]
 simp only [List.drop_succ_cons,List.drop_zero]
 clear HL
 have HRR:=aa (Hr.out _ HW1.out)
 refine ax 7 ?_
 intro L HL
 simp only [List.take_succ_cons,List.take_zero,List.cons_append,List.nil_append]
 go_wp2_with fail
 refine HRR.out.mono ?_
 rintro en w2 ⟨rfl,hb1⟩
 have HW2:=aa (HW1.out.trans (hb1.mono HW1.out.size))
 have HX2:=aa (HX1.out.below hb1)
 have HY2:=aa (HY1.out.below hb1)
 clear hb1 hcx hcy HRR
 have hcx:=HX2.out.cell
 have hcy:=HY2.out.cell
 go_wp2_with fail
 cases qr with
 | false =>
  rw [<- HL.out]
  exact aY (by assumption) 4 (by rfl) (.bool false) (by kernel_rfl) (by kernel_rfl) (by kernel_rfl) ⟨by simp,HW2.out⟩
 | true =>
 rw [<- HL.out]
 simp only [List.drop_succ_cons,List.drop_zero]
 clear HL
 go_wp2
 go_ret
 exact ⟨by simp,HW2.out⟩

def oO (a b:StaP) (k:Nat):Bool:=(List.range k).all fun i=>decide (a.f i=b.f i)
def gU (a b:StaP):Bool:=oO a b 16 && (decide (a.fe=b.fe) && (decide (a.li=b.li) && decide (a.cf=b.cf)))
theorem wI {a b:StaP} {i k:Nat} (hi:i<k) (h:decide (a.f i=b.f i)=false):oO a b k=false:=by
 unfold oO
 rw [<- Bool.not_eq_true,List.all_eq_true]
 intro hh
 have:=hh i (List.mem_range.2 hi)
 rw [h] at this
 cases this
theorem iM {a b:StaP} {k:Nat} (h:∀i,i<k->decide (a.f i=b.f i)=true):oO a b k=true:=by
 unfold oO
 rw [List.all_eq_true]
 exact fun i hi=>h i (List.mem_range.1 hi)

theorem jq (x y:StaM) (B:Nat) (w:World) (hx:StaM.good w B x) (hy:StaM.good w B y) (hB:B<=w.heap.size):Calls Tryz.prog 36 #[x.v,y.v] w fun e w'=>e = .returned (.bool (gU x.p y.p))/\Below w.heap.size w w':=by
 have HXG:=aa (fun (u:World) (hb:Below w.heap.size w u)=>(hx.more hB).below hb)
 have HYG:=aa (fun (u:World) (hb:Below w.heap.size w u)=>(hy.more hB).below hb)
 have HVX:=aa (show x.v = .agg x.box from rfl)
 have HVY:=aa (show y.v = .agg y.box from rfl)
 obtain ⟨VX,hVX⟩:∃V,x.v=V:=⟨_,rfl⟩
 obtain ⟨VY,hVY⟩:∃V,y.v=V:=⟨_,rfl⟩
 rw [hVX] at HVX ⊢
 rw [hVY] at HVY ⊢
 clear hVX hVY hx hy
 go_enter Tryz.func36,Tryz.ntmps36
 go_upto_region 0 with fail
 refine wp_region_lit ?_
 refine aw 75 (by rfl) _ (by rfl) (by rfl) HVX.out ?_
 intro W0 HX0 HB0 HZ0
 simp only [Act.put,List.setIfInBounds_toArray,List.set_cons_zero,List.set_cons_succ]
 refine aw 75 (by rfl) _ (by rfl) (by rfl) HVY.out ?_
 intro W1 HY1 HB1 HZ1
 simp only [Act.put,List.setIfInBounds_toArray,List.set_cons_zero,List.set_cons_succ]
 have HX1:=aa (HX0.out.below HB1.out)
 have HW1:=aa (HB0.out.trans (HB1.out.mono HB0.out.size))
 obtain ⟨gx,hgx⟩:∃g,w.heap.size=g:=⟨_,rfl⟩
 obtain ⟨gy,hgy⟩:∃g,W0.heap.size=g:=⟨_,rfl⟩
 rw [hgx] at HX1 ⊢
 rw [hgy] at HY1 ⊢
 clear HX0 HB0 HB1 HZ0 HZ1 HVX HVY hgx hgy
 go_upto_region 2 with fail
 go_loopw [5,6] (fun _ i wr=>∃k:Nat,k<=16/\i = .int .i64 k/\Hid (∀j,j<k->decide (x.p.f j=y.p.f j)=true)/\Hid (BoxAt wr gx x.box 75)/\Hid (BoxAt wr gy y.box 75)/\Hid (Below w.heap.size w wr)) (fun _ i _=>16 - (intOf i).toNat)
 case atStart=>exact ⟨0,Nat.zero_le _,rfl,aa fun j hj=>absurd hj (by omega),HX1,HY1,HW1⟩
 case round =>
  obtain ⟨k,hk,rfl,HJ,HX,HY,HB⟩:=hrel
  have hzx:gx<wr.heap.size:=HX.out.lt
  have hzy:gy<wr.heap.size:=HY.out.lt
  by_cases hlt:k<16
  case neg =>
   have hk16:16=k:=by omega
   subst hk16
   have HSB:=aa (iM HJ.out)
   have HCC:=aa (fun (u:World) (h:Below w.heap.size w u)=>mD x.cf y.cf w.heap.size u (HXG.out u h).cf (HYG.out u h).cf h.size)
   have HGX:=aa x.cf_get
   have HGY:=aa y.cf_get
   obtain ⟨qc,hqc⟩:∃q,decide (x.cf.p=y.cf.p)=q:=⟨_,rfl⟩
   have HQ:=aa (show gU x.p y.p=(decide (x.fe=y.fe) && (decide (x.li=y.li) && qc)) from by unfold gU;rw [HSB.out,Bool.true_and,<- hqc];rfl)
   simp only [hqc] at HCC
   clear hqc
   obtain ⟨VCx,hVCx⟩:∃V,x.cf.v=V:=⟨_,rfl⟩
   have HVCx:=aa (show VCx = .agg x.cf.cs.toArray from hVCx.symm)
   simp only [hVCx] at HCC
   clear hVCx
   obtain ⟨VCy,hVCy⟩:∃V,y.cf.v=V:=⟨_,rfl⟩
   have HVCy:=aa (show VCy = .agg y.cf.cs.toArray from hVCy.symm)
   simp only [hVCy] at HCC
   clear hVCy
   have rx0:=(HX.out.cell 240).trans x.cell_fe
   have rx1:=(HX.out.cell 241).trans x.cell_li
   have ry0:=(HY.out.cell 240).trans y.cell_fe
   have ry1:=(HY.out.cell 241).trans y.cell_li
   obtain ⟨fx,hfx⟩:∃f,x.fe=f:=⟨_,rfl⟩
   obtain ⟨fy,hfy⟩:∃f,y.fe=f:=⟨_,rfl⟩
   obtain ⟨lx,hlx⟩:∃f,x.li=f:=⟨_,rfl⟩
   obtain ⟨ly,hly⟩:∃f,y.li=f:=⟨_,rfl⟩
   rw [hfx] at rx0 HQ
   rw [hfy] at ry0 HQ
   rw [hlx] at rx1 HQ
   rw [hly] at ry1 HQ
   clear hfx hfy hlx hly
   by_cases cfx:fx=fy
   case neg =>
    have hd:((fx:Int) == (fy:Int))=false:=beq_eq_false_iff_ne.2 (by omega)
    have HD:=aa (decide_eq_false cfx)
    clear cfx
    go_wp2
    go_ret
    exact ⟨by rw [HQ.out,HD.out];simp,HB.out⟩
   subst cfx
   by_cases clx:lx=ly
   case neg =>
    have hd:((lx:Int) == (ly:Int))=false:=beq_eq_false_iff_ne.2 (by omega)
    have HD:=aa (decide_eq_false clx)
    clear clx
    go_wp2
    go_ret
    exact ⟨by rw [HQ.out,HD.out];simp,HB.out⟩
   subst clx
   go_wp2_with (first|(refine bi 52 (by rfl) _ (by rfl) aW da HX.out (by rfl) HGX.out (by rfl) ?_;rw [<- HVCx.out])|(refine bi 52 (by rfl) _ (by rfl) aW da HY.out (by rfl) HGY.out (by rfl) ?_;rw [<- HVCy.out]))
   refine (HCC.out _ HB.out).mono ?_
   rintro en w2 ⟨rfl,hb2⟩
   have HB2:=aa (HB.out.trans (hb2.mono HB.out.size))
   clear hb2 rx0 rx1 ry0 ry1 hzx hzy
   go_wp2
   go_ret
   exact ⟨by rw [HQ.out];simp,HB2.out⟩
  have HCC:=aa (fun (u:World) (h:Below w.heap.size w u)=>kn (x.f k) (y.f k) w.heap.size u ((HXG.out u h).sl k hlt).1 ((HYG.out u h).sl k hlt).1 h.size)
  have HGX:=aa (x.slot_get hlt)
  have HGY:=aa (y.slot_get hlt)
  obtain ⟨q,hq⟩:∃q,decide ((x.f k).p=(y.f k).p)=q:=⟨_,rfl⟩
  simp only [hq] at HCC
  have HQ:=aa (show decide (x.p.f k=y.p.f k)=q from hq)
  obtain ⟨VCx,hVCx⟩:∃V,(x.f k).v=V:=⟨_,rfl⟩
  have HVCx:=aa (show VCx = .agg (x.f k).box from hVCx.symm)
  simp only [hVCx] at HCC
  clear hVCx
  obtain ⟨VCy,hVCy⟩:∃V,(y.f k).v=V:=⟨_,rfl⟩
  have HVCy:=aa (show VCy = .agg (y.f k).box from hVCy.symm)
  simp only [hVCy] at HCC
  clear hVCy
  have HZX:=aa (show (x.f k).box.size=15 from rfl)
  have HZY:=aa (show (y.f k).box.size=15 from rfl)
  have HSS:=aa (fun (u:World) (h:Below wr.heap.size wr u)=>(⟨HX.out.below h,HY.out.below h⟩:BoxAt u gx x.box 75/\BoxAt u gy y.box 75))
  have HD:=aa (show Below wr.heap.size wr wr.drew from (Below.refl _ _).drew)
  clear hq
  go_upto_region 4 with fail
  refine wp_region_held_drew (S:=fun u=>BoxAt u gx x.box 75/\BoxAt u gy y.box 75) (by kernel_rfl) (HSS.out _ HD.out) (fun hHeld => ?_)
  refine tkY 0 9 ?v1 rfl ?hy1 (by assumption) ?rest1
  case hy1=>intro w hSw;clear hSw;go_simp <;> with_reducible rfl
  simp only [Act.put,sTI,sT0,sT1]
  refine tkY 1 10 ?v2 rfl ?hy2 (by assumption) ?rest2
  case hy2=>intro w hSw;clear hSw;go_simp <;> with_reducible rfl
  simp only [Act.put,sTI,sT0,sT1]
  refine tkY 2 11 ?v3 rfl ?hy3 (by assumption) ?rest3
  case hy3=>intro w hSw;clear hSw;go_simp <;> with_reducible rfl
  simp only [Act.put,sTI,sT0,sT1]
  refine wpAnyH_take (i:=3) (oi:=⟨some 12,_,_,_,_,_⟩) (v:=VCx) rfl (by kernel_rfl) (by kernel_rfl) (by kernel_rfl) (fun _ _ _ h=>h) (pZ 72 (by rfl) _ (by rfl) bN rI HVCx.out (fun _ h=>h.1) HGX.out HZX.out (by rfl)) (by assumption) ?_
  simp only [Act.put,sTI,sT0,sT1]
  refine tkY 4 13 ?v4 rfl ?hy4 (by assumption) ?rest4
  case hy4=>intro w hSw;clear hSw;go_simp <;> with_reducible rfl
  simp only [Act.put,sTI,sT0,sT1]
  refine tkY 5 14 ?v5 rfl ?hy5 (by assumption) ?rest5
  case hy5=>intro w hSw;clear hSw;go_simp <;> with_reducible rfl
  simp only [Act.put,sTI,sT0,sT1]
  refine tkY 6 15 ?v6 rfl ?hy6 (by assumption) ?rest6
  case hy6=>intro w hSw;clear hSw;go_simp <;> with_reducible rfl
  simp only [Act.put,sTI,sT0,sT1]
  refine wpAnyH_take (i:=7) (oi:=⟨some 16,_,_,_,_,_⟩) (v:=VCy) rfl (by kernel_rfl) (by kernel_rfl) (by kernel_rfl) (fun _ _ _ h=>h) (pZ 72 (by rfl) _ (by rfl) bN rI HVCy.out (fun _ h=>h.2) HGY.out HZY.out (by rfl)) (by assumption) ?_
  simp only [Act.put,sTI,sT0,sT1]
  refine wpAnyH_ready (rs:=[8]) (by kernel_rfl) (by simp) ?_
  refine AllReadyH.cons rfl (fun K hK => ?_) AllReadyH.nil
  go_simp
  go_wp2_with fail
  refine (HCC.out _ (HB.out.trans (HD.out.mono HB.out.size))).mono ?_
  rintro en u1 ⟨rfl,hb1⟩
  have HU1:=aa (HD.out.trans (hb1.mono HD.out.size))
  clear hb1
  refine hK.out _ _ (HSS.out _ HU1.out) (fun hHeld => ?_)
  clear hK K
  refine tkY 9 18 (.bool (!q)) rfl ?hy7 (by assumption) ?rest7
  case hy7=>intro w hSw;clear hSw;go_simp <;> with_reducible rfl
  simp only [Act.put,sTI,sT0,sT1]
  refine wpAnyH_done (by kernel_rfl) ?_ _
  clear hHeld
  have HB2:=aa (HB.out.trans (HU1.out.mono HB.out.size))
  cases q with
  | false =>
   have HF:=aa (show gU x.p y.p=false from by unfold gU;rw [wI hlt HQ.out];rfl)
   go_wp2
   go_ret
   exact ⟨by rw [HF.out];rfl,HB2.out⟩
  | true =>
   go_wp2
   go_roundw
   case rel =>
    refine ⟨k+1,by omega,by go_num,aa fun j hj => ?_,aa (HX.out.below HU1.out),aa (HY.out.below HU1.out),HB2⟩
    by_cases e:j=k
    ·subst e
     exact HQ.out
    ·exact HJ.out j (by omega)
   case measure=>simp [intOf];omega


theorem ef {w w1 w2:World} {g:Nat} (h:w.grownBy w1 (some g)) (hb:Below w.heap.size w1 w2):w.grownBy w2 (some g) :=
 ⟨hb.os.trans h.os,hb.tape.trans h.tape,hb.output.trans h.output,Nat.le_trans h.size hb.size,fun k hk hne=>(hb.block k hk).trans (h.block k hk hne)⟩
theorem Rdr.low {w w':World} {g B:Nat} {l:List UInt8} {er:Int} (h:Rdr w g l er) (hb:Below B w w') (hg:g<B):Rdr w' g l er:=by
 obtain ⟨A,c,h1,h2,h3⟩:=h
 exact ⟨A,c,(hb.block g hg).trans h1,h2.below (hb.mono (by omega)),h3⟩

section
variable {P : Program} {w : World} {ops : Array Oper} {rest : List Oper} {o : Oper} {a : Act} {Q : Exit -> Act -> World -> Prop}
theorem fN (ty:TypeId) (parts:Array (Nat × Operand)) (ho:o.op = .build ty parts) (hgd:Region.wanted o (yielded ops a.tmps)=true) (vals:Array (Nat × Value)) (hp:(parts.map fun (i,x)=>(i,a.eval x))=vals) {V:Value} (hr:(Instr.build ty vals).run P w = .ok V w) (h:wpList P ops Q rest (a.put o.dst V) w):wpList P ops Q (o::rest) a w:=by
 subst hp
 exact br ty parts ho hgd hr h
end

def EV (f t:List UInt8) (g:Nat) (w:World) (e:Ending) (w':World):Prop :=
 ∃A c,e = .returned (.slice A f.length c)/\w'.ownsRow w.heap.size 5 1 (.slice A f.length c) f.length (bv f)/\Rdr w' g t 0/\w.grownBy w' (some g)

theorem ja (f t:List UInt8) (g n:Nat) (w:World) (h:Rdr w g (bG f++t) 0) (hn:f.length=n) (hm:n<=64) (hl:(bG f++t).length<=1000000) :
  Calls Tryz.prog 208 #[.pointer (some ⟨g,0,none⟩)] w (EV f t g w):=by
 have hgl:g<w.heap.size:=h.glt
 have HN:=aa hn
 obtain ⟨s1,hs1⟩:∃s,f.flatMap ndB++t=s:=⟨_,rfl⟩
 have e0:bG f++t=numB n++s1:=by rw [<- hs1,<- hn];simp [bG]
 rw [e0] at h hl
 have HC:=aa (iH 64 h hm (by omega) hl)
 have HL:=aa (show s1.length<=1000000 from by rw [List.length_append] at hl;omega)
 have HS:=aa hs1
 have HD:=aa (show (f.drop 0).flatMap ndB++t=s1 from hs1)
 have HD0:=aa (show (f.drop n).flatMap ndB++t=t from by rw [List.drop_eq_nil_of_le (by omega)];rfl)
 clear h hn hs1 e0 hl
 go_enter Tryz.func208,Tryz.ntmps208
 go_wp2_with fail
 refine HC.out.mono ?_
 rintro en w1 ⟨rfl,hr1,hg1⟩
 have HR1:=aa hr1
 have HG1:=aa hg1
 clear hr1 hg1 HC
 go_wp2
 go_loopw [3,6] (fun v i wr=>∃k:Nat,k<=n/\i = .int .u64 k/\Hid (wr.ownsRow w.heap.size 5 1 v k (bv (f.take k)))/\Hid (Rdr wr g ((f.drop k).flatMap ndB++t) 0)/\Hid (w.grownBy wr (some g))) (fun _ i _=>n - (intOf i).toNat)
 case atStart=>exact ⟨0,Nat.zero_le _,rfl,aa (World.ownsRow_nil _ _ _ _),aa (by rw [HD.out];exact HR1.out),HG1⟩
 case round =>
  obtain ⟨k,hk,rfl,HO,HR,HG⟩:=hrel
  have hzw:w.heap.size<=wr.heap.size:=HG.out.size
  by_cases hlt:k<n
  ·obtain ⟨x,hx⟩:∃x,f[k]?=some x:=⟨_,List.getElem?_eq_getElem (by rw [HN.out];exact hlt)⟩
   obtain ⟨hkl,hxx⟩:=List.getElem?_eq_some_iff.1 hx
   obtain ⟨s2,hs2⟩:∃s,(f.drop (k+1)).flatMap ndB++t=s:=⟨_,rfl⟩
   have e1:(f.drop k).flatMap ndB++t=numB x.toNat++s2:=by rw [List.drop_eq_getElem_cons hkl,hxx,List.flatMap_cons,List.append_assoc,hs2];rfl
   have hsl:((f.drop k).flatMap ndB++t).length<=1000000:=by
    have h1:((f.drop k).flatMap ndB++t).length<=s1.length:=by
     rw [<- HS.out]
     conv=>rhs;rw [<- List.take_append_drop k f,List.flatMap_append]
     simp only [List.length_append]
     omega
    have:=HL.out
    omega
   rw [e1] at hsl HR
   have hx256:=x.toNat_lt
   have HCL:=aa (iH 255 HR.out (by omega) (by omega) hsl)
   have HT2:=aa (show bv (f.take k)++[.int .u8 (x.toNat:Int)]=bv (f.take (k+1)) from by rw [List.take_succ_eq_append_getElem hkl,bv_append,hxx];rfl)
   have HS2:=aa hs2
   have h255:x.toNat<=255:=by omega
   clear hx hkl hxx hs2 e1 hsl hx256 HR
   generalize x.toNat=y at HCL HT2 h255
   go_wp2_with fail
   refine HCL.out.mono ?_
   rintro e w2 ⟨rfl,hr2,hg2⟩
   have HR2:=aa hr2
   have HG2:=aa (ag HG.out hg2)
   have HO2:=aa (aM HO.out (fun e=>kl HO.out hgl e.symm) hg2)
   have hz2:w.heap.size<=w2.heap.size:=HG2.out.size
   clear hr2 hg2 HCL HO HG
   go_wp2_with (at_builtin;refine bV (P:=Tryz.prog) _ rfl (.tmp 8) (.tmp 12) 50 rfl w.heap.size 5 bT Tryz.underlying50 _ k (bv (f.take k)) _ rfl HO2.out rfl (by omega) hz2 ?_;intro v1 w3 hown3 hb3;(have HO3:=aa hown3);(have HR3:=aa (HR2.out.low hb3 hgl));(have HG3:=aa (ef HG2.out hb3));clear hown3 hb3)
   go_roundw
   case rel=>exact ⟨k+1,by omega,by go_num,by rw [<- HT2.out];exact HO3,by rw [HS2.out];exact HR3,HG3⟩
   case measure=>simp [intOf];omega
  ·obtain rfl:k=n:=by omega
   have HO3:=aa (show wr.ownsRow w.heap.size 5 1 _ f.length (bv f) from by have h:=HO.out;rw [<- HN.out,List.take_length] at h;exact h)
   rw [HD0.out] at HR
   obtain ⟨A3,c3,hA3⟩:=bg HO3.out
   subst hA3
   go_wp2
   go_ret
   exact ⟨_,_,rfl,HO3.out,HR.out,HG.out⟩

theorem oP {g:Nat} {l:List UInt8} {w:World} (h:Rdr w g l 0):Calls Tryz.prog 209 #[.pointer (some ⟨g,0,none⟩)] w fun e w'=>e = .returned (.bool false)/\w=w':=by
 by_cases hl:l=[]
 ·go_enter Tryz.func209,Tryz.ntmps209
  go_wp2_with (refine (fH h 0 (by rw [if_pos rfl,if_pos hl])).mono ?_;rintro e w1 ⟨rfl,rfl⟩)
  go_ret
  exact ⟨rfl,rfl⟩
 ·go_enter Tryz.func209,Tryz.ntmps209
  go_wp2_with (refine (fH h 4 (by rw [if_pos rfl,if_neg hl])).mono ?_;rintro e w1 ⟨rfl,rfl⟩)
  go_ret
  exact ⟨rfl,rfl⟩

theorem fO:(Tryz.prog.info? 52).map (fun i=>(i.zero,i.size))=some (some (.agg zeroCf.cs.toArray),3):=by kernel_rfl
theorem tE:(Tryz.prog.info? 202).map (fun i=>(i.zero,i.size))=some (some (.agg #[.slice none 0 0, .slice none 0 0]),2):=by kernel_rfl
theorem NFresh.nil (w:World) (lo:Nat):NFresh w lo ⟨none,0,[]⟩:=⟨World.ownsRow_nil _ _ _ _,by simp⟩
theorem NFresh.cell {w:World} {lo z i:Nat} {v:Value} {x:NdM} {cs:Array Value} {t:TypeId} (h:NFresh w lo x) (hb:BoxAt w z cs t) (ht:t≠5):NFresh (w.setCell ⟨z,i,none⟩ v) lo x :=
 ⟨aM h.1 (hb.apart9 ht h.1) (aE w z i v),h.2⟩
theorem wJ (C:Nat) (A1 A2:Option Addr) (n1 c1 n2 c2:Nat) (u:World):(Instr.build 52 #[(0, .int .u64 C),(1, .slice A1 n1 c1),(2, .slice A2 n2 c2)]).run Tryz.prog u = .ok (.agg #[.int .u64 C, .slice A1 n1 c1, .slice A2 n2 c2]) u:=by kernel_rfl


structure CGet (cf:CfP) (t:List UInt8) (g z0 z1 k:Nat) (o n:NdM) (w wr:World):Prop where
 box:BoxAt wr z1 #[o.v,n.v] 202
 zero:BoxAt wr z0 zeroCf.cs.toArray 52
 old:NFresh wr w.heap.size o
 new:NFresh wr w.heap.size n
 rdr:Rdr wr g (if k=0 then bG cf.2.1++(bG cf.2.2++t) else if k=1 then bG cf.2.2++t else t) 0
 grow:w.grownBy wr (some g)
 one:1<=k->o.l=cf.2.1
 two:2<=k->n.l=cf.2.2

def DM (cf:CfP) (t:List UInt8) (g:Nat) (w:World) (e:Ending) (w':World):Prop :=
 ∃y:CfM,e = .returned y.v/\y.p=cf/\CFresh w' w.heap.size y/\Rdr w' g t 0/\w.grownBy w' (some g)

theorem qy (cf:CfP) (t:List UInt8) (g:Nat) (w:World) (hc:cf.1<18446744073709551616) (h1:cf.2.1.length<=64) (h2:cf.2.2.length<=64) (hmay:mayC cf.1 cf.2.1 cf.2.2=true) (h:Rdr w g (confB cf++t) 0) (hl:(confB cf++t).length<=1000000) :
  Calls Tryz.prog 136 #[.pointer (some ⟨g,0,none⟩)] w (DM cf t g w):=by
 obtain ⟨R,hR⟩:∃R,DM cf t g w=R:=⟨_,rfl⟩
 rw [hR]
 have HFD:=aa (fun (e:Ending) (w':World) (y:CfM) (h1:e = .returned y.v) (h2:y.p=cf) (h3:CFresh w' w.heap.size y) (h4:Rdr w' g t 0) (h5:w.grownBy w' (some g))=>show R e w' from by rw [<- hR];exact ⟨y,h1,h2,h3,h4,h5⟩)
 have hgl:g<w.heap.size:=h.glt
 have HGL:=aa hgl
 have HMAY:=aa hmay
 have HH1:=aa h1
 have HH2:=aa h2
 obtain ⟨s1,hs1⟩:∃s,bG cf.2.1++(bG cf.2.2++t)=s:=⟨_,rfl⟩
 have e0:confB cf++t=numB cf.1++s1:=by rw [<- hs1];simp [confB]
 rw [e0] at h hl
 have HL:=aa (show (bG cf.2.1++(bG cf.2.2++t)).length<=1000000/\(bG cf.2.2++t).length<=1000000 from by rw [List.length_append,<- hs1] at hl;simp only [List.length_append] at hl ⊢;omega)
 have HR0:=aa h
 have HLL:=aa hl
 have HC:=aa hc
 have HS1:=aa hs1
 clear hR h hl e0 hs1 hc h1 h2 hmay
 obtain ⟨C,ol,nl⟩:=cf
 simp only at HMAY HR0 HL HLL HC HH1 HH2 HS1
 go_enter Tryz.func136,Tryz.ntmps136
 go_wp2_with (refine aq 52 (by rfl) (by rfl) fO ?_;intro W0 HY0 HB0 HZ0)
 have HG0:=aa (show w.grownBy W0 (some g) from ef (World.grownBy.refl w (some g)) HB0.out)
 have HR1:=aa (HR0.out.below HB0.out)
 have hz0:w.heap.size<W0.heap.size:=HY0.out.lt
 clear HR0
 refine (iH 18446744073709551615 HR1.out (by have:=HC.out;omega) HC.out HLL.out).mono ?_
 rintro en w1 ⟨rfl,hr1,hg1⟩
 have HR2:=aa hr1
 have HG1:=aa (ag HG0.out hg1)
 have HY1:=aa (show BoxAt w1 w.heap.size _ _ from aB hg1 HY0.out (by omega))
 clear hr1 hg1 HY0 HR1 HG0 HB0 HZ0 hz0
 go_upto_region 3 with (refine aq 202 (by rfl) (by rfl) tE ?_;intro W2 HX2 HB2 HZ2)
 obtain ⟨z1,hz1⟩:∃z,w1.heap.size=z:=⟨_,rfl⟩
 have HZ1:=aa (show w.heap.size<z1 from by rw [<- hz1];exact HY1.out.lt)
 rw [hz1] at HX2 ⊢
 have HGT:=aa (show CGet (C,ol,nl) t g w.heap.size z1 0 ⟨none,0,[]⟩ ⟨none,0,[]⟩ w W2 from ⟨HX2.out,HY1.out.below HB2.out,NFresh.nil _ _,NFresh.nil _ _,by simp only [if_true];rw [HS1.out];exact HR2.out.below HB2.out,ef HG1.out (HB2.out.mono HG1.out.size),by omega,by omega⟩)
 clear HX2 HY1 HB2 HZ2 HR2 HG1 hz1
 go_wp2
 go_loopw [9] (fun i wr=>∃(k:Nat) (o n:NdM),k<=2/\i = .int .i64 k/\Hid (CGet (C,ol,nl) t g w.heap.size z1 k o n w wr)) (fun i _=>2 - (intOf i).toNat)
 case atStart=>exact ⟨0,_,_,by omega,rfl,HGT⟩
 case round =>
  obtain ⟨k,o,n,hk,rfl,HK⟩:=hrel
  have hk3:k=0∨k=1∨k=2:=by omega
  clear hk HGT
  rcases hk3 with rfl|rfl|rfl
  ·have HRR:=aa (show Rdr wr g (bG ol++(bG nl++t)) 0 from HK.out.rdr)
   go_wp2_with fail
   refine (ja ol (bG nl++t) g _ wr HRR.out rfl HH1.out HL.out.1).mono ?_
   rintro en w4 ⟨A4,c4,rfl,ho4,hr4,hg4⟩
   have hzr:w.heap.size<=wr.heap.size:=HK.out.grow.size
   have HX4:=aa (show BoxAt w4 z1 _ _ from aB hg4 HK.out.box (by have:=HZ1.out;have:=HGL.out;omega))
   have HY4:=aa (show BoxAt w4 w.heap.size _ _ from aB hg4 HK.out.zero (by have:=HGL.out;omega))
   have HN4:=aa (show NFresh w4 w.heap.size ⟨A4,c4,ol⟩ from ⟨az ho4 hzr,by have:=HH1.out;simp only;omega⟩)
   have HM4:=aa (HK.out.new.grown hg4 (fun z e=>by injection e with e;have:=HGL.out;omega))
   have HG4:=aa (ag HK.out.grow hg4)
   have HR4:=aa hr4
   clear ho4 hr4 hg4 HK HRR
   have hzx:z1<w4.heap.size:=HX4.out.lt
   have c0:=HX4.out.cell 0
   simp at c0
   have f0:=HX4.out.free9 0
   go_wp2
   clear c0 f0
   go_roundw
   case rel=>exact ⟨1,⟨A4,c4,ol⟩,n,by omega,by go_num,aa ⟨HX4.out.set9 0 _,ee HY4.out (by have:=HZ1.out;omega),HN4.out.cell HX4.out (by decide),HM4.out.cell HX4.out (by decide),HR4.out.stored (by have:=HZ1.out;have:=HGL.out;omega),ab HG4.out (by have:=HZ1.out;omega),fun _=>rfl,by omega⟩⟩
   case measure=>simp [intOf]
  ·have HRR:=aa (show Rdr wr g (bG nl++t) 0 from HK.out.rdr)
   go_wp2_with fail
   refine (ja nl t g _ wr HRR.out rfl HH2.out HL.out.2).mono ?_
   rintro en w4 ⟨A4,c4,rfl,ho4,hr4,hg4⟩
   have hzr:w.heap.size<=wr.heap.size:=HK.out.grow.size
   have HX4:=aa (show BoxAt w4 z1 _ _ from aB hg4 HK.out.box (by have:=HZ1.out;have:=HGL.out;omega))
   have HY4:=aa (show BoxAt w4 w.heap.size _ _ from aB hg4 HK.out.zero (by have:=HGL.out;omega))
   have HN4:=aa (show NFresh w4 w.heap.size ⟨A4,c4,nl⟩ from ⟨az ho4 hzr,by have:=HH2.out;simp only;omega⟩)
   have HM4:=aa (HK.out.old.grown hg4 (fun z e=>by injection e with e;have:=HGL.out;omega))
   have HG4:=aa (ag HK.out.grow hg4)
   have HR4:=aa hr4
   have HO1:=aa (HK.out.one (by omega))
   clear ho4 hr4 hg4 HK HRR
   have hzx:z1<w4.heap.size:=HX4.out.lt
   have c0:=HX4.out.cell 1
   simp at c0
   have f0:=HX4.out.free9 1
   go_wp2
   clear c0 f0
   go_roundw
   case rel=>exact ⟨2,o,⟨A4,c4,nl⟩,by omega,by go_num,aa ⟨HX4.out.set9 1 _,ee HY4.out (by have:=HZ1.out;omega),HM4.out.cell HX4.out (by decide),HN4.out.cell HX4.out (by decide),HR4.out.stored (by have:=HZ1.out;have:=HGL.out;omega),ab HG4.out (by have:=HZ1.out;omega),fun _=>HO1.out,fun _=>rfl⟩⟩
   case measure=>simp [intOf]
  ·have hzx:z1<wr.heap.size:=HK.out.box.lt
   have HRR:=aa (show Rdr wr g t 0 from HK.out.rdr)
   have HO1:=aa (show o.l=ol from HK.out.one (by omega))
   have HN1:=aa (show n.l=nl from HK.out.two (by omega))
   have HX:=aa HK.out.box
   have HY:=aa HK.out.zero
   have HFO:=aa HK.out.old
   have HFN:=aa HK.out.new
   have HG:=aa HK.out.grow
   clear HK
   obtain ⟨oA,oc,ol'⟩:=o
   obtain ⟨nA,nc,nl'⟩:=n
   simp only at HO1 HN1
   obtain rfl:=HO1.out
   obtain rfl:=HN1.out
   simp only [NdM.v] at HX
   go_wp2_with fail
   refine (oP HRR.out).mono ?_
   rintro en w5 ⟨rfl,rfl⟩
   have c0:=HX.out.cell 0
   have c1:=HX.out.cell 1
   simp at c0 c1
   obtain ⟨y,hy⟩:∃y:CfM,y=⟨C,⟨oA,oc,ol'⟩,⟨nA,nc,nl'⟩⟩:=⟨_,rfl⟩
   have HBC:=aa (show ∀u,(Instr.build 52 #[(0, .int .u64 C),(1, .slice oA ol'.length oc),(2, .slice nA nl'.length nc)]).run Tryz.prog u = .ok (.agg y.cs.toArray) u from fun u=>by rw [hy];exact wJ C oA nA _ oc _ nc u)
   have HYP:=aa (show y.p=(C,ol',nl') from by rw [hy];rfl)
   have HYF:=aa (fun (u:World) (h1:NFresh u w.heap.size ⟨oA,oc,ol'⟩) (h2:NFresh u w.heap.size ⟨nA,nc,nl'⟩)=>show CFresh u w.heap.size y from by rw [hy];exact ⟨HC.out,h1,h2⟩)
   have HYV:=aa (show y.v = .agg y.cs.toArray from by rw [hy];rfl)
   have HYN:=aa (show y.cs.toArray.size=3 from rfl)
   have HYO:=aa (show y.cs.toArray.all (·.oneCell')=true from by rw [hy];simp [CfM.cs,NdM.v,Value.oneCell'])
   have HMY:=aa (fun (u:World) (hf:CFresh u w.heap.size y)=>show Calls Tryz.prog 89 #[.agg y.cs.toArray] u fun e w'=>e = .returned (.bool true)/\Below u.heap.size u w' from by have h:=mC y.C y.o y.n u.heap.size u hf.ok.2.1 hf.ok.2.2 (Nat.le_refl _);rw [show mayC y.C y.o.l y.n.l=true from by rw [hy];exact HMAY.out] at h;exact h)
   clear hy HMAY HO1 HN1
   obtain ⟨yc,hyc⟩:∃c,y.cs.toArray=c:=⟨_,rfl⟩
   rw [hyc] at HYV HYN HYO
   simp only [hyc] at HBC HMY
   clear hyc
   have HZR:=aa (show w.heap.size<=wr.heap.size from HG.out.size)
   go_upto_region 11 with (first|(refine fN 52 _ (by rfl) (by rfl) #[(0, .int .u64 C),(1, .slice oA ol'.length oc),(2, .slice nA nl'.length nc)] (by kernel_rfl) (HBC.out _) ?_)|(refine aq 52 (by rfl) (by rfl) fO ?_;intro W3 HX3 HB3 HS3)|(refine ai 52 (by rfl) _ _ (by rfl) aW (by rfl) (by rfl) (cs:=yc) (by rfl) HYN.out HYO.out HX3.out (by rfl) ?_;intro W4 HX4 HG4 HS4))
   have hgz:g<wr.heap.size:=HRR.out.glt
   have HO3:=aa (ao HFO.out.1 HB3.out)
   have HN3:=aa (ao HFN.out.1 HB3.out)
   have HF4:=aa (HYF.out W4 ⟨aM HO3.out (HX3.out.apart9 (by decide) HO3.out) HG4.out,HFO.out.2⟩ ⟨aM HN3.out (HX3.out.apart9 (by decide) HN3.out) HG4.out,HFN.out.2⟩)
   have HG5:=aa (aQ (ef HG.out (HB3.out.mono HZR.out)) HG4.out (fun k e=>by injection e with e;have:=HZR.out;omega))
   have HR5:=aa ((HRR.out.below HB3.out).other HG4.out (fun k e=>by injection e with e;omega))
   have HY5:=aa (show BoxAt W4 w.heap.size zeroCf.cs.toArray 52 from aB HG4.out (HY.out.below HB3.out) (by have:=HY.out.lt;omega))
   clear HO3 HN3 HFO HFN HG HRR HY HX HX3 HB3 HG4 HS4 HBC hgz c0 c1 hzx
   have hzx:wr.heap.size<W4.heap.size:=HX4.out.lt
   go_wp2_with (refine ak 52 (by rfl) _ (by rfl) aW da HX4.out (by rfl) HYN.out ?_)
   refine (HMY.out _ HF4.out).mono ?_
   rintro en w5 ⟨rfl,hb5⟩
   have HX6:=aa (HX4.out.below hb5)
   have HY6:=aa (HY5.out.below hb5)
   have HR6:=aa (HR5.out.below hb5)
   have HG6:=aa (aP HG5.out hb5)
   have HF6:=aa (show CFresh w5 w.heap.size y from ⟨HF4.out.1,⟨ao HF4.out.2.1.1 hb5,HF4.out.2.1.2⟩,⟨ao HF4.out.2.2.1 hb5,HF4.out.2.2.2⟩⟩)
   clear hzx hb5 HX4 HY5 HR5 HG5 HF4 HMY
   have hzx:wr.heap.size<w5.heap.size:=HX6.out.lt
   have hzy:w.heap.size<w5.heap.size:=HY6.out.lt
   go_wp2_with (first|(refine ak 52 (by rfl) _ (by rfl) aW da HX6.out (by rfl) HYN.out ?_)|(refine ai 52 (by rfl) _ _ (by rfl) aW (by rfl) (by rfl) (cs:=yc) (by rfl) HYN.out HYO.out HY6.out (by rfl) ?_;intro W7 HX7 HG7 HS7))
   refine bodyPost_ret (aD aW da (by rfl) (by rfl) HX7.out HYN.out) rfl ?_
   have hgl:=HGL.out
   refine HFD.out _ _ y (by rw [HYV.out]) HYP.out ⟨HF6.out.1,⟨aM HF6.out.2.1.1 (HY6.out.apart9 (by decide) HF6.out.2.1.1) HG7.out,HF6.out.2.1.2⟩,⟨aM HF6.out.2.2.1 (HY6.out.apart9 (by decide) HF6.out.2.2.1) HG7.out,HF6.out.2.2.2⟩⟩ (HR6.out.other HG7.out (fun k e=>by injection e with e;omega)) (aQ HG6.out HG7.out (fun k e=>by injection e with e;omega))
end Go.Proofs.YtnkjdijbfnmnhaaGreat
