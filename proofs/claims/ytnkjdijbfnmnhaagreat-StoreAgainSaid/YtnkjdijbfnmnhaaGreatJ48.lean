/-
  Texts of this claim put together: Jn6, Jn7, Jn8, Range13, Jn9, Jn10.
-/
import Derived.Test.YtnkjdijbfnmnhaaGreatJ47
import Derived.RangeFuncNested
import Derived.RangeFuncBound
import Derived.RangeFuncCalls
import Derived.RangeFuncLeaves
import Derived.Shelf.Abstract
import Derived.Shelf.RegionOpen
import Derived.WalkKit
import Derived.OwnWalkIn
import Derived.TacticsInMore
import Derived.LoopNIn
import Derived.LoopIn

namespace Go.Proofs.YtnkjdijbfnmnhaaGreat
set_option maxRecDepth 100000
set_option maxHeartbeats 12800000
open Go.RowKit Go.Shelf

attribute [local go_sem] Oper.semAt_some

def kz (b1 b2:Nat) (W W':World):Prop:=W'.heap[b1]?=W.heap[b1]?/\W'.heap[b2]?=W.heap[b2]?
theorem r9 {b1 b2:Nat} {A B C:World} (h:kz b1 b2 A B) (k:kz b1 b2 B C):kz b1 b2 A C:=⟨k.1.trans h.1,k.2.trans h.2⟩
theorem zV {b1 b2:Nat} {w:World} (h1:b1<w.heap.size) (h2:b2<w.heap.size) (W:World) (l:Nat) (o o':Obj) (hl:w.heap.size<=l) (_:W.heap[l]?=some o) (_:o.isCells=false) (_:o.isWalk=false):kz b1 b2 W (W.putObj l o') :=
 ⟨World.putObj_heap_other (by omega),World.putObj_heap_other (by omega)⟩

def sd (b n:Nat) (x:Nat):Array Value := #[.slice (some ⟨b,x * n,none⟩) n n]

theorem xF (F:Fence) (m:Nat) (h7:F.fn 338) (hro:F.round=none) (hm:1<=m) (l Bs Bn b n q z cap:Nat) (A:Option Addr) (hA:0<q->A=some ⟨b,0,none⟩) (hn1:64<=n) (hn2:n<=512) (hq:q<=4096) (hz:q * n=z) (hcap:z<=cap)
  (J Jx:List Nat->World->Prop) (hJd:∀xs W,J xs W->J xs W.drew)
  (hY:∀pre x W,J pre W->pre.length<q->x<q->YieldAt F (m - 1) Tryz.prog l (sd b n x) W fun e W' =>
   (e = .returned (.bool true)/\J (pre++[x]) W'/\kz Bs Bn W W')∨(e = .returned (.bool false)/\Jx (pre++[x]) W'))
  (W:World) (hBs:W.cell? ⟨Bs,0,none⟩=some (.slice A z cap)) (hBn:W.cell? ⟨Bn,0,none⟩=some (.int .i64 (n:Int))) (h0:J [] W) :
  CallsIn F m Tryz.prog 338 #[.func (.yield l) #[] #[], .pointer (some ⟨Bs,0,none⟩), .pointer (some ⟨Bn,0,none⟩)] W fun e W'=>(∃v,e = .returned v) /\
   ((∃ys,ys=List.range q/\J ys W')∨(∃pre,(∃k,k<=q/\pre=List.range k)/\Jx pre W')):=by
 have hz9:z<=2097152:=by
  have:=Nat.mul_le_mul hq hn2
  omega
 refine callsIn_of_wp Tryz.func338 rfl h7 ?_ hro
 simp only [Tryz.ntmps338,List.size_toArray,List.length_cons,List.length_nil,Nat.reduceAdd,Nat.reduceSub,Array.replicate_succ,Array.replicate_zero,List.push_toArray,List.append_toArray,List.nil_append,List.cons_append]
 gi_wp2
 gi_loopw [4] (fun i wr=>∃k p:Nat,k<=q/\k * n=p/\i = .int .i64 (p:Int)/\J (List.range k) wr/\kz Bs Bn W wr)
  (fun i _=>(z - (intOf i).toNat))
 case atStart=>exact ⟨0,0,Nat.zero_le _,by simp,rfl,h0,rfl,rfl⟩
 case round =>
  obtain ⟨k,p,hk,hp,rfl,hJs,hnx⟩:=hrel
  have hBs':=(World.cell?_of_block (a:=⟨Bs,0,none⟩) hnx.1).trans hBs
  have hBn':=(World.cell?_of_block (a:=⟨Bn,0,none⟩) hnx.2).trans hBn
  by_cases hlt:k<q
  ·have hpz:p+n<=z:=by
    have:=Nat.mul_le_mul (show k+1<=q from hlt) (Nat.le_refl n)
    rw [Nat.succ_mul] at this
    omega
   obtain ⟨fn,tmps,assign,body,hy,hR⟩:=hY _ k wr.drew (hJd _ _ hJs) (by rw [List.length_range];exact hlt) hlt
   simp only [sd] at hy
   rw [hp] at hy
   rw [hA (by omega)] at hBs'
   have hpl:p<z:=by omega
   have HP:=aa hp
   have HZ:=aa hz
   clear hp hz hk
   gi_wp2
   gi_region
   all_goals rw [if_neg (show ¬z - p<n from by omega)]
   all_goals gi_wp2
   all_goals refine hR.mono ?_
   all_goals rintro e W3 (⟨rfl,hJ3,hk3⟩ | ⟨rfl,hJx3⟩)
   all_goals try have hBn3:=(World.cell?_of_block (a:=⟨Bn,0,none⟩) hk3.2).trans hBn'
   all_goals gi_wp2
   all_goals first
    | (refine bodyPost_ret (results_none rfl _ _ _) rfl ?_;exact ⟨⟨_,rfl⟩, .inr ⟨_,⟨k+1,by omega,by rw [List.range_succ]⟩,hJx3⟩⟩)
    | exact ⟨⟨k+1,p+n,by omega,by rw [Nat.succ_mul,HP.out],by go_num,by rw [List.range_succ];exact hJ3,r9 hnx hk3⟩,by simp [intOf];omega⟩
  ·obtain rfl:k=q:=by omega
   have hpl:¬p<z:=by omega
   clear hz hp
   gi_wp2
   go_end0
   exact ⟨⟨_,rfl⟩, .inl ⟨_,rfl,hJs⟩⟩

theorem zW (F:Fence) (m:Nat) (h5:F.fn 323) (hro:F.round=none) (a:Option Addr) (len cap n:Nat) (hn1:64<=n) (w:World) :
  CallsIn F m Tryz.prog 323 #[.slice a len cap, .int .i64 (n:Int)] w fun e w'=>e = .returned (.func (.func 338) #[] #[.pointer (some ⟨w.heap.size,0,none⟩), .pointer (some ⟨w.heap.size+1,0,none⟩)])/\w'=(w.alloc (.cells #[.slice a len cap] 50)).alloc (.cells #[.int .i64 (n:Int)] 3):=by
 refine callsIn_of_wp Tryz.func323 rfl h5 ?_ hro
 simp only [Tryz.ntmps323,List.size_toArray,List.length_cons,List.length_nil,Nat.reduceAdd,Nat.reduceSub,Array.replicate_succ,Array.replicate_zero,List.push_toArray,List.append_toArray,List.nil_append,List.cons_append]
 have hno:¬(n:Int)<1:=by omega
 have hno2:¬n<1:=by omega
 gi_wp2
 go_ret
 exact ⟨rfl,rfl⟩

theorem qN (F:Fence) (m:Nat) (h7:F.fn 338) (hro:F.round=none) (hm:1<=m) (Bs Bn b n q z cap:Nat) (A:Option Addr) (hA:0<q->A=some ⟨b,0,none⟩) (hn1:64<=n) (hn2:n<=512) (hq:q<=4096) (hz:q * n=z) (hcap:z<=cap) (w:World) (hBs:Bs<w.heap.size) (hBn:Bn<w.heap.size)
  (hc:w.cell? ⟨Bs,0,none⟩=some (.slice A z cap)) (hc2:w.cell? ⟨Bn,0,none⟩=some (.int .i64 (n:Int))) :
  SeqStopsK F m Tryz.prog 338 #[.pointer (some ⟨Bs,0,none⟩), .pointer (some ⟨Bn,0,none⟩)] (fun x:{ x:Nat // x<q }=>sd b n x.1) (kz Bs Bn) (fun ys=>ys.map (·.1)=List.range q) (fun pre=>∃k,k<=q/\pre.map (·.1)=List.range k) q w:=fun l J Jx W hW hJ _ hY h0=>by
 have h:=xF F m h7 hro hm l Bs Bn b n q z cap A hA hn1 hn2 hq hz hcap (fun xs u=>∃ys:List { x:Nat // x<q },ys.map (·.1)=xs/\J ys u) (fun xs u=>∃ys:List { x:Nat // x<q },ys.map (·.1)=xs/\Jx ys u)
  (fun xs u ⟨ys,e,h⟩=>⟨ys,e,hJ ys u u.drew none h ⟨rfl,rfl,rfl,Nat.le_refl _,fun _ _ _=>rfl⟩ (fun r e=>by cases e)⟩)
  (fun pre x u ⟨ys,e,h⟩ hl hx=>by
   refine (hY ys ⟨x,hx⟩ u h (by rw [<- e,List.length_map] at hl;exact hl)).mono ?_
   rintro e' u' (⟨h1,h2,h3⟩ | ⟨h1,h2⟩)
   ·exact .inl ⟨h1,⟨_,by rw [List.map_append,e];rfl,h2⟩,h3⟩
   ·exact .inr ⟨h1,_,by rw [List.map_append,e];rfl,h2⟩)
  W ((hW.cell (p:=⟨Bs,0,none⟩) hBs).trans hc) ((hW.cell (p:=⟨Bn,0,none⟩) hBn).trans hc2) ⟨[],rfl,h0⟩
 refine h.mono ?_
 rintro e w' ⟨he,⟨ys,e1,zs,e2,h2⟩ | ⟨pre,⟨k,hk,e1⟩,zs,e2,h2⟩⟩
 ·exact ⟨he, .inl ⟨zs,e2.trans e1,h2⟩⟩
 ·exact ⟨he, .inr ⟨zs,⟨k,hk,e2.trans e1⟩,h2⟩⟩

attribute [local go_sem] Oper.semAt_some

def jr (D:Dk) (a:Nat) (F:List UInt8) (l:List Nat):Dk:={ D with waits:=l.mapIdx fun i x=>(a+i,cP F D.n x) }
theorem xG {D:Dk} (h:D.waits=[]) (a:Nat) (F:List UInt8):jr D a F []=D:=by
 unfold jr
 simp [<- h]
theorem qO (D:Dk) (a:Nat) (F:List UInt8) (q:Nat):jr D a F (List.range q)=dF D a F q:=by
 unfold jr dF
 congr 1
 apply List.ext_getElem?
 intro j
 rw [List.getElem?_mapIdx,List.getElem?_map]
 by_cases h:j<q
 ·rw [List.getElem?_range h]
  rfl
 ·rw [List.getElem?_eq_none (by simp;omega)]
  rfl
theorem tU (D:Dk) (a:Nat) (F:List UInt8) (l:List Nat) (x:Nat):{ jr D a F l with waits:=(jr D a F l).waits++[(a+l.length,cP F D.n x)] }=jr D a F (l++[x]):=by
 unfold jr
 simp [List.mapIdx_append]
theorem RowIs.part {w:World} {b:Nat} {F:List UInt8} (h:RowIs w b F) (k n:Nat):Sees w w.heap.size (some ⟨b,k,none⟩) (bv ((F.drop k).take n)):=by
 have h1:=h.sees.drop k (F.length+k+1) (by rw [bv_length];omega)
 rw [if_neg (by omega)] at h1
 have h2:=h1.take n
 rw [<- gi,<- ev] at h2
 by_cases hk:k=0
 ·subst hk
  simpa [Addr.add] using h2
 ·simpa [Addr.add,hk] using h2

theorem cK {W W':World} {row:Option Nat} (hg:W.grownBy W' row) (hr:∀r,row=some r->∃o:Obj,W.heap[r]?=some o/\o.isCells=false) {k:Nat} {cs:Array Value} {t:TypeId} {z:Nat × Nat} (h:W.heap[k]?=some (.cells cs t z)):W'.heap[k]?=W.heap[k]? :=
 hg.block k (Array.getElem?_eq_some_iff.1 h).1 fun e=>by
  obtain ⟨o,ho,hc⟩:=hr k e.symm
  rw [h] at ho
  injection ho with ho
  subst ho
  cases hc

theorem DiskAt.has_cells {W:World} {L:Lay} {D:Dk} (h:DiskAt W L D) {g:Nat} (hg:L.has g):g=L.m∨∃cs t z,W.heap[g]?=some (.cells cs t z):=by
 rcases hg with rfl|rfl | ⟨o,s,e⟩ | ⟨i,e⟩ | ⟨p,hp,rfl⟩
 ·exact .inr ⟨_,_,_,h.box⟩
 ·exact .inl rfl
 ·obtain ⟨cur,hx⟩:=h.kA e
  exact .inr ⟨_,_,_,hx⟩
 ·obtain ⟨cur,hx⟩:=h.kK e
  exact .inr ⟨_,_,_,hx⟩
 ·obtain ⟨cur,hx⟩:=h.kG hp
  exact .inr ⟨_,_,_,hx⟩
theorem DiskAt.turn13 {W W':World} {L:Lay} {D:Dk} {row:Option Nat} {B:Nat} (h:DiskAt W L D) (hm:L.m<B) (hg:W.grownBy W' row) (hr:∀r,row=some r->B<=r/\∃o:Obj,W.heap[r]?=some o/\o.isCells=false):DiskAt W' L D:=h.stay fun g hgh=>by
 rcases h.has_cells hgh with rfl | ⟨cs,t,z,e⟩
 ·exact hg.block _ h.map.lt fun e=>by have:=(hr _ e.symm).1;omega
 ·exact cK hg (fun r e=>(hr r e).2) e
theorem DiskAt.keeps13 {W W':World} {L:Lay} {D:Dk} {B:Nat} (h:DiskAt W L D) (hm:L.m<B) (hc:Chg L.has W W'):KeepsFrom B W W':=⟨hc.size,fun k o hB hk ho=>by
 refine (hc.block k (Array.getElem?_eq_some_iff.1 hk).1 fun hgh => ?_).trans hk
 rcases h.has_cells hgh with rfl | ⟨cs,t,z,e⟩
 ·omega
 ·rw [hk] at e
  injection e with e
  subst e
  cases ho⟩

structure InvT (w:World) (L:Lay) (D:Dk) (a b3:Nat) (F:List UInt8) (l:List Nat) (v:Int) (L':Lay) (W:World):Prop where
 b:L'.b=L.b
 m:L'.m=L.m
 d:DiskAt W L' (jr D a F l)
 c:Chg L.has w W
 hs:∀g,L'.has g->L.has g∨b3+5<=g
 x3:BoxAt W b3 #[.pointer (some ⟨L.b,0,none⟩)] 65
 x4:BoxAt W (b3+1) #[.int .i64 v] 3
 x6:BoxAt W (b3+1+1) #[.int .i64 0] 36
 sz:b3+5<=W.heap.size
section
variable {w W W' : World} {L L' : Lay} {D : Dk} {a b3 : Nat} {F : List UInt8} {l : List Nat} {v : Int}
theorem InvT.turn {row:Option Nat} (h:InvT w L D a b3 F l v L' W) (hL:L.m<w.heap.size) (hb:w.heap.size<=b3+5) (hg:W.grownBy W' row) (hr:∀r,row=some r->b3+5<=r/\∃o:Obj,W.heap[r]?=some o/\o.isCells=false):InvT w L D a b3 F l v L' W' :=
 have hrc:=fun r e=>(hr r e).2
 ⟨h.b,h.m,h.d.turn13 (by rw [h.m];omega) hg hr,⟨hg.os.trans h.c.os,hg.tape.trans h.c.tape,hg.output.trans h.c.output,Nat.le_trans h.c.size hg.size,fun k hk hn=>(hg.block k (Nat.lt_of_lt_of_le hk h.c.size) (fun e=>by have:=(hr k e.symm).1;omega)).trans (h.c.block k hk hn)⟩,h.hs,
  (cK hg hrc h.x3).trans h.x3,(cK hg hrc h.x4).trans h.x4,(cK hg hrc h.x6).trans h.x6,Nat.le_trans h.sz hg.size⟩
theorem InvT.apart (h:InvT w L D a b3 F l v L' W) (hb:∀g,L.has g->g<b3) {k:Nat} (h1:b3<=k) (h2:k<b3+5):¬L'.has k:=fun e=>by
 rcases h.hs k e with e|e
 ·have:=hb k e
  omega
 ·omega
theorem InvT.wrote {x k:Nat} (hk:a+l.length=k) (h:InvT w L D a b3 F l v L' W) (hb:∀g,L.has g->g<b3) (hw:w.heap.size=b3) (hd:DoesM L' W W' { jr D a F l with waits:=(jr D a F l).waits++[(k,cP F D.n x)] }):∃L2,InvT w L D a b3 F (l++[x]) v L2 W'/\Chg L'.has W W':=by
 subst hk
 obtain ⟨L2,eb,em,hd2,hc,hs⟩:=hd
 have hne:=fun k h1 h2=>h.apart hb (k:=k) h1 h2
 have hsz:=h.sz
 rw [tU] at hd2
 refine ⟨L2,⟨eb.trans h.b,em.trans h.m,hd2,h.c.trans hc (fun g e hg => ?_),fun g e => ?_,(hc.block _ h.x3.lt (hne _ (by omega) (by omega))).trans h.x3,(hc.block _ h.x4.lt (hne _ (by omega) (by omega))).trans h.x4,(hc.block _ h.x6.lt (hne _ (by omega) (by omega))).trans h.x6,Nat.le_trans h.sz hc.size⟩,hc⟩
 ·rcases h.hs g e with e|e
  ·exact e
  ·omega
 ·rcases hs g e with e|e
  ·exact h.hs g e
  ·exact .inr (by omega)
theorem InvT.bump (h:InvT w L D a b3 F l v L' W) (hb:∀g,L.has g->g<b3) (hw:w.heap.size=b3) (v':Int):InvT w L D a b3 F l v' L' (W.setCell ⟨b3+1,0,none⟩ (.int .i64 v')):=by
 have hg:=aE W (b3+1) 0 (.int .i64 v')
 have hsz:=h.sz
 have hne:=h.apart hb (k:=b3+1) (by omega) (by omega)
 have hk:∀k,k≠b3+1->k<W.heap.size->(W.setCell ⟨b3+1,0,none⟩ (.int .i64 v')).heap[k]?=W.heap[k]?:=fun k hk hl=>hg.block k hl (fun e=>hk (by cases e;rfl))
 refine ⟨h.b,h.m,h.d.stay fun g hgh=>hk g (fun e=>hne (e ▸ hgh)) (h.d.lt hgh),⟨hg.os.trans h.c.os,hg.tape.trans h.c.tape,hg.output.trans h.c.output,Nat.le_trans h.c.size hg.size,fun k hkl hn=>(hk k (by omega) (Nat.lt_of_lt_of_le hkl h.c.size)).trans (h.c.block k hkl hn)⟩,h.hs,
  (hk _ (by omega) h.x3.lt).trans h.x3,?_,(hk _ (by omega) h.x6.lt).trans h.x6,Nat.le_trans h.sz hg.size⟩
 have:=h.x4.set9 0 (.int .i64 v')
 simpa using this

theorem InvT.fin {W3:World} {Dd:Nat} {D3:Dk} {o o':Obj} (h:InvT w L D a b3 F l v L' W) (hb:∀g,L.has g->g<b3) (hw:w.heap.size=b3) (hL:L.m<w.heap.size) (hD:b3+5<=Dd) (hK:W.heap[Dd]?=some o) (ho:o.isCells=false) (hd:Does L' W W3 D3) :
  W3.heap[Dd]?=some o/\BoxAt W3 (b3+1+1) #[.int .i64 0] 36/\Does L w ((W3.setCell ⟨b3+1+1,0,none⟩ (.int .i64 0)).putObj Dd o') D3:=by
 obtain ⟨L3,eb,hd3,hc,hs⟩:=hd
 have hsz:=h.sz
 have hDl:Dd<W.heap.size:=(Array.getElem?_eq_some_iff.1 hK).1
 have hnD:¬L'.has Dd:=fun e=>by
  rcases h.d.has_cells e with e | ⟨cs,t,z,e⟩
  ·rw [h.m] at e
   omega
  ·rw [hK] at e
   injection e with e
   subst e
   cases ho
 have hn6:=h.apart hb (k:=b3+1+1) (by omega) (by omega)
 have hK3:W3.heap[Dd]?=some o:=(hc.block _ hDl hnD).trans hK
 have hk:∀k,k≠b3+1+1->k≠Dd->k<W3.heap.size->((W3.setCell ⟨b3+1+1,0,none⟩ (.int .i64 0)).putObj Dd o').heap[k]?=W3.heap[k]?:=fun k h1 h2 hl=>by
  rw [World.putObj_heap_other h2]
  exact (aE W3 (b3+1+1) 0 (.int .i64 0)).block k hl (fun e=>h1 (by cases e;rfl))
 have hg:=aE W3 (b3+1+1) 0 (.int .i64 0)
 have hs3:W3.heap.size<=((W3.setCell ⟨b3+1+1,0,none⟩ (.int .i64 0)).putObj Dd o').heap.size:=Nat.le_trans hg.size (grownBy_putObj' _ Dd o').size
 refine ⟨hK3,(hc.block _ h.x6.lt hn6).trans h.x6,L3,eb.trans h.b,hd3.stay fun g hgh=>hk g (fun e => ?_) (fun e => ?_) (hd3.lt hgh),?_,fun g e => ?_⟩
 ·subst e
  rcases hs _ hgh with e|e
  ·exact hn6 e
  ·omega
 ·subst e
  rcases hs _ hgh with e|e
  ·exact hnD e
  ·omega
 ·have hc1:Chg L.has w W3:=h.c.trans hc (fun g e hg=>by
   rcases h.hs g e with e|e
   ·exact e
   ·omega)
  exact ⟨hc1.os,hc1.tape,hc1.output,Nat.le_trans hc1.size hs3,fun k hkl hn=>(hk k (by omega) (by omega) (Nat.lt_of_lt_of_le hkl hc1.size)).trans (hc1.block k hkl hn)⟩
 ·rcases hs g e with e|e
  ·rcases h.hs g e with e|e
   ·exact .inl e
   ·exact .inr (by omega)
  ·have:=h.c.size
   exact .inr (by omega)
end

theorem tV (Fc:Fence) (fn:Nat) (h3:Fc.fn 281) (h5:Fc.fn 323) (h6:Fc.fn 338) (hro:Fc.round=none) (hfn:3<=fn) (hw1:Fc = .wide)
  {w:World} {L:Lay} {D:Dk} (h:DiskAt w L D) (hc:D.calm) (hw:D.waits=[]) (a q z b cap:Nat) (A:Option Addr) (F:List UInt8) (hA:0<q->A=some ⟨b,0,none⟩/\RowIs w b F/\¬L.has b) (hF:F.length=z) (hz:q * D.n=z) (haq:a+q<=D.c) (hcap:z<=cap) :
  CallsIn Fc fn Tryz.prog 281 #[.pointer (some ⟨L.b,0,none⟩), .int .i64 (a:Int), .slice A z cap] w fun e w'=>e = .returned (.int .i64 0)/\Does L w w' (bO D a F):=by
 have h1:1<=fn:=by omega
 have hn1:=h.ok.n1
 have hn2:=h.ok.n2
 have hcc:=h.ok.c2
 have HSZ:=aa (show ∀u,Below w.heap.size w u->Calls Tryz.prog 79 #[.pointer (some ⟨L.b,0,none⟩)] u fun e w'=>e = .returned (.int .i64 (D.n:Int))/\u=w' from fun u hu=>eK (h.below hu))
 subst hw1
 refine callsIn_of_wp_marks Tryz.func281 rfl h3 ?_ hro
 simp only [Tryz.ntmps281,List.size_toArray,List.length_cons,List.length_nil,Nat.reduceAdd,Nat.reduceSub,Array.replicate_succ,Array.replicate_zero,List.push_toArray,List.append_toArray,List.nil_append,List.cons_append]
 gi_wp2_with (first|(refine ⟨trivial,?_⟩;gi_at_call 79;refine (callsIn_wide.2 (HSZ.out _ ((((Below.refl _ w).alloc (Nat.le_refl _) _).alloc (by simp) _).alloc (by simp;omega) _))).mono ?_;rintro e w' ⟨rfl,rfl⟩)|(gi_at_call 323;refine (zW .wide (fn - 1) trivial hro _ _ _ _ hn1 _).mono ?_;rintro e w' ⟨rfl,rfl⟩))
 have hlt:=fun g hg=>h.lt (g:=g) hg
 have hLm:L.m<w.heap.size:=h.map.lt
 obtain ⟨W0,hW0⟩:∃W,((((w.alloc (.cells #[.pointer (some ⟨L.b,0,none⟩)] 65)).alloc (.cells #[.int .i64 (a:Int)] 3)).alloc (.cells #[.int .i64 0] 36)).alloc (.cells #[.slice A z cap] 50)).alloc (.cells #[.int .i64 (D.n:Int)] 3)=W:=⟨_,rfl⟩
 have hB0:Below w.heap.size w W0:=hW0 ▸ (((((Below.refl _ w).alloc (Nat.le_refl _) _).alloc (by simp) _).alloc (by simp;omega) _).alloc (by simp;omega) _).alloc (by simp;omega) _
 have x3:BoxAt W0 w.heap.size #[.pointer (some ⟨L.b,0,none⟩)] 65:=hW0 ▸ ((((BoxAt.new w _ _).alloc _).alloc _).alloc _).alloc _
 have x4:BoxAt W0 (w.heap.size+1) #[.int .i64 (a:Int)] 3:=by
  have:=(((BoxAt.new (w.alloc (.cells #[.pointer (some ⟨L.b,0,none⟩)] 65)) #[.int .i64 (a:Int)] 3).alloc (.cells #[.int .i64 0] 36)).alloc (.cells #[.slice A z cap] 50)).alloc (.cells #[.int .i64 (D.n:Int)] 3)
  rw [hW0] at this
  simpa using this
 have x6:BoxAt W0 (w.heap.size+1+1) #[.int .i64 0] 36:=by
  have:=((BoxAt.new ((w.alloc (.cells #[.pointer (some ⟨L.b,0,none⟩)] 65)).alloc (.cells #[.int .i64 (a:Int)] 3)) #[.int .i64 0] 36).alloc (.cells #[.slice A z cap] 50)).alloc (.cells #[.int .i64 (D.n:Int)] 3)
  rw [hW0] at this
  simpa using this
 have xs:BoxAt W0 (w.heap.size+1+1+1) #[.slice A z cap] 50:=by
  have:=(BoxAt.new (((w.alloc (.cells #[.pointer (some ⟨L.b,0,none⟩)] 65)).alloc (.cells #[.int .i64 (a:Int)] 3)).alloc (.cells #[.int .i64 0] 36)) #[.slice A z cap] 50).alloc (.cells #[.int .i64 (D.n:Int)] 3)
  rw [hW0] at this
  simpa using this
 have xn:BoxAt W0 (w.heap.size+1+1+1+1) #[.int .i64 (D.n:Int)] 3:=by
  have:=BoxAt.new ((((w.alloc (.cells #[.pointer (some ⟨L.b,0,none⟩)] 65)).alloc (.cells #[.int .i64 (a:Int)] 3)).alloc (.cells #[.int .i64 0] 36)).alloc (.cells #[.slice A z cap] 50)) #[.int .i64 (D.n:Int)] 3
  rw [hW0] at this
  simpa using this
 have hsz:W0.heap.size=w.heap.size+5:=by rw [<- hW0];simp
 have hI0:InvT w L D a w.heap.size F [] (a:Int) L W0:=⟨rfl,rfl,by rw [xG hw];exact h.below hB0,Chg.of_below hB0,fun _ e => .inl e,x3,x4,x6,by omega⟩
 rw [hW0]
 obtain ⟨g,hg⟩:∃g,w.heap.size=g:=⟨_,rfl⟩
 rw [hg] at hlt hLm x3 x4 x6 xs xn hsz hI0 ⊢
 have HG:=aa hg
 have HA:=aa hA
 have HF:=aa hF
 have HZ:=aa hz
 have HAQ:=aa haq
 have HLT:=aa hlt
 have HCA:=aa hc
 have HOK:=aa h.ok
 have hxs:=xs.cell 0
 have hxn:=xn.cell 0
 simp only [List.getElem?_toArray,List.getElem?_cons_zero] at hxs hxn
 clear hW0 hB0 hlt hF hz x3 x4 x6 hg
 refine wpIn_rangeFunc_ownH hro h1 (gf:=338) (lb := #[.pointer (some ⟨g+1+1+1,0,none⟩), .pointer (some ⟨g+1+1+1+1,0,none⟩)]) rfl h6 (enters_of Tryz.func338 (by kernel_rfl) rfl)
  (qN .wide (fn - 1) h6 hro (by omega) (g+1+1+1) (g+1+1+1+1) b D.n q z cap A (fun h0=>(hA h0).1) hn1 hn2 (by omega) HZ.out hcap W0 (by omega) (by omega) hxs hxn) r9 (zV (by omega) (by omega)) (Below.refl _ _) (fun _=>rfl)
  (fun pre W=>∃L',InvT w L D a g F (pre.map (·.1)) ((a+pre.length:Nat):Int) L' W)
  (fun _ _ _=>False)
  (fun s X Y row ⟨L',hs⟩ hg hr=>⟨L',hs.turn (by rw [HG.out];exact hLm) (by rw [HG.out];omega) hg (by rw [hsz] at hr;exact hr)⟩)
  (fun _ _ _ _ _ hs _ _=>hs.elim)
  ⟨L,hI0⟩
  (fun x a' _=>a'={ tmps := #[.pointer (some ⟨L.b,0,none⟩), .int .i64 (a:Int), .slice A z cap, .pointer (some ⟨g,0,none⟩), .pointer (some ⟨g+1,0,none⟩),undef, .pointer (some ⟨g+1+1,0,none⟩), .slice (some ⟨b,x.1 * D.n,none⟩) D.n D.n,undef, .slice A z cap, .pointer (some ⟨L.b,0,none⟩), .int .i64 (D.n:Int), .func (.func 338) #[] #[.pointer (some ⟨g+1+1+1,0,none⟩), .pointer (some ⟨g+1+1+1+1,0,none⟩)], .slice (some ⟨b,x.1 * D.n,none⟩) D.n D.n,undef,undef,undef,undef,undef,undef,undef,undef,undef,undef,undef],defers:=[] })
  (fun _ _ _ _ _ _ hs _ _=>hs)
  ?assign ?body ?done ?stop
 case assign =>
  rintro l pre ⟨x,hx⟩ W K hi hK
  simp only [sd]
  gi_wp2
  exact hK _ _ (KeepsFrom.refl _ _) ⟨rfl,rfl⟩ hi rfl
 case body =>
  rintro l pre ⟨x,hx⟩ a' W hl _ ⟨L',hi⟩ rfl hlt
  have hpl:(pre.map (·.1)).length=pre.length:=List.length_map _
  have c3:=hi.x3.cell 0
  have c4:=hi.x4.cell 0
  simp only [List.getElem?_toArray,List.getElem?_cons_zero] at c3 c4
  have hcl:=hZ (HF.out.trans HZ.out.symm) hx
  have hrow:RowIs W b F:=by
   obtain ⟨e1,e2,e3⟩:=HA.out (by omega)
   exact e2.stay12 (hi.c.block _ e2.lt e3)
  have HWR:=aa (tT hi.d (show (jr D a F (pre.map (·.1))).calm from HCA.out) (a+(pre.map (·.1)).length) (show a+(pre.map (·.1)).length<D.c from by have:=HAQ.out;omega) (cP F D.n x) W.heap.size (some ⟨b,x * D.n,none⟩) D.n D.n (hrow.part _ _) hcl hcl (Nat.le_refl _) (by
   show (List.mapIdx _ _).length+1<=_
   rw [List.length_mapIdx]
   omega))
  rw [hi.b,hpl] at HWR
  obtain ⟨k,hk⟩:∃k,a+pre.length=k:=⟨_,rfl⟩
  rw [hk] at HWR c4 hi
  have HK:=aa hk
  have HI:=aa hi
  have hpl2:=aa hpl
  have hk9:k<=4096:=by have:=HAQ.out;omega
  clear hcl hrow hi hk hpl
  gi_wp2_with (refine ⟨trivial,fun _=>by omega,?_⟩;gi_at_call 324;refine (CallsIn.inRound l (callsIn_wide.2 HWR.out)).mono ?_;rintro e W1 ⟨rfl,hd1⟩;(obtain ⟨L2,hi2,hc2⟩:=InvT.wrote (by rw [hpl2.out];exact HK.out) HI.out HLT.out HG.out hd1);(have c41:=hi2.x4.cell 0);(simp only [List.getElem?_toArray,List.getElem?_cons_zero] at c41);(have f41:=hi2.x4.free9 0);(have HI2:=aa hi2);(have HC2:=aa hc2);clear hi2 hc2 hd1)
  have hLm':L'.m<W0.heap.size:=by rw [HI.out.m];omega
  have hsW:=HI.out.sz
  have hn1:=HI.out.apart HLT.out (k:=g+1+1+1) (by omega) (by omega)
  have hn2:=HI.out.apart HLT.out (k:=g+1+1+1+1) (by omega) (by omega)
  refine ⟨(HI.out.d.keeps13 hLm' HC2.out).trans ((KeepsOthers.setCell _ _ _).from _),⟨?_,?_⟩,L2,?_⟩
  ·exact ((aE W1 (g+1) 0 _).block _ (by have:=HC2.out.size;omega) (fun e=>by cases e)).trans (HC2.out.block _ (by omega) hn1)
  ·exact ((aE W1 (g+1) 0 _).block _ (by have:=HC2.out.size;omega) (fun e=>by cases e)).trans (HC2.out.block _ (by omega) hn2)
  ·have hb:=HI2.out.bump HLT.out HG.out ((k:Int)+1)
   rw [List.map_append,List.length_append]
   have e1:((a+(pre.length + [(⟨x,hx⟩:{ x:Nat // x<q })].length):Nat):Int)=(k:Int)+1:=by
    have:=HK.out
    simp only [List.length_cons,List.length_nil]
    omega
   rw [e1]
   exact hb
 case done =>
  rintro Dd xs W hD hxs ⟨L',hi⟩ hK
  rw [hxs] at hi
  have hlx:xs.length=q:=by
   have:=congrArg List.length hxs
   simpa using this
  have hce:=qO D a F q
  obtain ⟨s1,s2⟩:=tQ HCA.out HOK.out (a:=a) (HF.out.trans HZ.out.symm)
  have HSY:=aa (zU hi.d)
  unfold DX at HSY
  rw [hce,s1,s2,hi.b] at HSY
  have c3:=hi.x3.cell 0
  simp only [List.getElem?_toArray,List.getElem?_cons_zero] at c3
  have HI:=aa hi
  have HKD:=aa hK
  have HDS:=aa (show g+5<=Dd from by rw [<- hsz];exact hD)
  clear hi hK hce s1 s2 hD hxs
  gi_wp2_with (refine ⟨trivial,?_⟩;gi_at_call 325;refine (callsIn_wide.2 HSY.out).mono ?_;rintro e W3 ⟨rfl,hd3⟩;(obtain ⟨k3,x63,hdo⟩:=HI.out.fin (o' := .deferred none) HLT.out HG.out (by rw [HG.out];exact hLm) HDS.out HKD.out rfl hd3);(have c63:=x63.cell 0);(simp only [List.getElem?_toArray,List.getElem?_cons_zero] at c63);(have f63:=x63.free9 0);(have X63:=aa x63);(have K3:=aa k3);(have HDO:=aa hdo);clear hd3 x63 k3 hdo)
  have hK':(W3.setCell ⟨g+1+1,0,none⟩ (.int .i64 0)).heap[Dd]?=some (.deferred (some [])):=(KeepsOthers.setCell W3 ⟨g+1+1,0,none⟩ (.int .i64 0)).same Dd _ K3.out rfl
  refine ⟨by simp, .inl ⟨_,_,rfl,run_takeDeferred hK',?_⟩⟩
  have h6:=X63.out.set9 0 (.int .i64 0)
  have hc5:((W3.setCell ⟨g+1+1,0,none⟩ (.int .i64 0)).putObj Dd (.deferred none)).cell? ⟨g+1+1,0,none⟩=some (.int .i64 0) :=
   (World.cell?_of_block (a:=⟨g+1+1,0,none⟩) (World.putObj_heap_other (by have:=HDS.out;show g+1+1≠Dd;omega))).trans (by have:=BoxAt.cell h6 0;simpa using this)
  refine ⟨.int .i64 0,by simp [results,Tryz.f281,go_sem,hc5],rfl,HDO.out⟩
 case stop =>
  rintro Dd c pre W hD hpre hs hK
  exact hs.elim

theorem qP {w:World} {L:Lay} {D:Dk} (h:DiskAt w L D) (hc:D.calm) (hw:D.waits=[]) (a q z b cap:Nat) (A:Option Addr) (F:List UInt8) (hA:0<q->A=some ⟨b,0,none⟩/\RowIs w b F/\¬L.has b) (hF:F.length=z) (hz:q * D.n=z) (haq:a+q<=D.c) (hcap:z<=cap) :
  Calls Tryz.prog 281 #[.pointer (some ⟨L.b,0,none⟩), .int .i64 (a:Int), .slice A z cap] w fun e w'=>e = .returned (.int .i64 0)/\Does L w w' (bO D a F) :=
 (callsIn_wide (n:=6)).1 (tV .wide 6 trivial trivial trivial rfl (by omega) rfl h hc hw a q z b cap A F hA hF hz haq hcap)
open Go.RowKit

def jcs (bc t g k u:Nat):Array Value := #[.pointer (some ⟨bc,0,none⟩), .int .u64 (t:Int), .int .u64 (g:Int), .int .u64 (k:Int), .int .i64 (u:Int), .bool false]

structure JBox (w:World) (L:Lay) (D:Dk) (jb t g k u:Nat):Prop where
 d:DiskAt w L D
 x:BoxAt w jb (jcs L.b t g k u) 222
 h:¬L.has jb
section
variable {w w' : World} {L : Lay} {D : Dk} {jb t g k u : Nat}
theorem JBox.below (h:JBox w L D jb t g k u) (hb:Below w.heap.size w w'):JBox w' L D jb t g k u:=⟨h.d.below hb,h.x.below hb,h.h⟩
theorem JBox.cells (h:JBox w L D jb t g k u):w.cell? ⟨jb,0,none⟩=some (.pointer (some ⟨L.b,0,none⟩))/\w.cell? ⟨jb,1,none⟩=some (.int .u64 (t:Int))/\w.cell? ⟨jb,2,none⟩=some (.int .u64 (g:Int))/\w.cell? ⟨jb,3,none⟩=some (.int .u64 (k:Int))/\w.cell? ⟨jb,4,none⟩=some (.int .i64 (u:Int))/\w.cell? ⟨jb,5,none⟩=some (.bool false) :=
 ⟨h.x.cell 0,h.x.cell 1,h.x.cell 2,h.x.cell 3,h.x.cell 4,h.x.cell 5⟩

theorem jG (h:JBox w L D jb t g k u) (h6:6<=D.c):Calls Tryz.prog 159 #[.pointer (some ⟨jb,0,none⟩)] w fun e w'=>e = .returned (.int .i64 (aI D.c:Int))/\w=w':=by
 obtain ⟨c0,_⟩:=h.cells
 have hcc:=h.d.ok.c2
 have HC:=aa (j5 h.d)
 obtain ⟨c,hc⟩:∃c,D.c=c:=⟨_,rfl⟩
 obtain ⟨q,hq⟩:∃q,aI c=q:=⟨_,rfl⟩
 rw [hc] at HC hcc h6 ⊢
 have hqq:((c:Int) - 2) / 2=(q:Int):=by
  unfold aI at hq
  omega
 have hq9:q<=2047:=by
  unfold aI at hq
  omega
 rw [hq]
 clear h hc hq
 go_enter Tryz.func159,Tryz.ntmps159
 go_wp2_with (go_at_call 80;refine HC.out.mono ?_;rintro _ _ ⟨rfl,rfl⟩)
 refine bodyPost_ret (v := .int .i64 (q:Int)) (by simp [results,Tryz.results159,go_sem];try omega) rfl ?_
 exact ⟨rfl,rfl⟩

theorem o3 (h:JBox w L D jb t g k u) (h6:6<=D.c) (x:Nat) (hx:x<=100000):Calls Tryz.prog 214 #[.pointer (some ⟨jb,0,none⟩), .int .u64 (x:Int)] w fun e w'=>e = .returned (.int .i64 (bw D.c x:Int))/\w=w':=by
 have HA:=aa (jG h h6)
 have hcc:=h.d.ok.c2
 have hq9:aI D.c<=2047:=by unfold aI;omega
 unfold bw
 obtain ⟨q,hq⟩:∃q,aI D.c=q:=⟨_,rfl⟩
 rw [hq] at HA hq9 ⊢
 have h2:x % 2=0∨x % 2=1:=by omega
 rcases h2 with e|e
 ·have e1:(x:Int) % 2=0:=by omega
  rw [e]
  clear h hcc hq e
  go_enter Tryz.func214,Tryz.ntmps214
  go_wp2_with (go_at_call 159;refine HA.out.mono ?_;rintro _ _ ⟨rfl,rfl⟩)
  refine bodyPost_ret (v := .int .i64 ((2+0 * q:Nat):Int)) (by simp [results,Tryz.results214,go_sem];try omega) rfl ?_
  exact ⟨rfl,rfl⟩
 ·have e1:(x:Int) % 2=1:=by omega
  rw [e]
  clear h hcc hq e
  go_enter Tryz.func214,Tryz.ntmps214
  go_wp2_with (go_at_call 159;refine HA.out.mono ?_;rintro _ _ ⟨rfl,rfl⟩)
  refine bodyPost_ret (v := .int .i64 ((2+1 * q:Nat):Int)) (by simp [results,Tryz.results214,go_sem];try omega) rfl ?_
  exact ⟨rfl,rfl⟩

theorem o7 (h:JBox w L D jb t g k u):Calls Tryz.prog 221 #[.pointer (some ⟨jb,0,none⟩)] w fun e w'=>e = .returned (.bool false)/\w=w':=by
 obtain ⟨c0,_⟩:=h.cells
 clear h
 go_enter Tryz.func221,Tryz.ntmps221
 go_wp2
 go_ret
 exact ⟨rfl,rfl⟩
theorem df (h:JBox w L D jb t g k u):Calls Tryz.prog 151 #[.pointer (some ⟨jb,0,none⟩)] w fun e w'=>e = .returned (.int .i64 0)/\w=w':=by
 obtain ⟨_,_,_,_,_,c5⟩:=h.cells
 have HN:=aa (o7 h)
 clear h
 go_enter Tryz.func151,Tryz.ntmps151
 go_wp2_with (go_at_call 221;refine HN.out.mono ?_;rintro _ _ ⟨rfl,rfl⟩)
 go_ret
 exact ⟨rfl,rfl⟩
theorem nC (h:JBox w L D jb t g k u) (h6:6<=D.c) (hu:u<=aI D.c):Calls Tryz.prog 155 #[.pointer (some ⟨jb,0,none⟩)] w fun e w'=>e = .returned (.int .i64 ((aI D.c - u:Nat):Int))/\Below w.heap.size w w':=by
 obtain ⟨_,_,_,_,c4,_⟩:=h.cells
 have HN:=aa (o7 h)
 have HA:=aa (fun (v:World) (hv:∃q,v=w.drewN q)=>show Calls Tryz.prog 159 #[.pointer (some ⟨jb,0,none⟩)] v fun e w'=>e = .returned (.int .i64 (aI D.c:Int))/\w'=v from by
  obtain ⟨q,rfl⟩:=hv
  exact (jG (h.below (dS (Below.refl _ _) q)) h6).mono fun e w' h=>⟨h.1,h.2.symm⟩)
 have hcc:=h.d.ok.c2
 have hq9:aI D.c<=2047:=by unfold aI;omega
 obtain ⟨q,hq⟩:∃q,aI D.c=q:=⟨_,rfl⟩
 rw [hq] at HA hq9 hu ⊢
 have hqu:(q:Int) - (u:Int)=((q - u:Nat):Int):=by omega
 clear h hcc hq
 go_enter Tryz.func155,Tryz.ntmps155
 go_upto_region 3 with (go_at_call 221;refine HN.out.mono ?_;rintro _ _ ⟨rfl,rfl⟩)
 go_quiet (first|(go_at_call 159;refine Calls.quiet_of_same (HA.out _ ⟨_,rfl⟩)))
 go_wp2
 refine bodyPost_ret (v := .int .i64 ((q - u:Nat):Int)) (by simp [results,Tryz.results155,go_sem];try omega) rfl ?_
 exact ⟨rfl,dS (Below.refl _ _) _⟩
theorem eV (h:JBox w L D jb t g k u) (z:Nat) (A:Option Addr) (c:Nat) (hz:z<=2000000000):Calls Tryz.prog 154 #[.pointer (some ⟨jb,0,none⟩), .slice A z c] w fun e w'=>e = .returned (.int .i64 ((z / D.n:Nat):Int))/\w=w':=by
 obtain ⟨c0,_⟩:=h.cells
 have HS:=aa (eK h.d)
 have hn1:=h.d.ok.n1
 obtain ⟨n,hn⟩:∃n,D.n=n:=⟨_,rfl⟩
 rw [hn] at HS hn1 ⊢
 obtain ⟨q,hq⟩:∃q,z / n=q:=⟨_,rfl⟩
 have hqq:wrap64 ((z:Int) / (n:Int))=(q:Int):=by
  have h1:z / n<=z:=Nat.div_le_self _ _
  rw [show (z:Int) / (n:Int)=((z / n:Nat):Int) from rfl,hq]
  unfold wrap64
  omega
 have h4:((n:Int) == 0)=false:=by rw [beq_eq_false_iff_ne];omega
 have h5:((n:Int)=0)=False:=by simp;omega
 rw [hq]
 clear h hn hq hz
 go_enter Tryz.func154,Tryz.ntmps154
 go_wp2_with (go_at_call 79;refine HS.out.mono ?_;rintro _ _ ⟨rfl,rfl⟩)
 refine bodyPost_ret (v := .int .i64 (q:Int)) (by simp [results,Tryz.results154,go_sem,hqq]) rfl ?_
 exact ⟨rfl,rfl⟩
end

section
variable {α : Type} {F : Fence} {n : Nat} {P : Program} {g : Operand} {ps : Array Tmp} {assign body : Code} {Q : Exit -> Act -> World -> Prop} {a : Act} {w : World}

def DZ (F:Fence) (m:Nat) (P:Program) (gf:Nat) (lb:Array Value) (encs:α->Array Value) (Pr:List α->α->World->Prop) (Kp:World->World->Prop) (S:List α->Prop) (w:World):Prop :=
 ∀(l:Nat) (J:List α->World->Prop) (W:World),Below w.heap.size w W->AbidesFrom W.heap.size J ->
  (∀pre x W1,J pre W1->Pr pre x W1->YieldAt F (m - 1) P l (encs x) W1 fun e W'=>e = .returned (.bool true)/\J (pre++[x]) W'/\Kp W1 W') ->
  J [] W->CallsIn F m P gf (#[.func (.yield l) #[] #[]]++lb) W fun e W'=>(∃v,e = .returned v)/\∃xs,S xs/\J xs W'

theorem xH (hro:F.round=none) (h1:1<=n) {gf:Nat} {lb:Array Value} (hg:a.eval g = .func (.func gf) #[] lb) (hF:F.fn gf) (eg:∀args u,(callFunc gf args).run P u = .ok (.enter gf args) u)
  {encs:α->Array Value} (hps:∀x,(encs x).size=ps.size) {Pr:List α->α->World->Prop} {Kp:World->World->Prop} {S:List α->Prop} (hit:DZ F (n - 1) P gf lb encs Pr Kp S w)
  (hKt:∀ {A B C:World},Kp A B->Kp B C->Kp A C) (hKb:∀(W:World) (l:Nat) (o o':Obj),w.heap.size<=l->W.heap[l]?=some o->o.isCells=false->o.isWalk=false->Kp W (W.putObj l o'))
  (hPb:∀pre x (W:World) (l:Nat) (o o':Obj),w.heap.size<=l->W.heap[l]?=some o->o.isCells=false->Pr pre x W->Pr pre x (W.putObj l o'))
  (I:List α->World->Prop) (hI:OwnFrom w.heap.size I) (h0:I [] w) (a1:α->Act)
  (hassign:∀(l:Nat) (x:α) (W:World) (K:Act->World->Prop),K (a1 x) W->assign.wpIn (F.inRound l) (n - 1 - 1) P (Exit.then K (fun _ _ _=>False)) { tmps:=(ps.zip (encs x)).foldl (fun t (p,v)=>t.setIfInBounds p v) a.tmps,defers:=[] } W)
  (hbody:∀(l:Nat) (pre:List α) (x:α) (W:World),w.heap.size<=l->I pre W->Pr pre x W->body.wpIn (F.inRound l) (n - 1 - 1) P (fun e _ W'=>e = .normal/\KeepsFrom w.heap.size W W'/\Kp W W'/\I (pre++[x]) W') (a1 x) W)
  (hdone:∀(D:Nat) (xs:List α) (W:World),w.heap.size<=D->S xs->I xs W->W.heap[D]?=some (.deferred (some []))->Q .normal { a with defers:={ target := .collected D,args := #[] }::a.defers } W) :
  (Code.rangeFunc g ps assign body).wpIn F n P Q a w:=by
 apply wpIn_rangeFunc
 intro f hf
 rw [hro]

 obtain ⟨R,hR⟩:∃R:LoopState->Loop,R=fun s=>{ state:=s,pending:=none,fn:=f,tmps:=a.tmps,params:=ps,assign,body,defers:=w.heap.size }:=⟨_,rfl⟩
 obtain ⟨U,hU⟩:∃U,(w.alloc (.deferred (some []))).alloc (.loop (R .ready))=U:=⟨_,rfl⟩
 have uL:U.heap[w.heap.size+1]?=some (.loop (R .ready)):=by
  have:=World.alloc_heap_new (w.alloc (.deferred (some []))) (.loop (R .ready))
  rw [<- hU]
  rwa [World.size_alloc] at this
 have uD:U.heap[w.heap.size]?=some (.deferred (some [])):=by
  rw [<- hU]
  exact (Below.heap_alloc _ _ _ (by simp)).trans (World.alloc_heap_new w _)
 have uI:I [] U:=by
  rw [<- hU]
  exact hI.alloc _ (hI.alloc _ h0)
 have uB:Below w.heap.size w U:=by
  rw [<- hU]
  exact ((Below.refl _ w).alloc (Nat.le_refl _) _).alloc (by simp) _
 refine ⟨w.heap.size+1,[{ target := .collected w.heap.size,args := #[] }],U,{ target := .fn (.func gf) lb,args := #[.func (.yield (w.heap.size+1)) #[] #[]] },U,gf,#[.func (.yield (w.heap.size+1)) #[] #[]]++lb,U,?_,?_,?_,?_,fun _=>h1,?_⟩
 ·rw [run_enterLoop_outer,<- hU,hR]
 ·simp only [resolve,hg]
  simp [go_sem]
 ·intro f' e
  simp [Target.leads] at e
  subst e
  exact hF
 ·simp [invoke,go_sem,eg]
 ·refine (hit (w.heap.size+1) (fun pre W=>I pre W/\W.heap[w.heap.size+1]?=some (.loop (R .ready))/\W.heap[w.heap.size]?=some (.deferred (some []))) U uB ?_ ?_ ⟨uI,uL,uD⟩).mono ?_
  ·rintro s X Y row ⟨s1,s2,s3⟩ hgr hr
   have hrc:∀r,row=some r->w.heap.size<=r/\∃o:Obj,X.heap[r]?=some o/\o.isCells=false:=fun r e=>by
    obtain ⟨b1,o,ho,hw⟩:=hr r e
    have:=uB.size
    exact ⟨by omega,o,ho,Obj.not_cells_of_walk hw⟩
   have hkeep:∀k (o:Obj),X.heap[k]?=some o->o.isWalk=false->Y.heap[k]?=some o:=fun k o hk hw=>by
    refine (hgr.block k (Array.getElem?_eq_some_iff.1 hk).1 fun e => ?_).trans hk
    obtain ⟨_,o',ho',hw'⟩:=hr k e.symm
    rw [hk] at ho'
    cases ho'
    rw [hw] at hw'
    cases hw'
   exact ⟨hI s X Y row s1 hgr hrc,hkeep _ _ s2 rfl,hkeep _ _ s3 rfl⟩
  ·rintro pre x W ⟨s1,s2,s3⟩ hp
   have hlt:w.heap.size+1<W.heap.size:=(Array.getElem?_eq_some_iff.1 s2).1
   have hy:=run_yield (P:=P) (args:=encs x) s2 (by rw [hR];exact hps x)
   rw [hR] at hy
   refine ⟨f,_,assign,body,hy,roundIn_of_wpIn hf (hassign _ x W _ ?_)⟩
   refine ⟨_,run_beginRound s2 (by rw [hR]),?_⟩
   obtain ⟨V,hV⟩:∃V,W.putObj (w.heap.size+1) (.loop { R .ready with state := .busy })=V:=⟨_,rfl⟩
   have v2:V.heap[w.heap.size+1]?=some (.loop { R .ready with state := .busy }):=by rw [<- hV];exact World.putObj_heap_same hlt
   have v3:V.heap[w.heap.size]?=some (.deferred (some [])):=by rw [<- hV];exact (World.putObj_heap_other (by omega)).trans s3
   have vI:I pre V:=by rw [<- hV];exact hI.putObj _ s1 (by omega) s2 rfl
   have vP:Pr pre x V:=by rw [<- hV];exact hPb _ _ _ _ _ _ (by omega) s2 rfl hp
   have vK:Kp W V:=by rw [<- hV];exact hKb _ _ _ _ (by omega) s2 rfl rfl
   rw [hV]
   refine wpIn_mono (hbody _ pre x V (by omega) vI vP) ?_
   rintro e a3 W3 ⟨rfl,k1,k2,k3⟩
   have t2:=k1.same _ _ (by omega) v2 rfl
   have t3:=k1.same _ _ (Nat.le_refl _) v3 rfl
   have hlt3:w.heap.size+1<W3.heap.size:=(Array.getElem?_eq_some_iff.1 t2).1
   have he:=run_endRound (P:=P) none t2
   refine ⟨_,_,he,?_,⟨hI.putObj _ k3 (by omega) t2 rfl,?_,(World.putObj_heap_other (by omega)).trans t3⟩,hKt vK (hKt k2 (hKb _ _ _ _ (by omega) t2 rfl rfl))⟩
   ·rfl
   ·rw [World.putObj_heap_same hlt3,hR]
    rfl
  ·rintro e W2 ⟨⟨v,rfl⟩,xs,hS,s1,s2,s3⟩
   have he:=run_endLoop (P:=P) s2 (by rw [hR];simp)
   rw [hR] at he
   exact ⟨none,_,he,hdone _ xs _ (Nat.le_refl _) hS (hI.putObj _ s1 (by omega) s2 rfl) ((World.putObj_heap_other (by omega)).trans s3)⟩
end

attribute [local go_sem] Oper.semAt_some

theorem kZ {g n i:Nat} {r:List UInt8} (h0:0<n):(frameB (jrecB g i r) n).length=recN g n i r * n:=ct h0
theorem zX {kept:Nat->List UInt8} {n a g:Nat} (hk:∀i,(kept i).length=n) (h0:0<n) (l1 l2:List (List UInt8)) (r:List UInt8) (h:secs kept a (usedN g n 1 (l1++r::l2))=framesB g n 1 (l1++r::l2)) :
  secs kept (a+usedN g n 1 l1) (recN g n (1+l1.length) r)=frameB (jrecB g (1+l1.length) r) n:=by
 rw [framesB_app,usedN_app] at h
 have h2:=xB hk a (usedN g n 1 l1) (usedN g n (1+l1.length) (r::l2))
 rw [h,List.drop_append_of_le_length (by rw [cE h0];exact Nat.le_refl _),List.drop_of_length_le (by rw [cE h0];exact Nat.le_refl _),List.nil_append,framesB,usedN] at h2
 have h3:=oZ hk (a+usedN g n 1 l1) (recN g n (1+l1.length) r) (usedN g n (1+l1.length+1) l2)
 rw [<- h2,<- kZ h0,List.take_append_of_le_length (Nat.le_refl _),List.take_length] at h3
 exact h3.symm

structure RcM where
 A:Option Addr
 m:Nat
 c:Nat
 s:Nat
def rcE (x:RcM):Array Value := #[.slice x.A x.m x.c, .int .i64 (x.s:Int)]

def RcP (g n:Nat) (rs:List (List UInt8)) (pre:List RcM) (x:RcM) (W:World):Prop :=
 ∃r,rs[pre.length]?=some r/\x.m=(jrecB g (1+pre.length) r).length/\x.s=recN g n (1+pre.length) r/\Sees W W.heap.size x.A (bv (jrecB g (1+pre.length) r))

def KpJ (L:Lay) (b0:Nat) (W W':World):Prop:=W.heap.size<=W'.heap.size/\∀k,L.has k∨(b0<=k/\k<b0+4)->W'.heap[k]?=W.heap[k]?
theorem KpJ.trans {L:Lay} {b0:Nat} {A B C:World} (h:KpJ L b0 A B) (k:KpJ L b0 B C):KpJ L b0 A C:=⟨Nat.le_trans h.1 k.1,fun i hi=>(k.2 i hi).trans (h.2 i hi)⟩
theorem KpJ.of_below {L:Lay} {D:Dk} {b0:Nat} {W W':World} (hd:DiskAt W L D) (hb:b0+4<=W.heap.size) (h:Below W.heap.size W W'):KpJ L b0 W W':=⟨h.size,fun k hk=>h.block k (by
 rcases hk with e|e
 ·exact hd.lt e
 ·omega)⟩

theorem xI (w:World) (bc a z k:Nat):CallsIn .wide 3 Tryz.prog 215 #[.pointer (some ⟨bc,0,none⟩), .int .i64 (a:Int), .int .i64 (z:Int), .int .u64 (k:Int)] w fun e w' =>
  e = .returned (.func (.func 277) #[] #[.pointer (some ⟨w.heap.size+1,0,none⟩), .pointer (some ⟨w.heap.size+1+1+1,0,none⟩), .pointer (some ⟨w.heap.size+1+1,0,none⟩), .pointer (some ⟨w.heap.size,0,none⟩)]) /\
   w'=(((w.alloc (.cells #[.pointer (some ⟨bc,0,none⟩)] 65)).alloc (.cells #[.int .i64 (a:Int)] 3)).alloc (.cells #[.int .i64 (z:Int)] 3)).alloc (.cells #[.int .u64 (k:Int)] 25):=by
 refine callsIn_of_wp Tryz.func215 rfl trivial ?_ rfl
 simp only [Tryz.ntmps215,List.size_toArray,List.length_cons,List.length_nil,Nat.reduceAdd,Nat.reduceSub,Array.replicate_succ,Array.replicate_zero,List.push_toArray,List.append_toArray,List.nil_append,List.cons_append]
 gi_wp2
 go_ret
 exact ⟨rfl,rfl⟩

theorem o9 {w:World} {L:Lay} {D:Dk} (h:DiskAt w L D) (hc:D.calm) (hw:D.waits=[]) (a z b0 g:Nat) (rs:List (List UInt8)) (hg:g<=100000) (hrs:rs.length<=2047) (hrl:∀r∈rs,r.length<=2048) (hsec:secs D.kept a (usedN g D.n 1 rs)=framesB g D.n 1 rs) (hz:a+usedN g D.n 1 rs<=z) (hzc:z<=D.c)
  (h0:BoxAt w b0 #[.pointer (some ⟨L.b,0,none⟩)] 65) (h1:BoxAt w (b0+1) #[.int .i64 (a:Int)] 3) (h2:BoxAt w (b0+1+1) #[.int .i64 (z:Int)] 3) (h3:BoxAt w (b0+1+1+1) #[.int .u64 (rs.length:Int)] 25) :
  DZ .wide 5 Tryz.prog 277 #[.pointer (some ⟨b0+1,0,none⟩), .pointer (some ⟨b0+1+1+1,0,none⟩), .pointer (some ⟨b0+1+1,0,none⟩), .pointer (some ⟨b0,0,none⟩)] rcE (RcP g D.n rs) (KpJ L b0) (fun xs=>xs.length=rs.length) w:=fun l J W hW hJ hY hJ0=>by
 have hb0:b0+4<=w.heap.size:=h3.lt
 have hn1:=h.ok.n1
 have hcc:=h.ok.c2
 have KW:=KpJ.of_below h hb0 hW
 refine callsIn_of_wp Tryz.func277 rfl trivial ?_ rfl
 simp only [Tryz.ntmps277,List.size_toArray,List.length_cons,List.length_nil,Nat.reduceAdd,Nat.reduceSub,Array.replicate_succ,Array.replicate_zero,List.push_toArray,List.append_toArray,List.nil_append,List.cons_append]
 have H:=aa h
 have X0:=aa h0
 have X1:=aa h1
 have X2:=aa h2
 have X3:=aa h3
 have c1:=(World.cell?_of_block (a:=⟨b0+1,0,none⟩) (KW.2 _ (.inr ⟨by show b0<=b0+1;omega,by show b0+1<b0+4;omega⟩))).trans (h1.cell 0)
 simp only [List.getElem?_toArray,List.getElem?_cons_zero] at c1
 have HK0:=aa KW
 obtain ⟨n,hn⟩:∃n,D.n=n:=⟨_,rfl⟩
 rw [hn] at hsec hz hn1
 obtain ⟨q,hq⟩:∃q,rs.length=q:=⟨_,rfl⟩
 have HQ:=aa hq
 rw [hq] at hrs
 have HN:=aa hn
 have HS:=aa hsec
 have HRL:=aa hrl
 clear h h0 h1 h2 h3 hW KW hn hsec hrl hq
 gi_wp2
 gi_loopw [6,7] (fun u v wr=>∃(xs:List RcM) (k p:Nat),k<=q/\u = .int .i64 (p:Int)/\v = .int .u64 (k:Int)/\Hid (xs.length=k)/\Hid (p=a+usedN g n 1 (rs.take k))/\Hid (J xs wr)/\Hid (KpJ L b0 w wr)/\Hid (W.heap.size<=wr.heap.size)) (fun _ v _=>q - (intOf v).toNat)
 case atStart=>exact ⟨[],0,a,Nat.zero_le _,rfl,rfl,aa rfl,aa (by simp [usedN]),aa hJ0,HK0,aa (Nat.le_refl _)⟩
 case round =>
  obtain ⟨xs,k,p,hk,rfl,rfl,HX,HP,HJ,HK,HW⟩:=hrel
  have hst:=fun i (hi:b0<=i/\i<b0+4)=>HK.out.2 i (.inr hi)
  have c3:=(World.cell?_of_block (a:=⟨b0+1+1+1,0,none⟩) (hst _ ⟨by show b0<=b0+1+1+1;omega,by show b0+1+1+1<b0+4;omega⟩)).trans (X3.out.cell 0)
  have c2:=(World.cell?_of_block (a:=⟨b0+1+1,0,none⟩) (hst _ ⟨by show b0<=b0+1+1;omega,by show b0+1+1<b0+4;omega⟩)).trans (X2.out.cell 0)
  have c0:=(World.cell?_of_block (a:=⟨b0,0,none⟩) (hst _ ⟨by show b0<=b0;omega,by show b0<b0+4;omega⟩)).trans (X0.out.cell 0)
  simp only [List.getElem?_toArray,List.getElem?_cons_zero] at c0 c2 c3
  rw [HQ.out] at c3
  clear hst
  by_cases hlt:k<q
  ·obtain ⟨r,hr⟩:∃r,rs[k]?=some r:=⟨_,List.getElem?_eq_getElem (by rw [HQ.out];exact hlt)⟩
   have hkl:k<rs.length:=by rw [HQ.out];exact hlt
   have hrr:rs[k]=r:=(List.getElem?_eq_some_iff.1 hr).2
   have hsp:rs=rs.take k++r::rs.drop (k+1):=by rw [<- hrr,List.getElem_cons_drop hkl,List.take_append_drop]
   have htl:(rs.take k).length=k:=by rw [List.length_take];omega
   have hfa:=zX (a:=a) (g:=g) (n:=n) (by rw [<- HN.out];exact H.out.ok.k) (by omega) (rs.take k) (rs.drop (k+1)) r (by rw [<- hsp];exact HS.out)
   have hu:usedN g n 1 (rs.take k)+recN g n (1+k) r<=usedN g n 1 rs:=by
    have:=usedN_app (g:=g) (n:=n) 1 (rs.take k) (r::rs.drop (k+1))
    rw [<- hsp,htl,usedN] at this
    omega
   have hu2:usedN g n 1 rs=usedN g n 1 (rs.take k)+(recN g n (1+k) r+usedN g n (1+k+1) (rs.drop (k+1))):=by
    have:=usedN_app (g:=g) (n:=n) 1 (rs.take k) (r::rs.drop (k+1))
    rwa [<- hsp,htl,usedN] at this
   have hus:usedN g n 1 (rs.take (k+1))=usedN g n 1 (rs.take k)+recN g n (1+k) r:=by
    have e1:rs.take (k+1)=rs.take k++[r]:=by rw [List.take_succ_eq_append_getElem hkl,hrr]
    rw [e1,usedN_app,htl]
    simp [usedN]
   rw [htl,<- HP.out] at hfa
   have hp1:=nx (g:=g) (i:=1+k) (n:=n) (by omega) r
   have hlr:=HRL.out r (List.mem_of_getElem? hr)
   have hlb:=fv (g:=g) (i:=1+k) (r:=r) (by omega) (by omega) (by omega)
   have hdr:DiskAt wr L D:=H.out.stay fun i hi=>HK.out.2 i (.inl hi)
   have HGF:=aa (ge hdr hc hw p z (jrecB g (1+k) r) (by omega) (by rw [HN.out];exact hfa) (by rw [HN.out];show p+recN g n (1+k) r<=z;rw [HP.out];omega) hzc)
   rw [HN.out,show secN ((jrecB g (1+k) r).length+10) n=recN g n (1+k) r from rfl] at HGF
   obtain ⟨s,hs⟩:∃s,recN g n (1+k) r=s:=⟨_,rfl⟩
   obtain ⟨m,hm⟩:∃m,(jrecB g (1+k) r).length=m:=⟨_,rfl⟩
   have hps:p+s<=z:=by rw [<- hs,HP.out];omega
   have HPN:=aa (show p+s=a+usedN g n 1 (rs.take (k+1)) from by rw [hus,<- hs,HP.out];omega)
   have HMM:=aa hm
   have HSS:=aa hs
   have HRR:=aa hr
   have HDR:=aa hdr
   rw [hs,hm] at HGF
   rw [hs] at hp1
   have hb9:b0+4<=wr.heap.size:=Nat.le_trans hb0 HK.out.1
   have hpz:p<z:=by omega
   clear hr hkl hrr hsp htl hfa hu hu2 hus hlr hlb hdr hs hm
   gi_wp2_with (refine ⟨trivial,?_⟩;gi_at_call 275;refine (callsIn_wide.2 HGF.out).mono ?_;rintro e w1 ⟨A1,cp1,rfl,hs1,hb1⟩;(obtain ⟨fn,tmps,assign,body,hy,hR⟩:=hY xs ⟨A1,m,cp1,s⟩ w1 (hJ xs wr w1 none HJ.out ⟨hb1.os,hb1.tape,hb1.output,hb1.size,fun i hi _=>hb1.block i hi⟩ (fun _ e=>by cases e)) ⟨r,by rw [HX.out];exact HRR.out,by rw [HX.out];exact HMM.out.symm,by rw [HX.out,HN.out];exact HSS.out.symm,by rw [HX.out];exact hs1⟩);(simp only [rcE] at hy);(have HKW:=aa (HK.out.trans (KpJ.of_below HDR.out hb9 hb1)));(have HWW:=aa (Nat.le_trans HW.out hb1.size));clear hs1 hb1)
   refine hR.mono ?_
   rintro e W3 ⟨rfl,hJ3,hk3⟩
   have HJ3:=aa hJ3
   have HK3:=aa (HKW.out.trans hk3)
   have HW3:=aa (Nat.le_trans HWW.out hk3.1)
   clear hJ3 hk3
   gi_wp2
   go_roundw
   case rel=>exact ⟨_,k+1,p+s,by omega,by go_num,by go_num,by rw [List.length_append,HX.out];exact aa rfl,HPN,HJ3,HK3,HW3⟩
   case measure=>simp [intOf];omega
  ·obtain rfl:k=q:=by omega
   have hno:¬k<k:=by omega
   gi_wp2
   go_end0
   exact ⟨⟨_,rfl⟩,xs,HX.out.trans HQ.out.symm,HJ.out⟩

def RowsOf (W:World) (rs:List (List UInt8)) (vs:List Value):Prop:=vs.length=rs.length/\∀(i:Nat) (r:List UInt8),rs[i]?=some r->∃A c,vs[i]?=some (.slice A r.length c)/\W.ownsRow 0 5 1 (.slice A r.length c) r.length (bv r)
theorem RowsOf.below {W W':World} {rs:List (List UInt8)} {vs:List Value} (h:RowsOf W rs vs) (hb:Below W.heap.size W W'):RowsOf W' rs vs:=⟨h.1,fun i r e=>by
 obtain ⟨A,c,h1,h2⟩:=h.2 i r e
 exact ⟨A,c,h1,ao h2 hb⟩⟩
theorem sf {W W':World} {row:Option Nat} {base n s:Nat} {e:TypeId} {v:Value} {xs:List Value} (h:W.ownsRow base e s v n xs) (hg:W.grownBy W' row) (hr:∀r,row=some r->∃o:Obj,W.heap[r]?=some o/\o.isCells=false):W'.ownsRow base e s v n xs:=by
 refine ⟨h.1,?_⟩
 rcases h.2 with h0 | ⟨g',cap,cur,rfl,h1,hg',h2⟩
 ·exact .inl h0
 ·exact .inr ⟨g',cap,cur,rfl,h1,(cK hg hr hg').trans hg',h2⟩

structure ScanI (B R:Nat) (L:Lay) (D:Dk) (jb bj bl t g K u:Nat) (rs:List (List UInt8)) (v:Value) (vs:List Value) (W:World):Prop where
 j:JBox W L D jb t g K u
 xj:BoxAt W bj #[.pointer (some ⟨jb,0,none⟩)] 136
 xl:BoxAt W bl #[v] 137
 ow:W.ownsRow R 50 1 v rs.length vs
 rw:RowsOf W rs vs
 lt:∀q,L.has q->q<B
 hj:jb<B
 bj:B<=bj
 bl:B<=bl
 sz:R<=W.heap.size
 hR:B<=R
section
variable {B R : Nat} {L : Lay} {D : Dk} {jb bj bl t g K u : Nat} {rs : List (List UInt8)} {v : Value} {vs : List Value} {W W' : World}
theorem ScanI.below (h:ScanI B R L D jb bj bl t g K u rs v vs W) (hb:Below W.heap.size W W'):ScanI B R L D jb bj bl t g K u rs v vs W' :=
 ⟨h.j.below hb,h.xj.below hb,h.xl.below hb,ao h.ow hb,h.rw.below hb,h.lt,h.hj,h.bj,h.bl,Nat.le_trans h.sz hb.size,h.hR⟩
theorem ScanI.turn {row:Option Nat} {C:Nat} (h:ScanI B R L D jb bj bl t g K u rs v vs W) (hC:L.m<C) (hg:W.grownBy W' row) (hr:∀r,row=some r->C<=r/\∃o:Obj,W.heap[r]?=some o/\o.isCells=false):ScanI B R L D jb bj bl t g K u rs v vs W' :=
 have hrc:=fun r e=>(hr r e).2
 ⟨⟨h.j.d.turn13 hC hg hr,(cK hg hrc h.j.x).trans h.j.x,h.j.h⟩,(cK hg hrc h.xj).trans h.xj,(cK hg hrc h.xl).trans h.xl,sf h.ow hg hrc,⟨h.rw.1,fun i r e=>by
  obtain ⟨A,c,h1,h2⟩:=h.rw.2 i r e
  exact ⟨A,c,h1,sf h2 hg hrc⟩⟩,h.lt,h.hj,h.bj,h.bl,Nat.le_trans h.sz hg.size,h.hR⟩
theorem ScanI.nil {R':Nat} (h:ScanI B R L D jb bj bl t g K u [] (.slice none 0 0) [] W) (h1:B<=R') (h2:R'<=W.heap.size):ScanI B R' L D jb bj bl t g K u [] (.slice none 0 0) [] W :=
 ⟨h.j,h.xj,h.xl,World.ownsRow_nil _ _ _ _,h.rw,h.lt,h.hj,h.bj,h.bl,h2,h1⟩

theorem ScanI.typed {b:Nat} {cs:Array Value} {T:TypeId} (h:ScanI B R L D jb bj bl t g K u rs v vs W) (hx:BoxAt W b cs T) (hT:T≠136/\T≠137/\T≠50/\T≠5) (hb:B<=b) (hg:W.grownBy W' (some b)):ScanI B R L D jb bj bl t g K u rs v vs W':=by
 have hne:∀k,k≠b->k<W.heap.size->W'.heap[k]?=W.heap[k]?:=fun k hk hl=>hg.block k hl (fun e=>hk (by cases e;rfl))
 have hjl:=h.j.x.lt
 refine ⟨⟨h.j.d.stay fun q hq=>hne q (fun e => ?_) (h.j.d.lt hq),(hne jb (fun e => ?_) hjl).trans h.j.x,h.j.h⟩,BoxAt.keep13 h.xj hg (fun e => ?_),BoxAt.keep13 h.xl hg (fun e => ?_),aM h.ow (hx.apart9 hT.2.2.1 h.ow) hg,⟨h.rw.1,fun i r e => ?_⟩,h.lt,h.hj,h.bj,h.bl,Nat.le_trans h.sz hg.size,h.hR⟩
 ·have:=h.lt q hq
  omega
 ·have:=h.hj
  omega
 ·subst e
  exact aN hx h.xj hT.1 rfl
 ·subst e
  exact aN hx h.xl hT.2.1 rfl
 ·obtain ⟨A,c,h1,h2⟩:=h.rw.2 i r e
  exact ⟨A,c,h1,aM h2 (hx.apart9 hT.2.2.2 h2) hg⟩
theorem ScanI.pushBox {w1:World} {o:Obj} (h:ScanI B R L D jb bj bl t g K u rs v vs W) (hgr:(W.alloc o).grownBy w1 v.ownBlock):BoxAt w1 bl #[v] 137:=by
 have hb:=h.below (W':=W.alloc o) ((Below.refl _ _).alloc (Nat.le_refl _) _)
 exact (hgr.block bl hb.xl.lt (fun e=>(hb.xl.apart9 (by decide) hb.ow) e)).trans hb.xl

theorem ScanI.push {w1:World} {r:List UInt8} {A:Option Addr} {c:Nat} {v':Value} {o:Obj} (h:ScanI B R L D jb bj bl t g K u rs v vs W) (hr:W.ownsRow 0 5 1 (.slice A r.length c) r.length (bv r))
  (hown:w1.ownsRow R 50 1 v' (rs.length+1) (vs++[.slice A r.length c])) (hgr:(W.alloc o).grownBy w1 v.ownBlock):ScanI B R L D jb bj bl t g K u (rs++[r]) v' (vs++[.slice A r.length c]) (w1.setCell ⟨bl,0,none⟩ v'):=by
 have hal:Below W.heap.size W (W.alloc o):=(Below.refl _ _).alloc (Nat.le_refl _) _
 have hb:=h.below hal
 have hvb:∀q,v.ownBlock=some q->B<=q:=fun q e=>Nat.le_trans h.hR (h.ow.lt q e).1
 have n1:=hb.xj.apart9 (by decide) hb.ow
 have n2:=hb.xl.apart9 (by decide) hb.ow
 have hne:∀k,some k≠v.ownBlock->k≠bl->k<(W.alloc o).heap.size->(w1.setCell ⟨bl,0,none⟩ v').heap[k]?=(W.alloc o).heap[k]?:=fun k e1 e2 hl=>by
  rw [Below.heap_setCell _ _ _ _ e2]
  exact hgr.block k hl (fun e=>e1 e)
 have hlj:jb<(W.alloc o).heap.size:=hb.j.x.lt
 have hbj:bj≠bl:=fun e=>aN h.xj (e ▸ h.xl) (by decide) rfl
 have gs:=aE w1 bl 0 v'
 have l1:BoxAt w1 bl #[v] 137:=(hgr.block bl hb.xl.lt (fun e=>n2 e)).trans hb.xl
 refine ⟨⟨hb.j.d.stay fun q hq=>hne q (fun e => ?_) (fun e => ?_) (hb.j.d.lt hq),(hne jb (fun e => ?_) (fun e => ?_) hlj).trans hb.j.x,h.j.h⟩,(hne bj n1 hbj hb.xj.lt).trans hb.xj,?_,?_,⟨?_,?_⟩,h.lt,h.hj,h.bj,h.bl,?_,h.hR⟩
 ·have:=h.lt q hq
  have:=hvb q e.symm
  omega
 ·have:=h.lt q hq
  have:=h.bl
  omega
 ·have:=h.hj
  have:=hvb jb e.symm
  omega
 ·have:=h.hj
  have:=h.bl
  omega
 ·have:=l1.set9 0 v'
  simpa using this
 ·rw [List.length_append]
  exact aM hown (l1.apart9 (by decide) hown) gs
 ·rw [List.length_append,List.length_append,h.rw.1]
  rfl
 ·have keep:∀ {A':Option Addr} {r':List UInt8} {c':Nat},W.ownsRow 0 5 1 (.slice A' r'.length c') r'.length (bv r')->(w1.setCell ⟨bl,0,none⟩ v').ownsRow 0 5 1 (.slice A' r'.length c') r'.length (bv r'):=fun {A' r' c'} hx=>by
   refine aM ?_ (l1.apart9 (by decide) (e:=5) (?_:w1.ownsRow 0 5 1 (.slice A' r'.length c') r'.length (bv r'))) gs
   all_goals
    have hx1:=ao hx hal
    refine ⟨hx1.1,?_⟩
    rcases hx1.2 with h0 | ⟨q,cap,cur,e,h1,hq,h2⟩
    ·exact .inl h0
    ·refine .inr ⟨q,cap,cur,e,h1,(hgr.block q (Array.getElem?_eq_some_iff.1 hq).1 fun e' => ?_).trans hq,h2⟩
     exact BoxAt.apart9 (show BoxAt (W.alloc o) q cur 5 from hq) (by decide) hb.ow e'
  intro i r' e
  by_cases hi:i<rs.length
  ·rw [List.getElem?_append_left hi] at e
   obtain ⟨A',c',h1,h2⟩:=h.rw.2 i r' e
   exact ⟨A',c',by rw [List.getElem?_append_left (by rw [h.rw.1];exact hi)];exact h1,keep h2⟩
  ·have hi2:i=rs.length:=by
    have:=(List.getElem?_eq_some_iff.1 e).1
    rw [List.length_append] at this
    simp at this
    omega
   subst hi2
   simp at e
   subst e
   exact ⟨A,c,by rw [<- h.rw.1];simp,keep hr⟩
 ·have:=hgr.size
  have:=gs.size
  have:=h.sz
  have:=hal.size
  omega

theorem ScanI.count (h:ScanI B R L D jb bj bl t g K u rs v vs W) (u':Nat):ScanI B R L D jb bj bl t g K u' rs v vs (W.setCell ⟨jb,4,none⟩ (.int .i64 (u':Int))):=by
 have gs:=aE W jb 4 (.int .i64 (u':Int))
 have hne:∀k,k≠jb->k<W.heap.size->(W.setCell ⟨jb,4,none⟩ (.int .i64 (u':Int))).heap[k]?=W.heap[k]?:=fun k hk hl=>gs.block k hl (fun e=>hk (by cases e;rfl))
 have hx:=h.j.x.set9 4 (.int .i64 (u':Int))
 refine ⟨⟨h.j.d.stay fun q hq=>hne q (fun e=>h.j.h (e ▸ hq)) (h.j.d.lt hq),by simpa [jcs] using hx,h.j.h⟩,BoxAt.keep13 h.xj gs (by have:=h.hj;have:=h.bj;omega),BoxAt.keep13 h.xl gs (by have:=h.hj;have:=h.bl;omega),aM h.ow (h.j.x.apart9 (by decide) h.ow) gs,⟨h.rw.1,fun i r e => ?_⟩,h.lt,h.hj,h.bj,h.bl,Nat.le_trans h.sz gs.size,h.hR⟩
 obtain ⟨A,c,h1,h2⟩:=h.rw.2 i r e
 exact ⟨A,c,h1,aM h2 (h.j.x.apart9 (by decide) h2) gs⟩
end
end Go.Proofs.YtnkjdijbfnmnhaaGreat
