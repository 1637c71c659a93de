/-
  Texts of this claim put together: Sec4, Sec5.
-/
import Derived.Test.YtnkjdijbfnmnhaaGreatJ39
import Derived.Deep.RegionHeld
import Derived.Lib.Hide
import Derived.OwnWalk
import Derived.Lib.AppendZerosOnto
import Derived.Lib.Overlaps

namespace Go.Proofs.YtnkjdijbfnmnhaaGreat
open Go.RowKit

theorem lF (l:List UInt8) (B:Nat) (A:Option Addr) (m c:Nat) (w:World) (hs:Sees w B A (bv l)) (hm:l.length=m) (h0:0<m) (hB:B<=w.heap.size) (hl:m<=1000000) :
  Calls Tryz.prog 339 #[.slice A m c] w fun e w'=>∃g cp,e = .returned (.slice (some ⟨g,0,none⟩) m cp)/\w.heap.size<=g/\RowIs w' g l/\m<=cp/\Below w.heap.size w w':=by
 obtain ⟨ad,rfl,_,_⟩:=hs (by rw [bv_length];omega)
 have HS:=aa (hs.more hB)
 have HM:=aa hm
 have H0:=aa h0
 clear hs hm h0
 have hnil:=fun u:World=>Lib.run_eql_slice_nil (P:=Tryz.prog) u 50 _ (some ad) m c 0 0 Tryz.underlying50
 have h1:=sD (w:=w) (base:=w.heap.size) (s:=1) 5 (Nat.le_refl _)
 have H1:=aa h1
 clear h1
 go_enter Tryz.func339,Tryz.ntmps339
 go_wp2_with (at_builtin;refine dv _ rfl _ _ 50 rfl w.heap.size 5 bT Tryz.underlying50 _ 0 [] l l rfl rfl H1.out w.heap.size (some ad) m c rfl HM.out (HS.out.below ((Below.refl _ _).alloc (Nat.le_refl _) _)) (by omega) (by simp) ?_;intro A' c' w1 hown hb)
 go_ret
 have hm:=HM.out
 obtain ⟨g,rfl,hg,hc,hr⟩:=jK hown rfl (by rw [hm];exact H0.out)
 exact ⟨g,c',by rw [hm];rfl,hg,hr,by omega,((Below.refl w.heap.size w).alloc (Nat.le_refl _) _).trans hb⟩

def rdB (D:Dk) (i:Int):List UInt8:=if cF D i=0 then newD D i.toNat else []
def DT (w:World) (D:Dk) (i:Int) (e:Ending) (w':World):Prop :=
 ∃A c,e = .returned (.tuple #[.slice A (rdB D i).length c, .int .i64 (cF D i)])/\w'.ownsRow w.heap.size 5 1 (.slice A (rdB D i).length c) (rdB D i).length (bv (rdB D i))/\Below w.heap.size w w'

section
variable {w : World} {L : Lay} {D : Dk}
set_option maxRecDepth 100000 in
theorem zR (h:DiskAt w L D) (i:Int):Calls Tryz.prog 81 #[.pointer (some ⟨L.b,0,none⟩), .int .i64 i] w (DT w D i):=by
 have H:=aa h
 have c0:=h.c0
 by_cases hr:cF D i=0
 ·have HR:=aa (show Calls Tryz.prog 148 #[.pointer (some ⟨L.b,0,none⟩), .int .i64 i] w fun e w'=>e = .returned (.int .i64 0)/\w=w' from by
   have:=dC h i
   rwa [hr] at this)
  have hb:0<=i/\i<D.c:=by
   unfold cF at hr
   split at hr
   ·split at hr
    ·assumption
    ·cases hr
   ·cases hr
  obtain ⟨k,rfl⟩:∃k:Nat,i=(k:Int):=⟨i.toNat,by omega⟩
  have HK:=aa (show k<D.c by omega)
  have hmk:=rv D.n (by have:=h.ok.n2;omega) w
  have hn2:=h.ok.n2
  have hd1:DiskAt (w.alloc (.cells (zs12 D.n) 5)) L D:=h.below ((Below.refl _ _).alloc (Nat.le_refl _) _)
  have HN:=aa (tK hd1 k HK.out)
  have HZ:=aa (j7 w D.n)
  have HL:=aa (yF h.ok k)
  have HRR:=aa hr
  clear h hb hd1 hr
  go_enter Tryz.func81,Tryz.ntmps81
  go_wp2_with (first|(go_at_call 148;refine HR.out.mono ?_;rintro e w1 ⟨rfl,rfl⟩)|(go_at_call 149;refine HN.out.mono ?_;rintro e w1 ⟨A,cp,l,rfl,hl,hs,hnew,hb1⟩;have hz:w1.heap[w.heap.size]?=some (.cells (zs12 D.n) 5 (0,0)):=(hb1.block _ (by simp)).trans (heap_alloc_new w _);obtain ⟨w2,hcp,hrow2,hg2,hs2⟩:=cB (P:=Tryz.prog) w1 50 50 3 5 Tryz.underlying50 ld w.heap.size D.n D.n _ A l.length cp (zs12 D.n) 5 hz (bv l) (bv_length l) hl (by rw [gJ];exact hl) (bD l) (hs.below hb1);have HZ1:=aa hz;have HR2:=aa hrow2;have HG2:=aa hg2;have HS2:=aa hs2;have HW:=aa hnew;have HB1:=aa hb1;clear hz hrow2 hg2 hs2 hnew hb1 hs))
  go_ret2
  have e:rdB D (k:Int)=l++(List.replicate D.n 0).drop l.length:=by
   rw [rdB,if_pos HRR.out,Int.toNat_natCast]
   exact HW.out
  have el:(rdB D (k:Int)).length=D.n:=by
   rw [rdB,if_pos HRR.out,Int.toNat_natCast]
   exact HL.out
  have ec:(bv l++(zs12 D.n).toList.drop l.length)=bv (rdB D (k:Int)):=by rw [e,bv_append,gi,my]
  refine ⟨some ⟨w.heap.size,0,none⟩,D.n,by rw [el,HRR.out];rfl,?_,?_⟩
  ·rw [el]
   refine ⟨by rw [bv_length,el,Nat.mul_one], .inr ⟨w.heap.size,D.n,_,rfl,Nat.le_refl _,HR2.out,Nat.le_refl _,by unfold maxLen;omega,?_,?_⟩⟩
   ·rw [ec]
    simp [bv_length,el]
   ·rw [ec,List.take_of_length_le]
    simp [bv_length,el]
  ·exact (((Below.refl w.heap.size w).alloc (Nat.le_refl _) _).trans (HB1.out.mono (by simp))).grown HG2.out (by have:=HB1.out.size;simp at this;omega) (fun k e=>by cases e;exact Nat.le_refl _)
 ·have HR:=aa (dC h i)
  have hne:(cF D i == 0)=false:=beq_eq_false_iff_ne.2 hr
  have HRR:=aa hr
  obtain ⟨r,hrr⟩:∃r,cF D i=r:=⟨_,rfl⟩
  have HE:=aa hrr
  rw [hrr] at HR hne HRR
  clear h hr hrr
  go_enter Tryz.func81,Tryz.ntmps81
  go_wp2_with (go_at_call 148;refine HR.out.mono ?_;rintro e w1 ⟨rfl,rfl⟩)
  go_ret2
  have e:rdB D i=[]:=by rw [rdB,if_neg (by rw [HE.out];exact HRR.out)]
  exact ⟨none,0,by rw [e,HE.out];rfl,by rw [e];exact World.ownsRow_nil _ _ _ _,Below.refl _ _⟩
end

theorem B8:(Tryz.prog.info? 299).map (fun i=>(i.zero,i.size,i.bytes))=some (some (.agg #[.int .i64 0, .slice none 0 0]),2,32):=by kernel_rfl

section
variable {w : World} {L : Lay} {D : Dk}
theorem B9 {w w':World} {base s n:Nat} {e:TypeId} {v:Value} {xs:List Value} {row:Option Nat} (h:w.ownsRow base e s v n xs) (hg:w.grownBy w' row) (hne:∀g,v.ownBlock=some g->some g≠row):w'.ownsRow base e s v n xs:=by
 refine ⟨h.1,?_⟩
 rcases h.2 with h0 | ⟨g,cap,cur,rfl,h1,hx,h2⟩
 ·exact .inl h0
 ·exact .inr ⟨g,cap,cur,rfl,h1,(hg.block g (Array.getElem?_eq_some_iff.1 hx).1 (hne g rfl)).trans hx,h2⟩

theorem DiskAt.append {w1 w2 w3:World} (h:DiskAt w L D) {i g cp:Nat} {l:List UInt8} {A':Option Addr} {c':Nat} (hi:i<D.c) (hl:l.length=D.n) (hcp:l.length<=cp) (hn:D.waits.length+1<=100000)
  (hg:w.heap.size<=g) (hb:Below w.heap.size w w1) (hr:RowIs w1 g l) (hrow:w2.ownsRow 0 299 2 (.slice A' (D.waits.length+1) c') (D.waits.length+1) (wcs L.G D.waits++[.int .i64 (i:Int), .slice (some ⟨g,0,none⟩) l.length cp]))
  (hg2:w1.grownBy w2 (Value.slice L.A D.waits.length L.cp).ownBlock) (hloc:(Value.slice A' (D.waits.length+1) c').ownBlock=(Value.slice L.A D.waits.length L.cp).ownBlock∨∃b,w1.heap.size<=b/\(Value.slice A' (D.waits.length+1) c').ownBlock=some b)
  (h3:w3=w2.setCell ⟨L.b,3,none⟩ (.slice A' (D.waits.length+1) c')):Does L w w3 { D with waits:=D.waits++[(i,l)] }:=by
 have hbox:=h.box
 unfold BoxAt at hbox
 have h1:DiskAt w1 L D:=h.below hb
 have hbx1:w1.heap[L.b]?=some (.cells (dcs L D) 135 (0,0)):=(hb.block _ h.box.lt).trans hbox
 have hA:∀g,(Value.slice L.A D.waits.length L.cp).ownBlock=some g->∃o s,L.A=some ⟨g,o,s⟩:=by
  intro g' e
  cases hLA:L.A with
  | none=>rw [hLA] at e;cases e
  | some ad =>
   rw [hLA] at e
   injection e with e
   obtain ⟨b,o,s⟩:=ad
   simp only at e
   subst e
   exact ⟨o,s,rfl⟩
 have hrw:∀g',(Value.slice L.A D.waits.length L.cp).ownBlock=some g'->∃cur,w1.heap[g']?=some (.cells cur 299 (0,0)):=fun g' e=>by
  obtain ⟨o,s,e⟩:=hA g' e
  exact h1.kA e
 have hlen:(dcs L D).size=8:=rfl
 have hsz2:=hg2.size
 have hb2:w2.heap[L.b]?=some (.cells (dcs L D) 135 (0,0)):=(hg2.block _ (by have:=h.box.lt;have:=hb.size;omega) (fun e=>by
  obtain ⟨cur,hx⟩:=hrw _ e.symm
  exact aN hbx1 hx (by decide) rfl)).trans hbx1
 have hother:∀k ob,w1.heap[k]?=some ob->k≠L.b->(∀cur,ob ≠ .cells cur 299 (0,0))->w3.heap[k]?=some ob:=by
  intro k ob hk hne hnw
  rw [h3,Below.heap_setCell _ _ _ _ hne]
  refine (hg2.block k (Array.getElem?_eq_some_iff.1 hk).1 (fun e => ?_)).trans hk
  obtain ⟨cur,hx⟩:=hrw _ e.symm
  rw [hk] at hx
  injection hx with hx
  exact hnw _ hx
 have h8:∀(k:Nat) (cur:Array Value),w1.heap[k]?=some (.cells cur 5 (0,0))->w3.heap[k]?=w1.heap[k]?:=fun k cur hk=>by
  rw [hother k _ hk (fun e=>aN hk hbx1 (by decide) e) (fun c e=>by injection e with _ e;exact absurd e (by decide)),hk]
 have hm3:w3.heap[L.m]?=w1.heap[L.m]?:=by
  obtain ⟨es,k,em⟩:=h1.map.is
  rw [hother L.m _ em (fun e=>cj hbx1 em e.symm) (fun c e=>by cases e),em]
 have hKG:∀j g',L.K j=some g'->g'≠g:=fun j g' e=>by
  have:=(h.keep j g' e).2.lt
  omega
 have hlt1:∀k,L.has k->k<w1.heap.size:=fun k hk=>h1.lt hk
 have hA3:∀k o s,A'=some ⟨k,o,s⟩->k=L.b->False:=by
  intro k o s e ek
  subst ek
  rcases hrow.2 with ⟨_,h0⟩ | ⟨g',cap,cur,hv,_,hx,_⟩
  ·omega
  ·injection hv with hv
   rw [e] at hv
   injection hv with hv
   injection hv with hv
   subst hv
   exact aN hb2 hx (by decide) rfl
 refine ⟨{ L with A:=A',cp:=c',G:=L.G++[(g,cp)] },rfl,?_,?_,?_⟩
 ·exact {
   box:=by
    rw [h3]
    have:=aU 3 (.slice A' (D.waits.length+1) c') hb2
    show _=_
    rw [this]
    congr 2
    simp [dcs]
   map:=h1.map.stay hm3
   row:=by
    rw [l7 _ _ _ _ h.len,List.length_append,List.length_cons,List.length_nil]
    refine ca hrow fun k o s e => ?_
    rw [h3]
    exact Below.heap_setCell _ _ _ _ (fun ek=>hA3 k o s e ek)
   len:=by simp [h.len]
   keep:=fun j g' e=>by
    obtain ⟨cur,hx⟩:=h1.kK e
    exact ⟨(h.keep j g' e).1,((h1.keep j g' e).2).stay12 (h8 g' cur hx)⟩
   zero:=h.zero
   inj:=h.inj
   wt:=fun j p q e1 e2=>by
    simp only at e1 e2
    by_cases hj:j<D.waits.length
    ·rw [List.getElem?_append_left (by rw [h.len];exact hj)] at e1
     rw [List.getElem?_append_left hj] at e2
     obtain ⟨cur,hx⟩:=h1.kG (List.mem_of_getElem? e1)
     exact ⟨(h1.wt j p q e1 e2).1.stay12 (h8 _ cur hx),(h1.wt j p q e1 e2).2⟩
    ·rw [List.getElem?_append_right (by omega)] at e2
     rw [List.getElem?_append_right (by rw [h.len];omega),h.len] at e1
     have hj0:j - D.waits.length=0:=by
      rcases Nat.eq_zero_or_pos (j - D.waits.length) with h0|h0
      ·exact h0
      ·rw [List.getElem?_eq_none (by simp;omega)] at e2
       cases e2
     rw [hj0] at e1 e2
     simp at e1 e2
     subst e1 e2
     obtain ⟨cur,hx,hc⟩:=hr
     exact ⟨RowIs.stay12 ⟨cur,hx,hc⟩ (h8 g cur hx),hcp,fun j' e=>hKG j' _ e rfl⟩
   ok:=⟨h.ok.n1,h.ok.n2,h.ok.c1,h.ok.c2,h.ok.k,fun q hq=>by
    rcases List.mem_append.1 hq with hq|hq
    ·exact h.ok.ws q hq
    ·simp at hq
     subst hq
     exact ⟨hi,hl⟩,by simp;omega,h.ok.l1,h.ok.l2⟩ }
 ·have c1:Chg L.has w w1:=Chg.of_below hb
  have c2:Chg L.has w1 w2:=⟨hg2.os,hg2.tape,hg2.output,hg2.size,fun k hk hn=>hg2.block k hk fun e=>hn (by
   obtain ⟨o,s,e⟩:=hA k e.symm
   exact .inr (.inr (.inl ⟨o,s,e⟩)))⟩
  have c3:Chg L.has w2 w3:=by
   rw [h3]
   exact Chg.of_grown (aE w2 L.b 3 _) (.inl (.inl rfl))
  exact (c1.trans c2 fun _ hg _=>hg).trans c3 fun _ hg _=>hg
 ·intro k hk
  have hs1:=hb.size
  rcases hk with rfl|rfl | ⟨o,s,e⟩ | ⟨j,e⟩ | ⟨p,hp,rfl⟩
  ·exact .inl (.inl rfl)
  ·exact .inl (.inr (.inl rfl))
  ·simp only at e
   rcases hloc with hq | ⟨b,hb',hq⟩
   ·rw [e] at hq
    obtain ⟨o',s',e'⟩:=hA k hq.symm
    exact .inl (.inr (.inr (.inl ⟨o',s',e'⟩)))
   ·rw [e] at hq
    injection hq with hq
    simp only at hq
    exact .inr (by omega)
  ·exact .inl (.inr (.inr (.inr (.inl ⟨j,e⟩))))
  ·rcases List.mem_append.1 hp with hp|hp
   ·exact .inl (.inr (.inr (.inr (.inr ⟨p,hp,rfl⟩))))
   ·simp at hp
    subst hp
    exact .inr hg
end
end Go.Proofs.YtnkjdijbfnmnhaaGreat
