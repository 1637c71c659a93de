/-
  Texts of this claim put together: By14.
-/
import Derived.Test.YtnkjdijbfnmnhaaGreatJ18
import Derived.Test.YtnkjdijbfnmnhaaGreatJ28
import Derived.Test.YtnkjdijbfnmnhaaGreatJ15
import Derived.Test.YtnkjdijbfnmnhaaGreatJ20

namespace Go.Proofs.YtnkjdijbfnmnhaaGreat
set_option maxRecDepth 100000
set_option maxHeartbeats 12800000
open Go.RowKit

def ndB (b:UInt8):List UInt8:=numB b.toNat
def bG (f:List UInt8):List UInt8:=numB f.length++f.flatMap ndB
def confB (c:CfP):List UInt8:=numB c.1++(bG c.2.1++bG c.2.2)
theorem qk (b:UInt8):(ndB b).length<=10:=av _ (by have:=b.toNat_lt;omega)
theorem iI {f:List UInt8} (h:f.length<=100):(bG f).length<=1010:=by
 have h1:=av f.length (by omega)
 have h2:=cV (f:=ndB) (q:=10) f (fun x _=>qk x)
 unfold bG
 rw [List.length_append]
 omega
theorem DJ {c:CfP} (hc:c.1<18446744073709551616) (h1:c.2.1.length<=100) (h2:c.2.2.length<=100):(confB c).length<=2030:=by
 have h0:=av c.1 hc
 have h3:=iI h1
 have h4:=iI h2
 unfold confB
 simp only [List.length_append]
 omega

theorem i7 (l r:List UInt8) (x:NdM) (n:Nat) (hnn:x.l.length=n) (base:Nat) (v:Value) (B:Nat) (w:World) (hres:l++bG x.l=r) (hl:l.length<=800000) (hx:NdM.ok w B x) (hB:B<=base)
  (hown:w.ownsRow base 5 1 v l.length (bv l)) (hbase:base<=w.heap.size) :
  Calls Tryz.prog 122 #[v, .slice x.A n x.c] w (lm base v r w):=by
 obtain ⟨A,c,f⟩:=x
 simp only at hnn hres hx
 have HM:=aa hx.1
 have HS:=aa hx.2
 have HN:=aa hnn
 have HO:=aa hown
 obtain ⟨l1,hl1⟩:∃l1,l++numB n=l1:=⟨_,rfl⟩
 have HR:=aa (show l1++(f.take n).flatMap ndB=r by
  rw [<- hnn,List.take_length,<- hl1,<- hres,<- hnn]
  simp only [List.append_assoc,bG])
 have hm:=hx.1
 simp only at hm
 have HL1:=aa hl1
 have HNL0:=aa (av n (by omega))
 have HLE:=aa (show l1.length<=800010 by rw [<- hl1,List.length_append];have:=HNL0.out;omega)
 have HNB:=aa (show n<18446744073709551616 by omega)
 have HM2:=aa (show n<=100 by omega)
 clear hx hnn hown hres hl1 hm HM
 have hn100:n<=100:=HM2.out
 go_enter Tryz.func122,Tryz.ntmps122
 go_wp2_with fail
 refine (aK [] (numB n) n w.heap.size none 0 0 _ rfl rfl HNB.out (Sees.empty _ _ _) (Nat.le_refl _) (by simp)).mono ?_
 rintro en w2 ⟨A2,c2,rfl,hown2,hb2⟩
 have HB2:=aa hb2
 have HO2:=aa hown2
 clear hb2 hown2
 go_wp2_with (first|(at_builtin;refine bE _ rfl _ _ 50 rfl base bT Tryz.underlying50 _ l (numB n) l1 HL1.out rfl (ao HO.out HB2.out) w2.heap.size A2 (numB n).length c2 rfl rfl (Sees.own HO2.out) ⟨by omega,by have:=HNL0.out;omega⟩ (by have:=HB2.out.size;omega) ?_;intro A3 c3 w3 hst;have HST:=aa (RowStep.fresh HB2.out hst);clear hst)|fail)
 go_loopw [0,15] (fun b i wr=>∃(k:Nat),k<=n/\i = .int .i64 k/\Hid (RowStep base v w b wr (l1++(f.take k).flatMap ndB))) (fun _ i _=>n - (intOf i).toNat)
 case atStart=>exact ⟨0,Nat.zero_le _,rfl,aa (show RowStep base v w _ _ (l1++(f.take 0).flatMap ndB) from by rw [List.take_zero,List.flatMap_nil,List.append_nil];exact HST.out)⟩
 case round =>
  obtain ⟨k,hk,rfl,HK⟩:=hrel
  have hzw:w.heap.size<=wr.heap.size:=HK.out.grow.size
  have hbw:Below B w wr:=HK.out.below HO.out hB (by omega)
  by_cases hlt:k<n
  ·obtain ⟨x,hx⟩:∃x,f[k]?=some x:=⟨_,List.getElem?_eq_getElem (by rw [HN.out];exact hlt)⟩
   obtain ⟨tb,ot,hAe,hab,e0⟩:=(HS.out.below hbw).u8 (k:=k) (by rw [HN.out];exact hlt)
   rw [(List.getElem?_eq_some_iff.1 hx).2] at e0
   have hwz:tb<wr.heap.size:=by omega
   subst hAe
   have HX:=aa (show l1++(f.take (k+1)).flatMap ndB=(l1++(f.take k).flatMap ndB)++ndB x by
    rw [dY hx]
    simp only [List.append_assoc])
   have HLN:=aa (show (l1++(f.take k).flatMap ndB).length<=802000 by
    have h1:=cG (f:=ndB) (q:=10) f (fun z _=>qk z) k
    have h2:=HLE.out
    have h3:=HM2.out
    rw [HN.out] at h1
    rw [List.length_append]
    omega)
   have HXL:=aa (qk x)
   have HY:=aa (show x.toNat<18446744073709551616 by have:=x.toNat_lt;omega)
   have h255:x.toNat<=255:=by have:=x.toNat_lt;omega
   obtain ⟨l2,hl2⟩:∃l2,l1++(f.take (k+1)).flatMap ndB=l2:=⟨_,rfl⟩
   rw [hl2] at HX
   have HL2:=aa hl2
   have HXB:=aa (show ndB x=numB x.toNat from rfl)
   clear hl2 hx hbw
   generalize l1++(f.take k).flatMap ndB=la at HX HLN HK
   generalize ndB x=xb at HX HXL HXB
   generalize x.toNat=y at HXB HY h255 e0
   go_wp2_with fail
   refine (aK [] xb y wr.heap.size none 0 0 _ rfl HXB.out.symm HY.out (Sees.empty _ _ _) (Nat.le_refl _) (by simp)).mono ?_
   rintro en w2 ⟨A2,c2,rfl,hown2,hb2⟩
   have HB2:=aa hb2
   have HO2:=aa hown2
   clear hb2 hown2
   go_wp2_with (at_builtin;refine bE _ rfl _ _ 50 rfl base bT Tryz.underlying50 _ la xb l2 HX.out.symm rfl (ao HK.out.own HB2.out) w2.heap.size A2 xb.length c2 rfl rfl (Sees.own HO2.out) ⟨by have:=HLN.out;omega,by have:=HXL.out;omega⟩ (by have:=HB2.out.size;omega) ?_;intro A3 c3 w3 hst;have HST:=aa (HK.out.trans (RowStep.fresh HB2.out hst));clear hst)
   go_roundw
   case rel=>exact ⟨k+1,by omega,by go_num,by rw [HL2.out];assumption⟩
   case measure=>simp [intOf];omega
  ·obtain rfl:k=n:=by omega
   have HK2:=aa (HR.out ▸ HK.out)
   clear HK
   obtain ⟨A3,c3,hA3⟩:=bg HK2.out.own
   subst hA3
   go_wp2
   go_ret
   exact ⟨_,_,rfl,HK2.out⟩

theorem zy (a b:Value) (w:World):(Instr.index 202 (.agg #[a,b]) (.int .i64 0)).run Tryz.prog w = .ok a w/\(Instr.index 202 (.agg #[a,b]) (.int .i64 1)).run Tryz.prog w = .ok b w:=by
 constructor <;> simp [Instr.index,run_underlying Tryz.underlying202,asIntOf,go_sem]

theorem qn (p r:List UInt8) (k cap:Nat) (A:Option Addr) (x:CfM) (B:Nat) (w:World) (hk:p.length=k) (hp:k<=10000) (hs:Sees w B A (bv p)) (hx:CfM.ok w B x) (hB:B<=w.heap.size) (hres:p++confB x.p=r) :
  Calls Tryz.prog 53 #[.slice A k cap,x.v] w (Puts w r):=by
 have hn1:x.o.l.length<=100:=hx.2.1.1
 have hn2:x.n.l.length<=100:=hx.2.2.1
 have hc:=hx.1
 have HCL:=aa (av x.C hc)
 have HNL:=aa (iI hn1)
 have HC:=aa hc
 have HS:=aa hs
 have HK:=aa hk
 have HXO:=aa hx.2.1
 have HXN:=aa hx.2.2
 obtain ⟨q1,hq1⟩:∃q,p++numB x.C=q:=⟨_,rfl⟩
 obtain ⟨q2,hq2⟩:∃q,q1++bG x.o.l=q:=⟨_,rfl⟩
 have HR:=aa (show q2++bG x.n.l=r from by rw [<- hq2,<- hq1,<- hres];simp [confB,CfM.p])
 have HQ1:=aa hq1
 have HQ2:=aa hq2
 have HL1:=aa (show q1.length<=10010 by rw [<- hq1,List.length_append];have:=HCL.out;omega)
 have HL2:=aa (show q2.length<=12000 by rw [<- hq2,List.length_append];have:=HL1.out;have:=HNL.out;omega)
 have HLI:=aa (fun u=>kf x.C x.o x.n u)
 clear hn1 hn2 hc hs hk hx hq1 hq2 hres
 obtain ⟨C,⟨xA,xc,xl⟩,⟨yA,yc,yl⟩⟩:=x
 simp only [CfM.v,cfV,NdM.v] at HLI HC HXO HXN HQ1 HQ2 HR HCL HNL ⊢
 have HW:=aa ((Below.refl w.heap.size w).alloc (Nat.le_refl _) (.cells #[.int .u64 C, .slice xA xl.length xc, .slice yA yl.length yc] 52))
 have HX:=aa (BoxAt.new w #[.int .u64 C, .slice xA xl.length xc, .slice yA yl.length yc] 52)
 go_enter Tryz.func53,Tryz.ntmps53
 go_wp2_with fail
 refine (aK p q1 C B A k cap _ HK.out HQ1.out HC.out (HS.out.below (HW.out.mono hB)) (by simp;omega) (by have:=HK.out;omega)).mono ?_
 rintro en w1 ⟨A1,c1,rfl,ho1,hb1⟩
 have HO1:=aa (az (base':=w.heap.size) ho1 (by simp))
 have HB1:=aa (HW.out.trans (hb1.mono HW.out.size))
 have HX1:=aa (HX.out.below hb1)
 have hcx:=HX1.out.cell
 have hz1:w.heap.size<w1.heap.size:=HX1.out.lt
 clear ho1 hb1 HX
 go_wp2_with fail
 refine (HLI.out _).mono ?_
 rintro en w2 ⟨rfl,hb2⟩
 have HO2:=aa (ao HO1.out hb2)
 have HB2:=aa (HB1.out.trans (hb2.mono HB1.out.size))
 clear hb2 hcx HX1
 have HI:=aa (fun u=>zy (.slice xA xl.length xc) (.slice yA yl.length yc) u)
 have hzw2:w.heap.size<=w2.heap.size:=HB2.out.size
 go_wp2
 go_loopw [0,13] (fun b i wr=>∃(k:Nat),k<=2/\i = .int .i64 k/\Hid (wr.ownsRow w.heap.size 5 1 b (if k=0 then q1 else if k=1 then q2 else r).length (bv (if k=0 then q1 else if k=1 then q2 else r)))/\Hid (Below w.heap.size w wr)) (fun _ i _=>2 - (intOf i).toNat)
 case atStart=>exact ⟨0,by omega,rfl,HO2,HB2⟩
 case round =>
  obtain ⟨k,hk,rfl,HO,HB⟩:=hrel
  have hzw:w.heap.size<=wr.heap.size:=HB.out.size
  have hk3:k=0∨k=1∨k=2:=by omega
  clear hk
  rcases hk3 with rfl|rfl|rfl
  ·have hix:=(HI.out wr).1
   have HO3:=aa (show wr.ownsRow w.heap.size 5 1 _ q1.length (bv q1) from HO.out)
   clear HO
   go_wp2_with fail
   refine (i7 q1 q2 ⟨xA,xc,xl⟩ _ rfl w.heap.size _ B wr HQ2.out (by have:=HL1.out;omega) (HXO.out.below (HB.out.mono hB)) hB HO3.out hzw).mono ?_
   rintro en w4 ⟨A4,c4,rfl,hst⟩
   have HST:=aa hst
   clear hst
   have HB4:=aa (HB.out.trans ((HST.out.below HO3.out (Nat.le_refl _) hzw)))
   go_wp2
   go_roundw
   case rel=>exact ⟨1,by omega,by go_num,aa HST.out.own,HB4⟩
   case measure=>simp [intOf]
  ·have hix:=(HI.out wr).2
   have HO3:=aa (show wr.ownsRow w.heap.size 5 1 _ q2.length (bv q2) from HO.out)
   clear HO
   go_wp2_with fail
   refine (i7 q2 r ⟨yA,yc,yl⟩ _ rfl w.heap.size _ B wr HR.out (by have:=HL2.out;omega) (HXN.out.below (HB.out.mono hB)) hB HO3.out hzw).mono ?_
   rintro en w4 ⟨A4,c4,rfl,hst⟩
   have HST:=aa hst
   clear hst
   have HB4:=aa (HB.out.trans ((HST.out.below HO3.out (Nat.le_refl _) hzw)))
   go_wp2
   go_roundw
   case rel=>exact ⟨2,by omega,by go_num,aa HST.out.own,HB4⟩
   case measure=>simp [intOf]
  ·have HO3:=aa (show wr.ownsRow w.heap.size 5 1 _ r.length (bv r) from HO.out)
   obtain ⟨A3,c3,hA3⟩:=bg HO3.out
   subst hA3
   go_wp2
   go_ret
   exact ⟨_,_,rfl,HO3.out,HB.out⟩
end Go.Proofs.YtnkjdijbfnmnhaaGreat
