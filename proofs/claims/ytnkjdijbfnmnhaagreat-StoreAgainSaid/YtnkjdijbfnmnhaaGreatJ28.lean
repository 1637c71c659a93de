/-
  Texts of this claim put together: CfS.
-/
import Derived.Test.YtnkjdijbfnmnhaaGreatJ27
import Derived.Test.YtnkjdijbfnmnhaaGreatJ17
import Derived.BigQuiet
import Derived.Deep.QuietTactic

namespace Go.Proofs.YtnkjdijbfnmnhaaGreat
set_option maxRecDepth 100000
set_option maxHeartbeats 12800000
open Go.RowKit

theorem vN (a b:List UInt8) (h:dV a=dV b):a=b:=by
 have:=congrArg ByteArray.toList h
 rwa [strOf_toList,strOf_toList] at this
theorem ze {x y:UInt8} (h:¬x=y):¬(x.toNat:Int)=(y.toNat:Int):=fun e=>h (UInt8.toNat_inj.1 (by omega))

theorem ls (l1 l2:List UInt8) (A1 A2:Option Addr) (n1 n2 c1 c2 B:Nat) (w:World) (hn1:l1.length=n1) (hn2:l2.length=n2) (hm:n1<=1000) (hm2:n2<=1000) (h1:Sees w B A1 (bv l1)) (h2:Sees w B A2 (bv l2)) (hB:B<=w.heap.size) :
  Calls Tryz.prog 200 #[.slice A1 n1 c1, .slice A2 n2 c2] w fun e w'=>e = .returned (.bool (decide (l1=l2)))/\Below w.heap.size w w':=by
 by_cases hne:n1=n2
 case neg =>
  have HD:=aa (show decide (l1=l2)=false by rw [decide_eq_false_iff_not];intro e;exact hne (by rw [<- hn1,<- hn2,e]))
  have hb:((n1:Int) != (n2:Int))=true:=by simpa using (show ¬(n1:Int)=n2 by omega)
  clear hn1 hn2 h1 h2 hne
  go_enter Tryz.func200,Tryz.ntmps200
  go_wp2
  go_ret
  exact ⟨ae HD.out.symm,Below.refl _ _⟩
 subst hne
 have hb:((n1:Int) != (n1:Int))=false:=by simp
 have HN1:=aa hn1
 have HN2:=aa hn2
 have HS1:=aa h1
 have HS2:=aa h2
 clear hn1 hn2 h1 h2
 go_enter Tryz.func200,Tryz.ntmps200
 go_wp2
 go_loopw [5,13] (fun _ i wr=>∃k:Nat,k<=n1/\i = .int .i64 k/\Hid (∀j,j<k->l1[j]?=l2[j]?)/\Hid (Below w.heap.size w wr)) (fun _ i _=>n1 - (intOf i).toNat)
 case atStart=>exact ⟨0,Nat.zero_le _,rfl,aa (fun j hj=>absurd hj (by omega)),aa (Below.refl _ _)⟩
 case round =>
  obtain ⟨k,hk,rfl,HJ,HBW⟩:=hrel
  have hzw:w.heap.size<=wr.heap.size:=HBW.out.size
  by_cases hlt:k<n1
  case neg =>
   have hkn:n1=k:=by omega
   subst hkn
   have HD:=aa (show decide (l1=l2)=true by
    rw [decide_eq_true_eq]
    refine List.ext_getElem? fun j => ?_
    by_cases h:j<n1
    ·exact HJ.out j h
    ·rw [List.getElem?_eq_none (by rw [HN1.out];omega),List.getElem?_eq_none (by rw [HN2.out];omega)])
   go_wp2
   go_ret
   exact ⟨ae HD.out.symm,HBW.out⟩
  have hk1:k<l1.length:=by rw [HN1.out];exact hlt
  have hk2:k<l2.length:=by rw [HN2.out];exact hlt
  obtain ⟨tb,ot,hAe,hab,e0⟩:=(HS1.out.below (HBW.out.mono hB)).u8 hk1
  obtain ⟨ub,uo,hAe2,hab2,g0⟩:=(HS2.out.below (HBW.out.mono hB)).u8 hk2
  have hwz:tb<wr.heap.size:=by omega
  have huz:ub<wr.heap.size:=by omega
  subst hAe hAe2
  obtain ⟨x,hx⟩:∃x,l1[k]=x:=⟨_,rfl⟩
  obtain ⟨y,hy⟩:∃y,l2[k]=y:=⟨_,rfl⟩
  rw [hx] at e0
  rw [hy] at g0
  have HX:=aa hx
  have HY:=aa hy
  have HQ3:=aa (fun (q:Nat)=>dN9 HBW.out q)
  clear hx hy hzw hab hab2
  by_cases hq:x=y
  case neg =>
   have HD:=aa (show decide (l1=l2)=false by
    rw [decide_eq_false_iff_not]
    rintro rfl
    exact hq (HX.out.symm.trans HY.out))
   have hq2:=ze hq
   have hd2:((x.toNat:Int) != (y.toNat:Int))=true:=bne_iff_ne.2 hq2
   clear hq hq2
   go_upto_region 6 with fail
   go_quiet (fail)
   go_wp2
   go_ret
   exact ⟨ae HD.out.symm,HQ3.out _⟩
  subst hq
  have HJ2:=aa (show ∀j,j<k+1->l1[j]?=l2[j]? from fun j hj=>by
   by_cases e:j=k
   ·subst e
    rw [List.getElem?_eq_getElem hk1,List.getElem?_eq_getElem hk2,HX.out,HY.out]
   ·exact HJ.out j (by omega))
  go_upto_region 6 with fail
  go_quiet (fail)
  go_wp2
  go_roundw
  case rel=>exact ⟨k+1,by omega,by go_num,HJ2,HQ3.out _⟩
  case measure=>simp [intOf];omega

structure CfM where
 C:Nat
 o:NdM
 n:NdM
def CfM.v (x:CfM):Value:=cfV x.C x.o x.n
def CfM.cs (x:CfM):List Value:=[.int .u64 x.C,x.o.v,x.n.v]
abbrev CfP:=Nat × List UInt8 × List UInt8
def CfM.p (x:CfM):CfP:=(x.C,x.o.l,x.n.l)
def CfM.ok (w:World) (B:Nat) (x:CfM):Prop:=x.C<18446744073709551616/\NdM.ok w B x.o/\NdM.ok w B x.n
theorem CfM.ok.below {w w':World} {B:Nat} {x:CfM} (h:CfM.ok w B x) (hb:Below B w w'):CfM.ok w' B x:=⟨h.1,h.2.1.below hb,h.2.2.below hb⟩
theorem CfM.ok.more {w:World} {B B':Nat} {x:CfM} (h:CfM.ok w B x) (hb:B<=B'):CfM.ok w B' x:=⟨h.1,h.2.1.more hb,h.2.2.more hb⟩
def zeroCf:CfM:=⟨0,⟨none,0,[]⟩,⟨none,0,[]⟩⟩
theorem gO (w:World) (B:Nat):CfM.ok w B zeroCf:=⟨by decide,⟨by simp [zeroCf],Sees.empty _ _ _⟩,⟨by simp [zeroCf],Sees.empty _ _ _⟩⟩
theorem Ak (a b:CfP):decide (a=b)=(decide (a.1=b.1) && (decide (a.2.1=b.2.1) && decide (a.2.2=b.2.2))):=by
 obtain ⟨a1,a2,a3⟩:=a
 obtain ⟨b1,b2,b3⟩:=b
 rw [Bool.eq_iff_iff]
 simp only [decide_eq_true_eq,Bool.and_eq_true,Prod.mk.injEq]

theorem s9 (x y:CfM) (B:Nat) (w:World) (hx:CfM.ok w B x) (hy:CfM.ok w B y) (hB:B<=w.heap.size) :
  Calls Tryz.prog 128 #[x.v,y.v] w fun e w'=>e = .returned (.bool (decide (x.p=y.p)))/\Below w.heap.size w w':=by
 obtain ⟨C,⟨oA,oc,ol⟩,⟨nA,nc,nl⟩⟩:=x
 obtain ⟨C2,⟨oA2,oc2,ol2⟩,⟨nA2,nc2,nl2⟩⟩:=y
 have HEO:=aa (fun (u:World) (hb:Below w.heap.size w u)=>ls ol ol2 oA oA2 ol.length ol2.length oc oc2 B u rfl rfl (Nat.le_trans hx.2.1.1 (by decide)) (Nat.le_trans hy.2.1.1 (by decide)) (hx.2.1.2.below (hb.mono hB)) (hy.2.1.2.below (hb.mono hB)) (Nat.le_trans hB hb.size))
 have HEN:=aa (fun (u:World) (hb:Below w.heap.size w u)=>ls nl nl2 nA nA2 nl.length nl2.length nc nc2 B u rfl rfl (Nat.le_trans hx.2.2.1 (by decide)) (Nat.le_trans hy.2.2.1 (by decide)) (hx.2.2.2.below (hb.mono hB)) (hy.2.2.2.below (hb.mono hB)) (Nat.le_trans hB hb.size))
 rw [show decide ((⟨C,⟨oA,oc,ol⟩,⟨nA,nc,nl⟩⟩:CfM).p=(⟨C2,⟨oA2,oc2,ol2⟩,⟨nA2,nc2,nl2⟩⟩:CfM).p)=(decide (C=C2) && (decide (ol=ol2) && decide (nl=nl2))) from Ak _ _]
 simp only [CfM.v,cfV,NdM.v]
 obtain ⟨q1,h1⟩:∃q,decide (ol=ol2)=q:=⟨_,rfl⟩
 obtain ⟨q2,h2⟩:∃q,decide (nl=nl2)=q:=⟨_,rfl⟩
 simp only [h1] at HEO ⊢
 simp only [h2] at HEN ⊢
 obtain ⟨n1,hn1⟩:∃n,ol.length=n:=⟨_,rfl⟩
 obtain ⟨n2,hn2⟩:∃n,nl.length=n:=⟨_,rfl⟩
 obtain ⟨n3,hn3⟩:∃n,ol2.length=n:=⟨_,rfl⟩
 obtain ⟨n4,hn4⟩:∃n,nl2.length=n:=⟨_,rfl⟩
 rw [hn1,hn3] at HEO
 rw [hn2,hn4] at HEN
 rw [hn1,hn2,hn3,hn4]
 clear h1 h2 hx hy hn1 hn2 hn3 hn4
 have HW:=aa (show Below w.heap.size w ((w.alloc (.cells #[.int .u64 C, .slice oA n1 oc, .slice nA n2 nc] 52)).alloc (.cells #[.int .u64 C2, .slice oA2 n3 oc2, .slice nA2 n4 nc2] 52)) from ((Below.refl _ _).alloc (Nat.le_refl _) _).alloc (by simp) _)
 by_cases hc:C=C2
 case neg =>
  have hd:((C:Int) == (C2:Int))=false:=beq_eq_false_iff_ne.2 (by omega)
  have HD:=aa (decide_eq_false hc)
  clear hc
  go_enter Tryz.func128,Tryz.ntmps128
  go_wp2
  go_ret
  exact ⟨by rw [HD.out];rfl,HW.out⟩
 subst hc
 have HX:=aa ((BoxAt.new w #[.int .u64 C, .slice oA n1 oc, .slice nA n2 nc] 52).alloc (.cells #[.int .u64 C, .slice oA2 n3 oc2, .slice nA2 n4 nc2] 52))
 have HY:=aa (BoxAt.new (w.alloc (.cells #[.int .u64 C, .slice oA n1 oc, .slice nA n2 nc] 52)) #[.int .u64 C, .slice oA2 n3 oc2, .slice nA2 n4 nc2] 52)
 obtain ⟨W,hW⟩:∃W,(w.alloc (.cells #[.int .u64 C, .slice oA n1 oc, .slice nA n2 nc] 52)).alloc (.cells #[.int .u64 C, .slice oA2 n3 oc2, .slice nA2 n4 nc2] 52)=W:=⟨_,rfl⟩
 rw [hW] at HW HX HY
 have HWE:=aa hW
 rw [show (w.alloc (.cells #[.int .u64 C, .slice oA n1 oc, .slice nA n2 nc] 52)).heap.size=w.heap.size+1 from by simp] at HY
 clear hW
 go_enter Tryz.func128,Tryz.ntmps128
 go_upto_region 1 with fail
 rw [HWE.out]
 have hcx:=HX.out.cell
 have hcy:=HY.out.cell
 have hz1:w.heap.size+1<W.heap.size:=HY.out.lt
 go_wp2_with fail
 refine (HEO.out _ HW.out).mono ?_
 rintro en w1 ⟨rfl,hb1⟩
 have HB1:=aa (HW.out.trans (hb1.mono HW.out.size))
 have HX1:=aa (HX.out.below hb1)
 have HY1:=aa (HY.out.below hb1)
 clear hb1 hcx hcy hz1
 have hcx:=HX1.out.cell
 have hcy:=HY1.out.cell
 have hz1:w.heap.size+1<w1.heap.size:=HY1.out.lt
 cases q1 with
 | false =>
  go_wp2
  go_ret
  exact ⟨by simp,HB1.out⟩
 | true =>
 go_wp2_with fail
 refine (HEN.out _ HB1.out).mono ?_
 rintro en w2 ⟨rfl,hb2⟩
 have HB2:=aa (HB1.out.trans (hb2.mono HB1.out.size))
 clear hb2 hcx hcy hz1
 go_wp2
 go_ret
 exact ⟨by simp,HB2.out⟩

theorem mD (x y:CfM) (B:Nat) (w:World) (hx:CfM.ok w B x) (hy:CfM.ok w B y) (hB:B<=w.heap.size) :
  Calls Tryz.prog 62 #[x.v,y.v] w fun e w'=>e = .returned (.bool (decide (x.p=y.p)))/\Below w.heap.size w w':=by
 obtain ⟨C,⟨oA,oc,ol⟩,⟨nA,nc,nl⟩⟩:=x
 obtain ⟨C2,⟨oA2,oc2,ol2⟩,⟨nA2,nc2,nl2⟩⟩:=y
 have HCV:=aa (fun (l:List UInt8) (A:Option Addr) (c:Nat) (h:Sees w B A (bv l)) (u:World) (hb:Below w.heap.size w u)=>pH (P:=Tryz.prog) u 50 9 5 Tryz.underlying50 Tryz.underlying5 Tryz.underlying9 l _ A l.length c rfl (h.below (hb.mono hB)))
 obtain ⟨W,hW⟩:∃W,(w.alloc (.cells #[.int .u64 C, .slice oA ol.length oc, .slice nA nl.length nc] 52)).alloc (.cells #[.int .u64 C2, .slice oA2 ol2.length oc2, .slice nA2 nl2.length nc2] 52)=W:=⟨_,rfl⟩
 have HW:=aa (show Below w.heap.size w W from hW ▸ ((Below.refl _ _).alloc (Nat.le_refl _) _).alloc (by simp) _)
 have HX:=aa (show BoxAt W w.heap.size #[.int .u64 C, .slice oA ol.length oc, .slice nA nl.length nc] 52 from hW ▸ (BoxAt.new w #[.int .u64 C, .slice oA ol.length oc, .slice nA nl.length nc] 52).alloc _)
 have HY:=aa (show BoxAt W (w.heap.size+1) #[.int .u64 C2, .slice oA2 ol2.length oc2, .slice nA2 nl2.length nc2] 52 from by
  have h:=BoxAt.new (w.alloc (.cells #[.int .u64 C, .slice oA ol.length oc, .slice nA nl.length nc] 52)) #[.int .u64 C2, .slice oA2 ol2.length oc2, .slice nA2 nl2.length nc2] 52
  rw [hW] at h
  simpa using h)
 have c1:=HCV.out ol oA oc hx.2.1.2 W HW.out
 have c2:=HCV.out ol2 oA2 oc2 hy.2.1.2 W HW.out
 have c3:=HCV.out nl nA nc hx.2.2.2 W HW.out
 have c4:=HCV.out nl2 nA2 nc2 hy.2.2.2 W HW.out
 rw [show decide ((⟨C,⟨oA,oc,ol⟩,⟨nA,nc,nl⟩⟩:CfM).p=(⟨C2,⟨oA2,oc2,ol2⟩,⟨nA2,nc2,nl2⟩⟩:CfM).p)=(decide (C=C2) && (decide (ol=ol2) && decide (nl=nl2))) from Ak _ _]
 simp only [CfM.v,cfV,NdM.v]
 have HO:=aa (fun h:dV ol=dV ol2=>vN _ _ h)
 have HN:=aa (fun h:dV nl=dV nl2=>vN _ _ h)
 obtain ⟨n1,hn1⟩:∃n,ol.length=n:=⟨_,rfl⟩
 obtain ⟨n2,hn2⟩:∃n,nl.length=n:=⟨_,rfl⟩
 obtain ⟨n3,hn3⟩:∃n,ol2.length=n:=⟨_,rfl⟩
 obtain ⟨n4,hn4⟩:∃n,nl2.length=n:=⟨_,rfl⟩
 have HWE:=aa hW
 rw [hn1,hn2,hn3,hn4] at HWE ⊢
 rw [hn1,hn2] at HX
 rw [hn3,hn4] at HY
 rw [hn1] at c1
 rw [hn3] at c2
 rw [hn2] at c3
 rw [hn4] at c4
 clear hx hy hn1 hn2 hn3 hn4 HCV hW
 have hcx:=HX.out.cell
 have hcy:=HY.out.cell
 have hz1:w.heap.size+1<W.heap.size:=HY.out.lt
 by_cases hc:C=C2
 case neg =>
  have hd:((C:Int) == (C2:Int))=false:=beq_eq_false_iff_ne.2 (by omega)
  have HD:=aa (decide_eq_false hc)
  clear hc c1 c2 c3 c4
  go_enter Tryz.func62,Tryz.ntmps62
  go_upto_region 1 with fail
  rw [HWE.out]
  go_wp2
  go_ret
  exact ⟨by rw [HD.out];rfl,HW.out⟩
 subst hc
 by_cases ho:ol=ol2
 case neg =>
  have hs:¬(dV ol).toList=(dV ol2).toList:=by rw [strOf_toList,strOf_toList];exact ho
  have HD:=aa (decide_eq_false ho)
  obtain ⟨s1,hs1⟩:∃s,dV ol=s:=⟨_,rfl⟩
  obtain ⟨s2,hs2⟩:∃s,dV ol2=s:=⟨_,rfl⟩
  rw [hs1] at c1 hs
  rw [hs2] at c2 hs
  have hd:decide (s1.toList=s2.toList)=false:=decide_eq_false hs
  clear ho c3 c4 hs1 hs2 HO HN
  go_enter Tryz.func62,Tryz.ntmps62
  go_upto_region 1 with fail
  rw [HWE.out]
  go_wp2
  go_ret
  exact ⟨by rw [HD.out];first|(simp;done)|simp [*],HW.out⟩
 subst ho
 by_cases ho:nl=nl2
 case neg =>
  have hs:¬(dV nl).toList=(dV nl2).toList:=by rw [strOf_toList,strOf_toList];exact ho
  have HD:=aa (decide_eq_false ho)
  obtain ⟨s0,hs0⟩:∃s,dV ol=s:=⟨_,rfl⟩
  obtain ⟨s1,hs1⟩:∃s,dV nl=s:=⟨_,rfl⟩
  obtain ⟨s2,hs2⟩:∃s,dV nl2=s:=⟨_,rfl⟩
  rw [hs0] at c1 c2
  rw [hs1] at c3 hs
  rw [hs2] at c4 hs
  have hd:decide (s1.toList=s2.toList)=false:=decide_eq_false hs
  clear ho hs0 hs1 hs2 HO HN
  go_enter Tryz.func62,Tryz.ntmps62
  go_upto_region 1 with fail
  rw [HWE.out]
  go_wp2
  go_ret
  exact ⟨by rw [HD.out];first|(simp;done)|simp [*],HW.out⟩
 subst ho
 obtain ⟨s0,hs0⟩:∃s,dV ol=s:=⟨_,rfl⟩
 obtain ⟨s1,hs1⟩:∃s,dV nl=s:=⟨_,rfl⟩
 rw [hs0] at c1 c2
 rw [hs1] at c3 c4
 clear hs0 hs1 HO HN
 go_enter Tryz.func62,Tryz.ntmps62
 go_upto_region 1 with fail
 rw [HWE.out]
 go_wp2
 go_ret
 exact ⟨by simp,HW.out⟩
end Go.Proofs.YtnkjdijbfnmnhaaGreat
