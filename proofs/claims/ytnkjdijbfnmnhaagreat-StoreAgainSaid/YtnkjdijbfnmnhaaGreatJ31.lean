/-
  Texts of this claim put together: RefSame6, RefMay6, RefMayG, RefLists, Tk6Rep, Tk6Don, Tk6Cel, Tk6Mrk, Tk6Reg, PutG, PutG2, PutReg, TkRu, TkTab, TkGet, GetReg, GetReg2, GetReg3, Open6, Law06.
-/
import Derived.Test.YtnkjdijbfnmnhaaGreatJ03
import Derived.Test.YtnkjdijbfnmnhaaGreatJ30
import Derived.BigQuiet
import Derived.IntWalk
import Derived.Deep.RegionHeld
import Derived.Deep.DeepCutAuto
import Derived.Test.YtnkjdijbfnmnhaaGreatJ20
import Derived.Test.YtnkjdijbfnmnhaaGreatJ29
import Derived.Test.YtnkjdijbfnmnhaaGreatJ19

namespace Go.Proofs.YtnkjdijbfnmnhaaGreat
set_option maxRecDepth 100000
set_option maxHeartbeats 12800000
open Go.RowKit

theorem jB {α:Type} {l1 l2:List α} {n:Nat} (h1:l1.length=n) (h2:l2.length=n) (h:∀j,j<n->l1[j]?=l2[j]?):l1=l2:=by
 refine List.ext_getElem? fun j => ?_
 by_cases hj:j<n
 ·exact h j hj
 ·rw [List.getElem?_eq_none (by omega),List.getElem?_eq_none (by omega)]
theorem fZ {G:Bool} {p q:Prop} (h:G=true->p) (hq:p->q) (hn:¬q):G=false:=by
 cases G with
 | false=>rfl
 | true=>exact absurd (hq (h rfl)) hn

theorem gc (x y:RepM) (B:Nat) (w:World) (hx:RepM.ok w B x) (hy:RepM.ok w B y) (hB:B<=w.heap.size) :
  Calls Tryz.prog 13 #[x.v,y.v] w fun e w'=>e = .returned (.bool (decide (x.p=y.p)))/\Below w.heap.size w w':=by
 obtain ⟨er,inc,st,⟨A,c,va⟩⟩:=x
 obtain ⟨er2,inc2,st2,⟨A2,c2,va2⟩⟩:=y
 have h1:=hx.2
 have h2:=hy.2
 obtain ⟨n,hn⟩:∃n,va.length=n:=⟨_,rfl⟩
 obtain ⟨n2,hn2⟩:∃n,va2.length=n:=⟨_,rfl⟩
 have hm:n<=9223372036854775807:=by have h3:=h1.1;have h4:=h1.2.1;unfold maxLen at h4;simp only at h3 h4;omega
 have hm2:n2<=9223372036854775807:=by have h3:=h2.1;have h4:=h2.2.1;unfold maxLen at h4;simp only at h3 h4;omega
 have HS1:=aa (fun (u:World) (hb:Below w.heap.size w u)=>(h1.2.2.1.below (hb.mono hB):Sees u B A (va.flatMap intC)))
 have HS2:=aa (fun (u:World) (hb:Below w.heap.size w u)=>(h2.2.2.1.below (hb.mono hB):Sees u B A2 (va2.flatMap intC)))
 obtain ⟨G,hG⟩:∃G,decide ((RepM.mk er inc st ⟨A,c,va⟩).p=(RepM.mk er2 inc2 st2 ⟨A2,c2,va2⟩).p)=G:=⟨_,rfl⟩
 have HN:=aa (show G=true->er=er2/\inc=inc2/\st=st2/\va=va2 from fun h=>by
  rw [h,decide_eq_true_eq] at hG
  simpa [RepM.p] using hG)
 have HY:=aa (show er=er2->inc=inc2->st=st2->va=va2->G=true from fun a b c d=>by
  rw [<- hG,decide_eq_true_eq]
  subst a b c d
  rfl)
 rw [hG]
 have HL1:=aa hn
 have HL2:=aa hn2
 simp only [RepM.v,Sl.v,hn,hn2]
 have HW:=aa (((Below.refl w.heap.size w).alloc (Nat.le_refl _) (.cells #[.int .i64 er, .int .u64 inc, .int .i64 st, .slice A n c] 38)).alloc (by simp) (.cells #[.int .i64 er2, .int .u64 inc2, .int .i64 st2, .slice A2 n2 c2] 38))
 have HX:=aa ((BoxAt.new w #[.int .i64 er, .int .u64 inc, .int .i64 st, .slice A n c] 38).alloc (.cells #[.int .i64 er2, .int .u64 inc2, .int .i64 st2, .slice A2 n2 c2] 38))
 have HYB:=aa (show BoxAt ((w.alloc (.cells #[.int .i64 er, .int .u64 inc, .int .i64 st, .slice A n c] 38)).alloc (.cells #[.int .i64 er2, .int .u64 inc2, .int .i64 st2, .slice A2 n2 c2] 38)) (w.heap.size+1) #[.int .i64 er2, .int .u64 inc2, .int .i64 st2, .slice A2 n2 c2] 38 by
  have:=BoxAt.new (w.alloc (.cells #[.int .i64 er, .int .u64 inc, .int .i64 st, .slice A n c] 38)) #[.int .i64 er2, .int .u64 inc2, .int .i64 st2, .slice A2 n2 c2] 38
  simpa using this)
 clear hx hy h1 h2 hn hn2 hG
 by_cases q1:er=er2
 case neg =>
  have HP:=aa (fZ HN.out (fun h=>h.1) q1)
  have hd:(er != er2)=true:=bne_iff_ne.2 q1
  clear q1
  go_enter Tryz.func13,Tryz.ntmps13
  go_wp2
  go_ret
  exact ⟨ae HP.out.symm,HW.out⟩
 subst q1
 by_cases q2:inc=inc2
 case neg =>
  have HP:=aa (fZ HN.out (fun h=>h.2.1) q2)
  have hd:(inc != inc2)=true:=bne_iff_ne.2 q2
  clear q2
  go_enter Tryz.func13,Tryz.ntmps13
  go_wp2
  go_ret
  exact ⟨ae HP.out.symm,HW.out⟩
 subst q2
 by_cases q3:st=st2
 case neg =>
  have HP:=aa (fZ HN.out (fun h=>h.2.2.1) q3)
  have hd:(st != st2)=true:=bne_iff_ne.2 q3
  clear q3
  go_enter Tryz.func13,Tryz.ntmps13
  go_wp2
  go_ret
  exact ⟨ae HP.out.symm,HW.out⟩
 subst q3
 by_cases q4:n=n2
 case neg =>
  have HP:=aa (fZ HN.out (fun h=>show n=n2 by rw [<- HL1.out,<- HL2.out,h.2.2.2]) q4)
  have hd:((n:Int) != (n2:Int))=true:=bne_iff_ne.2 (by omega)
  clear q4
  go_enter Tryz.func13,Tryz.ntmps13
  go_wp2
  go_ret
  exact ⟨ae HP.out.symm,HW.out⟩
 subst q4
 have HY2:=aa (HY.out rfl rfl rfl)
 go_enter Tryz.func13,Tryz.ntmps13
 go_wp2
 go_loopw [37] (fun i wr=>∃k:Nat,k<=n/\i = .int .i64 k/\Hid (∀j,j<k->va[j]?=va2[j]?)/\Below w.heap.size w wr/\Hid (BoxAt wr w.heap.size #[.int .i64 er, .int .u64 inc, .int .i64 st, .slice A n c] 38/\BoxAt wr (w.heap.size+1) #[.int .i64 er, .int .u64 inc, .int .i64 st, .slice A2 n c2] 38)) (fun i _=>n - (intOf i).toNat)
 case atStart=>exact ⟨0,Nat.zero_le _,rfl,(fun j hj=>absurd hj (by omega)),HW.out,HX.out,HYB.out⟩
 case round =>
  obtain ⟨k,hk,rfl,HJ,hb,HXR⟩:=hrel
  have hz:w.heap.size<wr.heap.size:=HXR.out.1.lt
  have hz2:w.heap.size+1<wr.heap.size:=HXR.out.2.lt
  have hcx:=HXR.out.1.cell
  have hcy:=HXR.out.2.cell
  have HB:=aa hb
  by_cases hlt:k<n
  case neg =>
   obtain rfl:k=n:=by omega
   have HP:=aa (HY2.out (jB HL1.out HL2.out HJ.out))
   clear hb
   go_wp2
   go_ret
   exact ⟨ae HP.out.symm,HB.out⟩
  obtain ⟨x,hx⟩:∃x,va[k]?=some x:=⟨_,List.getElem?_eq_getElem (by rw [HL1.out];exact hlt)⟩
  obtain ⟨y,hy⟩:∃y,va2[k]?=some y:=⟨_,List.getElem?_eq_getElem (by rw [HL2.out];exact hlt)⟩
  obtain ⟨tb,ot,hAe,hab,e0⟩:=(HS1.out _ hb).i64 hx
  obtain ⟨ub,uo,hAe2,hab2,g0⟩:=(HS2.out _ hb).i64 hy
  have hwz:tb<wr.heap.size:=by omega
  have huz:ub<wr.heap.size:=by omega
  subst hAe hAe2
  have HXX:=aa hx
  have HYY:=aa hy
  clear hx hy hb HS1 HS2
  by_cases hq:x=y
  case neg =>
   have HP:=aa (fZ HN.out (fun h=>show x=y by have h2:=HXX.out;rw [h.2.2.2,HYY.out] at h2;injection h2 with h2;exact h2.symm) hq)
   have hd2:(x != y)=true:=bne_iff_ne.2 hq
   have hd:(x == y)=false:=beq_eq_false_iff_ne.2 hq
   clear hq
   go_upto_region 6 with fail
   go_quiet (fail)
   go_wp2
   go_ret
   exact ⟨ae HP.out.symm,HB.out.trans ⟨rfl,rfl,rfl,Nat.le_refl _,fun _ _=>rfl⟩⟩
  subst hq
  have HJ2:=aa (show ∀j,j<k+1->va[j]?=va2[j]? from fun j hj=>by
   by_cases h:j=k
   ·rw [h,HXX.out,HYY.out]
   ·exact HJ.out j (by omega))
  go_upto_region 6 with fail
  go_quiet (fail)
  go_wp2
  go_roundw
  case rel=>exact ⟨k+1,by omega,by go_num,HJ2,HB.out.trans ⟨rfl,rfl,rfl,Nat.le_refl _,fun _ _=>rfl⟩,HXR.out.1,HXR.out.2⟩
  case measure=>simp [intOf];omega

theorem oB (x y:RegM) (B:Nat) (w:World) (hx:RegM.ok w B x) (hy:RegM.ok w B y) (hB:B<=w.heap.size) :
  Calls Tryz.prog 12 #[x.v,y.v] w fun e w'=>e = .returned (.bool (decide (x.p=y.p)))/\Below w.heap.size w w':=by
 have HW:=aa (show Below w.heap.size w ((w.alloc (.cells x.box 31)).alloc (.cells y.box 31)) from ((Below.refl _ _).alloc (Nat.le_refl _) _).alloc (by simp) _)
 have HX:=aa ((BoxAt.new w x.box 31).alloc (.cells y.box 31))
 have HY:=aa (show BoxAt ((w.alloc (.cells x.box 31)).alloc (.cells y.box 31)) (w.heap.size+1) y.box 31 by
  have:=BoxAt.new (w.alloc (.cells x.box 31)) y.box 31
  simpa using this)
 have HVA:=aa (fun (u:World) (hb:Below w.heap.size w u)=>gc ⟨0,0,0,x.va⟩ ⟨0,0,0,y.va⟩ B u ⟨by unfold I64 U64;simp,ints_stable.below hx.2.1 (hb.mono hB)⟩ ⟨by unfold I64 U64;simp,ints_stable.below hy.2.1 (hb.mono hB)⟩ (Nat.le_trans hB hb.size))
 have HD1:=aa (fun (u:World) (hb:Below w.heap.size w u)=>dns_stable.below hx.2.2.1 (hb.mono hB))
 have HD2:=aa (fun (u:World) (hb:Below w.heap.size w u)=>dns_stable.below hy.2.2.1 (hb.mono hB))
 have HO1:=aa (fun (u:World) (hb:Below w.heap.size w u)=>cels_stable.below hx.2.2.2.1 (hb.mono hB))
 have HO2:=aa (fun (u:World) (hb:Below w.heap.size w u)=>cels_stable.below hy.2.2.2.1 (hb.mono hB))
 have HM1:=aa (fun (u:World) (hb:Below w.heap.size w u)=>mrks_stable.below hx.2.2.2.2 (hb.mono hB))
 have HM2:=aa (fun (u:World) (hb:Below w.heap.size w u)=>mrks_stable.below hy.2.2.2.2 (hb.mono hB))
 have m1:=cw hx.2.2.1
 have m2:=cw hy.2.2.1
 have m3:=cw hx.2.2.2.1
 have m4:=cw hy.2.2.2.1
 have m5:=cw hx.2.2.2.2
 have m6:=cw hy.2.2.2.2
 clear hx hy
 obtain ⟨ki,inc,st,⟨vA,vc,vl⟩,⟨dA,dc,dl⟩,⟨oA,oc,ol⟩,la,⟨mA,mc,ml⟩⟩:=x
 obtain ⟨ki2,inc2,st2,⟨vA2,vc2,vl2⟩,⟨dA2,dc2,dl2⟩,⟨oA2,oc2,ol2⟩,la2,⟨mA2,mc2,ml2⟩⟩:=y
 obtain ⟨G,hG⟩:∃G,decide ((RegM.mk ki inc st ⟨vA,vc,vl⟩ ⟨dA,dc,dl⟩ ⟨oA,oc,ol⟩ la ⟨mA,mc,ml⟩).p=(RegM.mk ki2 inc2 st2 ⟨vA2,vc2,vl2⟩ ⟨dA2,dc2,dl2⟩ ⟨oA2,oc2,ol2⟩ la2 ⟨mA2,mc2,ml2⟩).p)=G:=⟨_,rfl⟩
 have HN:=aa (show G=true->ki=ki2/\inc=inc2/\st=st2/\vl=vl2/\dl.map DoneM.p=dl2.map DoneM.p/\ol=ol2/\la=la2/\ml=ml2 from fun h=>by
  rw [h,decide_eq_true_eq] at hG
  simpa only [RegM.p,RegP.mk.injEq] using hG)
 have HYE:=aa (show ki=ki2->inc=inc2->st=st2->vl=vl2->dl.map DoneM.p=dl2.map DoneM.p->ol=ol2->la=la2->ml=ml2->G=true from fun a b c d e f g h=>by
  rw [<- hG,decide_eq_true_eq]
  simp only [RegM.p,RegP.mk.injEq]
  exact ⟨a,b,c,d,e,f,g,h⟩)
 rw [hG]
 obtain ⟨qv,hqv⟩:∃q,decide (vl=vl2)=q:=⟨_,rfl⟩
 have HQV:=aa hqv
 have hqv2:decide ((RepM.mk 0 0 0 ⟨vA,vc,vl⟩).p=(RepM.mk 0 0 0 ⟨vA2,vc2,vl2⟩).p)=qv:=by rw [<- hqv];simp [RepM.p]
 simp only [hqv2] at HVA
 obtain ⟨nv,hnv⟩:∃n,vl.length=n:=⟨_,rfl⟩
 obtain ⟨nd,hnd⟩:∃n,dl.length=n:=⟨_,rfl⟩
 obtain ⟨no,hno⟩:∃n,ol.length=n:=⟨_,rfl⟩
 obtain ⟨nm,hnm⟩:∃n,ml.length=n:=⟨_,rfl⟩
 obtain ⟨nv2,hnv2⟩:∃n,vl2.length=n:=⟨_,rfl⟩
 obtain ⟨nd2,hnd2⟩:∃n,dl2.length=n:=⟨_,rfl⟩
 obtain ⟨no2,hno2⟩:∃n,ol2.length=n:=⟨_,rfl⟩
 obtain ⟨nm2,hnm2⟩:∃n,ml2.length=n:=⟨_,rfl⟩
 simp only [RegM.v,RegM.box,RepM.v,Sl.v,hnv,hnd,hno,hnm,hnv2,hnd2,hno2,hnm2] at HX HY HW HVA m1 m2 m3 m4 m5 m6 ⊢
 have HND:=aa hnd
 have HNO:=aa hno
 have HNM:=aa hnm
 have HND2:=aa hnd2
 have HNO2:=aa hno2
 have HNM2:=aa hnm2
 clear hG hqv hqv2 hnv hnd hno hnm hnv2 hnd2 hno2 hnm2
 by_cases q1:ki=ki2
 case neg =>
  have HP:=aa (fZ HN.out (fun h=>h.1) q1)
  have hd:(ki != ki2)=true:=bne_iff_ne.2 q1
  clear q1
  go_enter Tryz.func12,Tryz.ntmps12
  go_wp2
  go_ret
  exact ⟨ae HP.out.symm,HW.out⟩
 subst q1
 by_cases q2:inc=inc2
 case neg =>
  have HP:=aa (fZ HN.out (fun h=>h.2.1) q2)
  have hd:(inc != inc2)=true:=bne_iff_ne.2 q2
  clear q2
  go_enter Tryz.func12,Tryz.ntmps12
  go_wp2
  go_ret
  exact ⟨ae HP.out.symm,HW.out⟩
 subst q2
 by_cases q3:st=st2
 case neg =>
  have HP:=aa (fZ HN.out (fun h=>h.2.2.1) q3)
  have hd:(st != st2)=true:=bne_iff_ne.2 q3
  clear q3
  go_enter Tryz.func12,Tryz.ntmps12
  go_wp2
  go_ret
  exact ⟨ae HP.out.symm,HW.out⟩
 subst q3
 by_cases q4:la=la2
 case neg =>
  have HP:=aa (fZ HN.out (fun h=>h.2.2.2.2.2.2.1) q4)
  have hd:(la != la2)=true:=bne_iff_ne.2 q4
  clear q4
  go_enter Tryz.func12,Tryz.ntmps12
  go_wp2
  go_ret
  exact ⟨ae HP.out.symm,HW.out⟩
 subst q4
 by_cases q5:nd=nd2
 case neg =>
  have HP:=aa (fZ HN.out (fun h=>show nd=nd2 from by have h2:=congrArg List.length h.2.2.2.2.1;rw [List.length_map,List.length_map,HND.out,HND2.out] at h2;exact h2) q5)
  have hd:((nd:Int) != (nd2:Int))=true:=bne_iff_ne.2 (by omega)
  clear q5
  go_enter Tryz.func12,Tryz.ntmps12
  go_wp2
  go_ret
  exact ⟨ae HP.out.symm,HW.out⟩
 subst q5
 by_cases q6:no=no2
 case neg =>
  have HP:=aa (fZ HN.out (fun h=>show no=no2 from by rw [<- HNO.out,<- HNO2.out,h.2.2.2.2.2.1]) q6)
  have hd:((no:Int) != (no2:Int))=true:=bne_iff_ne.2 (by omega)
  clear q6
  go_enter Tryz.func12,Tryz.ntmps12
  go_wp2
  go_ret
  exact ⟨ae HP.out.symm,HW.out⟩
 subst q6
 by_cases q7:nm=nm2
 case neg =>
  have HP:=aa (fZ HN.out (fun h=>show nm=nm2 from by rw [<- HNM.out,<- HNM2.out,h.2.2.2.2.2.2.2]) q7)
  have hd:((nm:Int) != (nm2:Int))=true:=bne_iff_ne.2 (by omega)
  clear q7
  go_enter Tryz.func12,Tryz.ntmps12
  go_wp2
  go_ret
  exact ⟨ae HP.out.symm,HW.out⟩
 subst q7
 have HY2:=aa (fun a b c d=>HYE.out rfl rfl rfl a b c rfl d)
 go_enter Tryz.func12,Tryz.ntmps12
 go_wp2_with fail
 refine (HVA.out _ HW.out).mono ?_
 rintro en w1 ⟨rfl,hb1⟩
 have HB1:=aa (HW.out.trans (hb1.mono HW.out.size))
 have HX1:=aa (HX.out.below hb1)
 have HYB:=aa (HY.out.below hb1)
 clear hb1 HVA HX HY
 have hz1:w.heap.size<w1.heap.size:=HX1.out.lt
 have hy1:w.heap.size+1<w1.heap.size:=HYB.out.lt
 have hcx:=HX1.out.cell
 have hcy:=HYB.out.cell
 cases qv with
 | false =>
  have HP:=aa (fZ HN.out (fun h=>h.2.2.2.1) (of_decide_eq_false HQV.out))
  go_wp2
  go_ret
  exact ⟨ae HP.out.symm,HB1.out⟩
 | true =>
 have HVL:=aa (of_decide_eq_true HQV.out)
 go_wp2
 clear hcx hcy
 go_loopw [74] (fun i wr=>∃k:Nat,k<=nd/\i = .int .i64 k/\Hid (∀j,j<k->(dl.map DoneM.p)[j]?=(dl2.map DoneM.p)[j]?)/\Below w.heap.size w wr/\Hid (BoxAt wr w.heap.size #[.int .u8 ki, .int .u64 inc, .int .i64 st, .slice vA nv vc, .slice dA nd dc, .slice oA no oc, .int .u64 la, .slice mA nm mc] 31/\BoxAt wr (w.heap.size+1) #[.int .u8 ki, .int .u64 inc, .int .i64 st, .slice vA2 nv2 vc2, .slice dA2 nd dc2, .slice oA2 no oc2, .int .u64 la, .slice mA2 nm mc2] 31)) (fun i _=>nd - (intOf i).toNat)
 case atStart=>exact ⟨0,Nat.zero_le _,rfl,(fun j hj=>absurd hj (by omega)),HB1.out,HX1.out,HYB.out⟩
 case round =>
  obtain ⟨k,hk,rfl,HJ,hb,HXR⟩:=hrel
  have hz:w.heap.size<wr.heap.size:=HXR.out.1.lt
  have hz2:w.heap.size+1<wr.heap.size:=HXR.out.2.lt
  have hcx:=HXR.out.1.cell
  have hcy:=HXR.out.2.cell
  have HB:=aa hb
  by_cases hlt:k<nd
  case pos =>
   obtain ⟨x,hx⟩:∃x,dl[k]?=some x:=⟨_,List.getElem?_eq_getElem (by rw [HND.out];exact hlt)⟩
   obtain ⟨y,hy⟩:∃y,dl2[k]?=some y:=⟨_,List.getElem?_eq_getElem (by rw [HND2.out];exact hlt)⟩
   obtain ⟨tb,ot,hAe,hab,e0,e1,e2,e3,e4,e5⟩:=(HD1.out _ hb).2.2.1.done hx
   obtain ⟨ub,uo,hAe2,hab2,g0,g1,g2,g3,g4,g5⟩:=(HD2.out _ hb).2.2.1.done hy
   have hwz:tb<wr.heap.size:=by have:=hb.size;omega
   have huz:ub<wr.heap.size:=by have:=hb.size;omega
   subst hAe hAe2
   have HSR:=aa (fun (u:World) (hu:Below wr.heap.size wr u)=>gc ⟨x.er,x.inc,x.st,x.va⟩ ⟨y.er,y.inc,y.st,y.va⟩ B u ⟨((HD1.out _ hb).2.2.2 x (List.mem_of_getElem? hx)).1.2.2,ints_stable.below ((HD1.out _ hb).2.2.2 x (List.mem_of_getElem? hx)).2 (hu.mono (Nat.le_trans hB hb.size))⟩ ⟨((HD2.out _ hb).2.2.2 y (List.mem_of_getElem? hy)).1.2.2,ints_stable.below ((HD2.out _ hb).2.2.2 y (List.mem_of_getElem? hy)).2 (hu.mono (Nat.le_trans hB hb.size))⟩ (Nat.le_trans hB (Nat.le_trans hb.size hu.size)))
   have HXX:=aa (show (dl.map DoneM.p)[k]?=some x.p by rw [List.getElem?_map,hx];rfl)
   have HYY:=aa (show (dl2.map DoneM.p)[k]?=some y.p by rw [List.getElem?_map,hy];rfl)
   obtain ⟨rx,hrx⟩:∃b,decide (x.p=y.p)=b:=⟨_,rfl⟩
   have HRX:=aa hrx
   have HAT:=aa (show decide (x.p=y.p)=(decide (x.cl=y.cl) && (decide (x.sq=y.sq) && decide ((RepM.mk x.er x.inc x.st x.va).p=(RepM.mk y.er y.inc y.st y.va).p))) by
    rw [Bool.eq_iff_iff]
    simp only [Bool.and_eq_true,decide_eq_true_eq,DoneM.p,RepM.p,Prod.mk.injEq])
   rw [hrx] at HAT
   obtain ⟨q,hq⟩:∃b,decide ((RepM.mk x.er x.inc x.st x.va).p=(RepM.mk y.er y.inc y.st y.va).p)=b:=⟨_,rfl⟩
   rw [hq] at HAT
   simp only [hq] at HSR
   have HEQ:=aa (show rx=true->(dl.map DoneM.p)[k]?=(dl2.map DoneM.p)[k]? from fun h=>by rw [HXX.out,HYY.out,of_decide_eq_true (HRX.out.trans h)])
   have HNE:=aa (show rx=false->G=false from fun h=>fZ HN.out (fun h=>show x.p=y.p by have h2:=HXX.out;rw [h.2.2.2.2.1,HYY.out] at h2;injection h2 with h2;exact h2.symm) (of_decide_eq_false (HRX.out.trans h)))
   clear hx hy hb hq hrx
   obtain ⟨cl,sq,er,in3,st3,⟨A,c,va⟩⟩:=x
   obtain ⟨cl2,sq2,er2,in4,st4,⟨A2,c2,va2⟩⟩:=y
   simp only at e0 e1 e2 e3 e4 e5 g0 g1 g2 g3 g4 g5 HAT HSR
   simp only [RepM.v,Sl.v] at HSR
   have HB0:=aa (show Below wr.heap.size wr wr.drew from (Below.refl _ _).drew)
   have HSX:=aa (fun (w':World) (hu:Below wr.heap.size wr w')=>show (∀i:Nat,w'.cell? ⟨w.heap.size,i,none⟩=(#[.int .u8 ki, .int .u64 inc, .int .i64 st, .slice vA nv vc, .slice (some ⟨tb,ot,none⟩) nd dc, .slice oA no oc, .int .u64 la, .slice mA nm mc] : Array Value)[i]?)/\(∀i:Nat,w'.cell? ⟨w.heap.size+1,i,none⟩=(#[.int .u8 ki, .int .u64 inc, .int .i64 st, .slice vA2 nv2 vc2, .slice (some ⟨ub,uo,none⟩) nd dc2, .slice oA2 no oc2, .int .u64 la, .slice mA2 nm mc2] : Array Value)[i]?)/\w'.cell? ⟨tb,ot+k * 6,none⟩=some (.int .u8 cl)/\w'.cell? ⟨tb,ot+k * 6+1,none⟩=some (.int .u64 sq)/\w'.cell? ⟨tb,ot+k * 6+2,none⟩=some (.int .i64 er)/\w'.cell? ⟨tb,ot+k * 6+3,none⟩=some (.int .u64 in3)/\w'.cell? ⟨tb,ot+k * 6+4,none⟩=some (.int .i64 st3)/\w'.cell? ⟨tb,ot+k * 6+5,none⟩=some (.slice A va.length c)/\w'.cell? ⟨ub,uo+k * 6,none⟩=some (.int .u8 cl2)/\w'.cell? ⟨ub,uo+k * 6+1,none⟩=some (.int .u64 sq2)/\w'.cell? ⟨ub,uo+k * 6+2,none⟩=some (.int .i64 er2)/\w'.cell? ⟨ub,uo+k * 6+3,none⟩=some (.int .u64 in4)/\w'.cell? ⟨ub,uo+k * 6+4,none⟩=some (.int .i64 st4)/\w'.cell? ⟨ub,uo+k * 6+5,none⟩=some (.slice A2 va2.length c2) from ⟨(HXR.out.1.below hu).cell,(HXR.out.2.below hu).cell,(hu.cell (p:=⟨tb,ot+k * 6,none⟩) hwz).trans e0,(hu.cell (p:=⟨tb,ot+k * 6+1,none⟩) hwz).trans e1,(hu.cell (p:=⟨tb,ot+k * 6+2,none⟩) hwz).trans e2,(hu.cell (p:=⟨tb,ot+k * 6+3,none⟩) hwz).trans e3,(hu.cell (p:=⟨tb,ot+k * 6+4,none⟩) hwz).trans e4,(hu.cell (p:=⟨tb,ot+k * 6+5,none⟩) hwz).trans e5,(hu.cell (p:=⟨ub,uo+k * 6,none⟩) huz).trans g0,(hu.cell (p:=⟨ub,uo+k * 6+1,none⟩) huz).trans g1,(hu.cell (p:=⟨ub,uo+k * 6+2,none⟩) huz).trans g2,(hu.cell (p:=⟨ub,uo+k * 6+3,none⟩) huz).trans g3,(hu.cell (p:=⟨ub,uo+k * 6+4,none⟩) huz).trans g4,(hu.cell (p:=⟨ub,uo+k * 6+5,none⟩) huz).trans g5⟩)
   go_upto_region 6 with fail
   go_cut [120] (fun c wx=>c = .bool (!rx)/\Below w.heap.size w wx/\Hid (BoxAt wx w.heap.size #[.int .u8 ki, .int .u64 inc, .int .i64 st, .slice vA nv vc, .slice (some ⟨tb,ot,none⟩) nd dc, .slice oA no oc, .int .u64 la, .slice mA nm mc] 31/\BoxAt wx (w.heap.size+1) #[.int .u8 ki, .int .u64 inc, .int .i64 st, .slice vA2 nv2 vc2, .slice (some ⟨ub,uo,none⟩) nd dc2, .slice oA2 no oc2, .int .u64 la, .slice mA2 nm mc2] 31))
   case first =>
    clear e0 e1 e2 e3 e4 e5 g0 g1 g2 g3 g4 g5
    by_cases q1:cl=cl2
    case neg =>
     have HP:=aa (show (!rx)=true by rw [HAT.out];simp [q1])
     have hd:(cl != cl2)=true:=bne_iff_ne.2 q1
     clear q1
     refine wp_region_held_drew (S:=fun w'=>(∀i:Nat,w'.cell? ⟨w.heap.size,i,none⟩=(#[.int .u8 ki, .int .u64 inc, .int .i64 st, .slice vA nv vc, .slice (some ⟨tb,ot,none⟩) nd dc, .slice oA no oc, .int .u64 la, .slice mA nm mc] : Array Value)[i]?)/\(∀i:Nat,w'.cell? ⟨w.heap.size+1,i,none⟩=(#[.int .u8 ki, .int .u64 inc, .int .i64 st, .slice vA2 nv2 vc2, .slice (some ⟨ub,uo,none⟩) nd dc2, .slice oA2 no oc2, .int .u64 la, .slice mA2 nm mc2] : Array Value)[i]?)/\w'.cell? ⟨tb,ot+k * 6,none⟩=some (.int .u8 cl)/\w'.cell? ⟨tb,ot+k * 6+1,none⟩=some (.int .u64 sq)/\w'.cell? ⟨tb,ot+k * 6+2,none⟩=some (.int .i64 er)/\w'.cell? ⟨tb,ot+k * 6+3,none⟩=some (.int .u64 in3)/\w'.cell? ⟨tb,ot+k * 6+4,none⟩=some (.int .i64 st3)/\w'.cell? ⟨tb,ot+k * 6+5,none⟩=some (.slice A va.length c)/\w'.cell? ⟨ub,uo+k * 6,none⟩=some (.int .u8 cl2)/\w'.cell? ⟨ub,uo+k * 6+1,none⟩=some (.int .u64 sq2)/\w'.cell? ⟨ub,uo+k * 6+2,none⟩=some (.int .i64 er2)/\w'.cell? ⟨ub,uo+k * 6+3,none⟩=some (.int .u64 in4)/\w'.cell? ⟨ub,uo+k * 6+4,none⟩=some (.int .i64 st4)/\w'.cell? ⟨ub,uo+k * 6+5,none⟩=some (.slice A2 va2.length c2)) (by kernel_rfl) (HSX.out _ HB0.out) (fun hHeld => ?_)
     refine tkY 0 77 ?v1 rfl ?hy1 (by assumption) ?rest1
     case hy1=>intro w hSw;(try dsimp only at hSw);go_simp <;> with_reducible rfl
     simp only [Act.put,sTI,sT0,sT1]
     refine tkY 1 78 ?v2 rfl ?hy2 (by assumption) ?rest2
     case hy2=>intro w hSw;(try dsimp only at hSw);go_simp <;> with_reducible rfl
     simp only [Act.put,sTI,sT0,sT1]
     refine tkY 2 79 ?v3 rfl ?hy3 (by assumption) ?rest3
     case hy3=>intro w hSw;(try dsimp only at hSw);go_simp <;> with_reducible rfl
     simp only [Act.put,sTI,sT0,sT1]
     refine tkY 3 80 ?v4 rfl ?hy4 (by assumption) ?rest4
     case hy4=>intro w hSw;(try dsimp only at hSw);go_simp <;> with_reducible rfl
     simp only [Act.put,sTI,sT0,sT1]
     refine tkY 4 81 ?v5 rfl ?hy5 (by assumption) ?rest5
     case hy5=>intro w hSw;(try dsimp only at hSw);go_simp <;> with_reducible rfl
     simp only [Act.put,sTI,sT0,sT1]
     refine tkY 5 82 ?v6 rfl ?hy6 (by assumption) ?rest6
     case hy6=>intro w hSw;(try dsimp only at hSw);go_simp <;> with_reducible rfl
     simp only [Act.put,sTI,sT0,sT1]
     refine tkY 6 83 ?v7 rfl ?hy7 (by assumption) ?rest7
     case hy7=>intro w hSw;(try dsimp only at hSw);go_simp <;> with_reducible rfl
     simp only [Act.put,sTI,sT0,sT1]
     refine tkY 7 84 ?v8 rfl ?hy8 (by assumption) ?rest8
     case hy8=>intro w hSw;(try dsimp only at hSw);go_simp <;> with_reducible rfl
     simp only [Act.put,sTI,sT0,sT1]
     refine tkY 8 85 ?v9 rfl ?hy9 (by assumption) ?rest9
     case hy9=>intro w hSw;(try dsimp only at hSw);go_simp <;> with_reducible rfl
     simp only [Act.put,sTI,sT0,sT1]
     refine tkY 9 86 ?v10 rfl ?hy10 (by assumption) ?rest10
     case hy10=>intro w hSw;(try dsimp only at hSw);go_simp <;> with_reducible rfl
     simp only [Act.put,sTI,sT0,sT1]
     refine tkY 10 87 ?v11 rfl ?hy11 (by assumption) ?rest11
     case hy11=>intro w hSw;(try dsimp only at hSw);go_simp <;> with_reducible rfl
     simp only [Act.put,sTI,sT0,sT1]
     refine tkY 11 88 ?v12 rfl ?hy12 (by assumption) ?rest12
     case hy12=>intro w hSw;(try dsimp only at hSw);go_simp <;> with_reducible rfl
     simp only [Act.put,sTI,sT0,sT1]
     refine tkY 12 89 ?v13 rfl ?hy13 (by assumption) ?rest13
     case hy13=>intro w hSw;(try dsimp only at hSw);go_simp <;> with_reducible rfl
     simp only [Act.put,sTI,sT0,sT1]
     refine tkY 13 90 ?v14 rfl ?hy14 (by assumption) ?rest14
     case hy14=>intro w hSw;(try dsimp only at hSw);go_simp <;> with_reducible rfl
     simp only [Act.put,sTI,sT0,sT1]
     refine tkU 14 91 rfl (by assumption) ?_
     simp only [Act.put,sTI,sT0,sT1]
     refine tkU 15 92 rfl (by assumption) ?_
     simp only [Act.put,sTI,sT0,sT1]
     refine tkU 16 93 rfl (by assumption) ?_
     simp only [Act.put,sTI,sT0,sT1]
     refine tkU 17 94 rfl (by assumption) ?_
     simp only [Act.put,sTI,sT0,sT1]
     refine tkU 18 95 rfl (by assumption) ?_
     simp only [Act.put,sTI,sT0,sT1]
     refine tkU 19 96 rfl (by assumption) ?_
     simp only [Act.put,sTI,sT0,sT1]
     refine tkU 20 97 rfl (by assumption) ?_
     simp only [Act.put,sTI,sT0,sT1]
     refine tkU 21 98 rfl (by assumption) ?_
     simp only [Act.put,sTI,sT0,sT1]
     refine tkU 22 99 rfl (by assumption) ?_
     simp only [Act.put,sTI,sT0,sT1]
     refine tkU 23 100 rfl (by assumption) ?_
     simp only [Act.put,sTI,sT0,sT1]
     refine tkU 24 101 rfl (by assumption) ?_
     simp only [Act.put,sTI,sT0,sT1]
     refine tkU 25 102 rfl (by assumption) ?_
     simp only [Act.put,sTI,sT0,sT1]
     refine tkU 26 103 rfl (by assumption) ?_
     simp only [Act.put,sTI,sT0,sT1]
     refine tkY 27 104 ?v15 rfl ?hy15 (by assumption) ?rest15
     case hy15=>intro w hSw;(try dsimp only at hSw);go_simp <;> with_reducible rfl
     simp only [Act.put,sTI,sT0,sT1]
     refine tkY 28 105 ?v16 rfl ?hy16 (by assumption) ?rest16
     case hy16=>intro w hSw;(try dsimp only at hSw);go_simp <;> with_reducible rfl
     simp only [Act.put,sTI,sT0,sT1]
     refine tkU 29 106 rfl (by assumption) ?_
     simp only [Act.put,sTI,sT0,sT1]
     refine tkU 30 107 rfl (by assumption) ?_
     simp only [Act.put,sTI,sT0,sT1]
     refine tkU 31 108 rfl (by assumption) ?_
     simp only [Act.put,sTI,sT0,sT1]
     refine tkU 32 109 rfl (by assumption) ?_
     simp only [Act.put,sTI,sT0,sT1]
     refine tkU 33 110 rfl (by assumption) ?_
     simp only [Act.put,sTI,sT0,sT1]
     refine tkU 34 111 rfl (by assumption) ?_
     simp only [Act.put,sTI,sT0,sT1]
     refine tkU 35 112 rfl (by assumption) ?_
     simp only [Act.put,sTI,sT0,sT1]
     refine tkU 36 113 rfl (by assumption) ?_
     simp only [Act.put,sTI,sT0,sT1]
     refine tkU 37 114 rfl (by assumption) ?_
     simp only [Act.put,sTI,sT0,sT1]
     refine tkU 38 115 rfl (by assumption) ?_
     simp only [Act.put,sTI,sT0,sT1]
     refine tkU 39 116 rfl (by assumption) ?_
     simp only [Act.put,sTI,sT0,sT1]
     refine tkU 40 117 rfl (by assumption) ?_
     simp only [Act.put,sTI,sT0,sT1]
     refine tkU 41 118 rfl (by assumption) ?_
     simp only [Act.put,sTI,sT0,sT1]
     refine tkU 42 119 rfl (by assumption) ?_
     simp only [Act.put,sTI,sT0,sT1]
     refine tkY 43 120 ?v17 rfl ?hy17 (by assumption) ?rest17
     case hy17=>intro w hSw;(try dsimp only at hSw);go_simp <;> with_reducible rfl
     simp only [Act.put,sTI,sT0,sT1]
     refine wpAnyH_done (by kernel_rfl) ?_ _
     go_wp2_with fail
     go_meet
     exact ⟨congrArg Value.bool HP.out.symm,HB.out.trans (HB0.out.mono HB.out.size),HXR.out.1.below HB0.out,HXR.out.2.below HB0.out⟩
    subst q1
    by_cases q2:sq=sq2
    case neg =>
     have HP:=aa (show (!rx)=true by rw [HAT.out];simp [q2])
     have hd:(sq != sq2)=true:=bne_iff_ne.2 q2
     clear q2
     refine wp_region_held_drew (S:=fun w'=>(∀i:Nat,w'.cell? ⟨w.heap.size,i,none⟩=(#[.int .u8 ki, .int .u64 inc, .int .i64 st, .slice vA nv vc, .slice (some ⟨tb,ot,none⟩) nd dc, .slice oA no oc, .int .u64 la, .slice mA nm mc] : Array Value)[i]?)/\(∀i:Nat,w'.cell? ⟨w.heap.size+1,i,none⟩=(#[.int .u8 ki, .int .u64 inc, .int .i64 st, .slice vA2 nv2 vc2, .slice (some ⟨ub,uo,none⟩) nd dc2, .slice oA2 no oc2, .int .u64 la, .slice mA2 nm mc2] : Array Value)[i]?)/\w'.cell? ⟨tb,ot+k * 6,none⟩=some (.int .u8 cl)/\w'.cell? ⟨tb,ot+k * 6+1,none⟩=some (.int .u64 sq)/\w'.cell? ⟨tb,ot+k * 6+2,none⟩=some (.int .i64 er)/\w'.cell? ⟨tb,ot+k * 6+3,none⟩=some (.int .u64 in3)/\w'.cell? ⟨tb,ot+k * 6+4,none⟩=some (.int .i64 st3)/\w'.cell? ⟨tb,ot+k * 6+5,none⟩=some (.slice A va.length c)/\w'.cell? ⟨ub,uo+k * 6,none⟩=some (.int .u8 cl)/\w'.cell? ⟨ub,uo+k * 6+1,none⟩=some (.int .u64 sq2)/\w'.cell? ⟨ub,uo+k * 6+2,none⟩=some (.int .i64 er2)/\w'.cell? ⟨ub,uo+k * 6+3,none⟩=some (.int .u64 in4)/\w'.cell? ⟨ub,uo+k * 6+4,none⟩=some (.int .i64 st4)/\w'.cell? ⟨ub,uo+k * 6+5,none⟩=some (.slice A2 va2.length c2)) (by kernel_rfl) (HSX.out _ HB0.out) (fun hHeld => ?_)
     refine tkY 0 77 ?v18 rfl ?hy18 (by assumption) ?rest18
     case hy18=>intro w hSw;(try dsimp only at hSw);go_simp <;> with_reducible rfl
     simp only [Act.put,sTI,sT0,sT1]
     refine tkY 1 78 ?v19 rfl ?hy19 (by assumption) ?rest19
     case hy19=>intro w hSw;(try dsimp only at hSw);go_simp <;> with_reducible rfl
     simp only [Act.put,sTI,sT0,sT1]
     refine tkY 2 79 ?v20 rfl ?hy20 (by assumption) ?rest20
     case hy20=>intro w hSw;(try dsimp only at hSw);go_simp <;> with_reducible rfl
     simp only [Act.put,sTI,sT0,sT1]
     refine tkY 3 80 ?v21 rfl ?hy21 (by assumption) ?rest21
     case hy21=>intro w hSw;(try dsimp only at hSw);go_simp <;> with_reducible rfl
     simp only [Act.put,sTI,sT0,sT1]
     refine tkY 4 81 ?v22 rfl ?hy22 (by assumption) ?rest22
     case hy22=>intro w hSw;(try dsimp only at hSw);go_simp <;> with_reducible rfl
     simp only [Act.put,sTI,sT0,sT1]
     refine tkY 5 82 ?v23 rfl ?hy23 (by assumption) ?rest23
     case hy23=>intro w hSw;(try dsimp only at hSw);go_simp <;> with_reducible rfl
     simp only [Act.put,sTI,sT0,sT1]
     refine tkY 6 83 ?v24 rfl ?hy24 (by assumption) ?rest24
     case hy24=>intro w hSw;(try dsimp only at hSw);go_simp <;> with_reducible rfl
     simp only [Act.put,sTI,sT0,sT1]
     refine tkY 7 84 ?v25 rfl ?hy25 (by assumption) ?rest25
     case hy25=>intro w hSw;(try dsimp only at hSw);go_simp <;> with_reducible rfl
     simp only [Act.put,sTI,sT0,sT1]
     refine tkY 8 85 ?v26 rfl ?hy26 (by assumption) ?rest26
     case hy26=>intro w hSw;(try dsimp only at hSw);go_simp <;> with_reducible rfl
     simp only [Act.put,sTI,sT0,sT1]
     refine tkY 9 86 ?v27 rfl ?hy27 (by assumption) ?rest27
     case hy27=>intro w hSw;(try dsimp only at hSw);go_simp <;> with_reducible rfl
     simp only [Act.put,sTI,sT0,sT1]
     refine tkY 10 87 ?v28 rfl ?hy28 (by assumption) ?rest28
     case hy28=>intro w hSw;(try dsimp only at hSw);go_simp <;> with_reducible rfl
     simp only [Act.put,sTI,sT0,sT1]
     refine tkY 11 88 ?v29 rfl ?hy29 (by assumption) ?rest29
     case hy29=>intro w hSw;(try dsimp only at hSw);go_simp <;> with_reducible rfl
     simp only [Act.put,sTI,sT0,sT1]
     refine tkY 12 89 ?v30 rfl ?hy30 (by assumption) ?rest30
     case hy30=>intro w hSw;(try dsimp only at hSw);go_simp <;> with_reducible rfl
     simp only [Act.put,sTI,sT0,sT1]
     refine tkY 13 90 ?v31 rfl ?hy31 (by assumption) ?rest31
     case hy31=>intro w hSw;(try dsimp only at hSw);go_simp <;> with_reducible rfl
     simp only [Act.put,sTI,sT0,sT1]
     refine tkY 14 91 ?v32 rfl ?hy32 (by assumption) ?rest32
     case hy32=>intro w hSw;(try dsimp only at hSw);go_simp <;> with_reducible rfl
     simp only [Act.put,sTI,sT0,sT1]
     refine tkY 15 92 ?v33 rfl ?hy33 (by assumption) ?rest33
     case hy33=>intro w hSw;(try dsimp only at hSw);go_simp <;> with_reducible rfl
     simp only [Act.put,sTI,sT0,sT1]
     refine tkY 16 93 ?v34 rfl ?hy34 (by assumption) ?rest34
     case hy34=>intro w hSw;(try dsimp only at hSw);go_simp <;> with_reducible rfl
     simp only [Act.put,sTI,sT0,sT1]
     refine tkY 17 94 ?v35 rfl ?hy35 (by assumption) ?rest35
     case hy35=>intro w hSw;(try dsimp only at hSw);go_simp <;> with_reducible rfl
     simp only [Act.put,sTI,sT0,sT1]
     refine tkY 18 95 ?v36 rfl ?hy36 (by assumption) ?rest36
     case hy36=>intro w hSw;(try dsimp only at hSw);go_simp <;> with_reducible rfl
     simp only [Act.put,sTI,sT0,sT1]
     refine tkY 19 96 ?v37 rfl ?hy37 (by assumption) ?rest37
     case hy37=>intro w hSw;(try dsimp only at hSw);go_simp <;> with_reducible rfl
     simp only [Act.put,sTI,sT0,sT1]
     refine tkY 20 97 ?v38 rfl ?hy38 (by assumption) ?rest38
     case hy38=>intro w hSw;(try dsimp only at hSw);go_simp <;> with_reducible rfl
     simp only [Act.put,sTI,sT0,sT1]
     refine tkY 21 98 ?v39 rfl ?hy39 (by assumption) ?rest39
     case hy39=>intro w hSw;(try dsimp only at hSw);go_simp <;> with_reducible rfl
     simp only [Act.put,sTI,sT0,sT1]
     refine tkY 22 99 ?v40 rfl ?hy40 (by assumption) ?rest40
     case hy40=>intro w hSw;(try dsimp only at hSw);go_simp <;> with_reducible rfl
     simp only [Act.put,sTI,sT0,sT1]
     refine tkY 23 100 ?v41 rfl ?hy41 (by assumption) ?rest41
     case hy41=>intro w hSw;(try dsimp only at hSw);go_simp <;> with_reducible rfl
     simp only [Act.put,sTI,sT0,sT1]
     refine tkY 24 101 ?v42 rfl ?hy42 (by assumption) ?rest42
     case hy42=>intro w hSw;(try dsimp only at hSw);go_simp <;> with_reducible rfl
     simp only [Act.put,sTI,sT0,sT1]
     refine tkY 25 102 ?v43 rfl ?hy43 (by assumption) ?rest43
     case hy43=>intro w hSw;(try dsimp only at hSw);go_simp <;> with_reducible rfl
     simp only [Act.put,sTI,sT0,sT1]
     refine tkY 26 103 ?v44 rfl ?hy44 (by assumption) ?rest44
     case hy44=>intro w hSw;(try dsimp only at hSw);go_simp <;> with_reducible rfl
     simp only [Act.put,sTI,sT0,sT1]
     refine tkY 27 104 ?v45 rfl ?hy45 (by assumption) ?rest45
     case hy45=>intro w hSw;(try dsimp only at hSw);go_simp <;> with_reducible rfl
     simp only [Act.put,sTI,sT0,sT1]
     refine tkY 28 105 ?v46 rfl ?hy46 (by assumption) ?rest46
     case hy46=>intro w hSw;(try dsimp only at hSw);go_simp <;> with_reducible rfl
     simp only [Act.put,sTI,sT0,sT1]
     refine tkU 29 106 rfl (by assumption) ?_
     simp only [Act.put,sTI,sT0,sT1]
     refine tkU 30 107 rfl (by assumption) ?_
     simp only [Act.put,sTI,sT0,sT1]
     refine tkU 31 108 rfl (by assumption) ?_
     simp only [Act.put,sTI,sT0,sT1]
     refine tkU 32 109 rfl (by assumption) ?_
     simp only [Act.put,sTI,sT0,sT1]
     refine tkU 33 110 rfl (by assumption) ?_
     simp only [Act.put,sTI,sT0,sT1]
     refine tkU 34 111 rfl (by assumption) ?_
     simp only [Act.put,sTI,sT0,sT1]
     refine tkU 35 112 rfl (by assumption) ?_
     simp only [Act.put,sTI,sT0,sT1]
     refine tkU 36 113 rfl (by assumption) ?_
     simp only [Act.put,sTI,sT0,sT1]
     refine tkU 37 114 rfl (by assumption) ?_
     simp only [Act.put,sTI,sT0,sT1]
     refine tkU 38 115 rfl (by assumption) ?_
     simp only [Act.put,sTI,sT0,sT1]
     refine tkU 39 116 rfl (by assumption) ?_
     simp only [Act.put,sTI,sT0,sT1]
     refine tkU 40 117 rfl (by assumption) ?_
     simp only [Act.put,sTI,sT0,sT1]
     refine tkU 41 118 rfl (by assumption) ?_
     simp only [Act.put,sTI,sT0,sT1]
     refine tkU 42 119 rfl (by assumption) ?_
     simp only [Act.put,sTI,sT0,sT1]
     refine tkY 43 120 ?v47 rfl ?hy47 (by assumption) ?rest47
     case hy47=>intro w hSw;(try dsimp only at hSw);go_simp <;> with_reducible rfl
     simp only [Act.put,sTI,sT0,sT1]
     refine wpAnyH_done (by kernel_rfl) ?_ _
     go_wp2_with fail
     go_meet
     exact ⟨congrArg Value.bool HP.out.symm,HB.out.trans (HB0.out.mono HB.out.size),HXR.out.1.below HB0.out,HXR.out.2.below HB0.out⟩
    subst q2
    have HP:=aa (show (!rx) = !q by rw [HAT.out];simp)
    refine wp_region_held_drew (S:=fun w'=>(∀i:Nat,w'.cell? ⟨w.heap.size,i,none⟩=(#[.int .u8 ki, .int .u64 inc, .int .i64 st, .slice vA nv vc, .slice (some ⟨tb,ot,none⟩) nd dc, .slice oA no oc, .int .u64 la, .slice mA nm mc] : Array Value)[i]?)/\(∀i:Nat,w'.cell? ⟨w.heap.size+1,i,none⟩=(#[.int .u8 ki, .int .u64 inc, .int .i64 st, .slice vA2 nv2 vc2, .slice (some ⟨ub,uo,none⟩) nd dc2, .slice oA2 no oc2, .int .u64 la, .slice mA2 nm mc2] : Array Value)[i]?)/\w'.cell? ⟨tb,ot+k * 6,none⟩=some (.int .u8 cl)/\w'.cell? ⟨tb,ot+k * 6+1,none⟩=some (.int .u64 sq)/\w'.cell? ⟨tb,ot+k * 6+2,none⟩=some (.int .i64 er)/\w'.cell? ⟨tb,ot+k * 6+3,none⟩=some (.int .u64 in3)/\w'.cell? ⟨tb,ot+k * 6+4,none⟩=some (.int .i64 st3)/\w'.cell? ⟨tb,ot+k * 6+5,none⟩=some (.slice A va.length c)/\w'.cell? ⟨ub,uo+k * 6,none⟩=some (.int .u8 cl)/\w'.cell? ⟨ub,uo+k * 6+1,none⟩=some (.int .u64 sq)/\w'.cell? ⟨ub,uo+k * 6+2,none⟩=some (.int .i64 er2)/\w'.cell? ⟨ub,uo+k * 6+3,none⟩=some (.int .u64 in4)/\w'.cell? ⟨ub,uo+k * 6+4,none⟩=some (.int .i64 st4)/\w'.cell? ⟨ub,uo+k * 6+5,none⟩=some (.slice A2 va2.length c2)) (by kernel_rfl) (HSX.out _ HB0.out) (fun hHeld => ?_)
    refine tkY 0 77 ?v48 rfl ?hy48 (by assumption) ?rest48
    case hy48=>intro w hSw;(try dsimp only at hSw);go_simp <;> with_reducible rfl
    simp only [Act.put,sTI,sT0,sT1]
    refine tkY 1 78 ?v49 rfl ?hy49 (by assumption) ?rest49
    case hy49=>intro w hSw;(try dsimp only at hSw);go_simp <;> with_reducible rfl
    simp only [Act.put,sTI,sT0,sT1]
    refine tkY 2 79 ?v50 rfl ?hy50 (by assumption) ?rest50
    case hy50=>intro w hSw;(try dsimp only at hSw);go_simp <;> with_reducible rfl
    simp only [Act.put,sTI,sT0,sT1]
    refine tkY 3 80 ?v51 rfl ?hy51 (by assumption) ?rest51
    case hy51=>intro w hSw;(try dsimp only at hSw);go_simp <;> with_reducible rfl
    simp only [Act.put,sTI,sT0,sT1]
    refine tkY 4 81 ?v52 rfl ?hy52 (by assumption) ?rest52
    case hy52=>intro w hSw;(try dsimp only at hSw);go_simp <;> with_reducible rfl
    simp only [Act.put,sTI,sT0,sT1]
    refine tkY 5 82 ?v53 rfl ?hy53 (by assumption) ?rest53
    case hy53=>intro w hSw;(try dsimp only at hSw);go_simp <;> with_reducible rfl
    simp only [Act.put,sTI,sT0,sT1]
    refine tkY 6 83 ?v54 rfl ?hy54 (by assumption) ?rest54
    case hy54=>intro w hSw;(try dsimp only at hSw);go_simp <;> with_reducible rfl
    simp only [Act.put,sTI,sT0,sT1]
    refine tkY 7 84 ?v55 rfl ?hy55 (by assumption) ?rest55
    case hy55=>intro w hSw;(try dsimp only at hSw);go_simp <;> with_reducible rfl
    simp only [Act.put,sTI,sT0,sT1]
    refine tkY 8 85 ?v56 rfl ?hy56 (by assumption) ?rest56
    case hy56=>intro w hSw;(try dsimp only at hSw);go_simp <;> with_reducible rfl
    simp only [Act.put,sTI,sT0,sT1]
    refine tkY 9 86 ?v57 rfl ?hy57 (by assumption) ?rest57
    case hy57=>intro w hSw;(try dsimp only at hSw);go_simp <;> with_reducible rfl
    simp only [Act.put,sTI,sT0,sT1]
    refine tkY 10 87 ?v58 rfl ?hy58 (by assumption) ?rest58
    case hy58=>intro w hSw;(try dsimp only at hSw);go_simp <;> with_reducible rfl
    simp only [Act.put,sTI,sT0,sT1]
    refine tkY 11 88 ?v59 rfl ?hy59 (by assumption) ?rest59
    case hy59=>intro w hSw;(try dsimp only at hSw);go_simp <;> with_reducible rfl
    simp only [Act.put,sTI,sT0,sT1]
    refine tkY 12 89 ?v60 rfl ?hy60 (by assumption) ?rest60
    case hy60=>intro w hSw;(try dsimp only at hSw);go_simp <;> with_reducible rfl
    simp only [Act.put,sTI,sT0,sT1]
    refine tkY 13 90 ?v61 rfl ?hy61 (by assumption) ?rest61
    case hy61=>intro w hSw;(try dsimp only at hSw);go_simp <;> with_reducible rfl
    simp only [Act.put,sTI,sT0,sT1]
    refine tkY 14 91 ?v62 rfl ?hy62 (by assumption) ?rest62
    case hy62=>intro w hSw;(try dsimp only at hSw);go_simp <;> with_reducible rfl
    simp only [Act.put,sTI,sT0,sT1]
    refine tkY 15 92 ?v63 rfl ?hy63 (by assumption) ?rest63
    case hy63=>intro w hSw;(try dsimp only at hSw);go_simp <;> with_reducible rfl
    simp only [Act.put,sTI,sT0,sT1]
    refine tkY 16 93 ?v64 rfl ?hy64 (by assumption) ?rest64
    case hy64=>intro w hSw;(try dsimp only at hSw);go_simp <;> with_reducible rfl
    simp only [Act.put,sTI,sT0,sT1]
    refine tkY 17 94 ?v65 rfl ?hy65 (by assumption) ?rest65
    case hy65=>intro w hSw;(try dsimp only at hSw);go_simp <;> with_reducible rfl
    simp only [Act.put,sTI,sT0,sT1]
    refine tkY 18 95 ?v66 rfl ?hy66 (by assumption) ?rest66
    case hy66=>intro w hSw;(try dsimp only at hSw);go_simp <;> with_reducible rfl
    simp only [Act.put,sTI,sT0,sT1]
    refine tkY 19 96 ?v67 rfl ?hy67 (by assumption) ?rest67
    case hy67=>intro w hSw;(try dsimp only at hSw);go_simp <;> with_reducible rfl
    simp only [Act.put,sTI,sT0,sT1]
    refine tkY 20 97 ?v68 rfl ?hy68 (by assumption) ?rest68
    case hy68=>intro w hSw;(try dsimp only at hSw);go_simp <;> with_reducible rfl
    simp only [Act.put,sTI,sT0,sT1]
    refine tkY 21 98 ?v69 rfl ?hy69 (by assumption) ?rest69
    case hy69=>intro w hSw;(try dsimp only at hSw);go_simp <;> with_reducible rfl
    simp only [Act.put,sTI,sT0,sT1]
    refine tkY 22 99 ?v70 rfl ?hy70 (by assumption) ?rest70
    case hy70=>intro w hSw;(try dsimp only at hSw);go_simp <;> with_reducible rfl
    simp only [Act.put,sTI,sT0,sT1]
    refine tkY 23 100 ?v71 rfl ?hy71 (by assumption) ?rest71
    case hy71=>intro w hSw;(try dsimp only at hSw);go_simp <;> with_reducible rfl
    simp only [Act.put,sTI,sT0,sT1]
    refine tkY 24 101 ?v72 rfl ?hy72 (by assumption) ?rest72
    case hy72=>intro w hSw;(try dsimp only at hSw);go_simp <;> with_reducible rfl
    simp only [Act.put,sTI,sT0,sT1]
    refine tkY 25 102 ?v73 rfl ?hy73 (by assumption) ?rest73
    case hy73=>intro w hSw;(try dsimp only at hSw);go_simp <;> with_reducible rfl
    simp only [Act.put,sTI,sT0,sT1]
    refine tkY 26 103 ?v74 rfl ?hy74 (by assumption) ?rest74
    case hy74=>intro w hSw;(try dsimp only at hSw);go_simp <;> with_reducible rfl
    simp only [Act.put,sTI,sT0,sT1]
    refine tkY 27 104 ?v75 rfl ?hy75 (by assumption) ?rest75
    case hy75=>intro w hSw;(try dsimp only at hSw);go_simp <;> with_reducible rfl
    simp only [Act.put,sTI,sT0,sT1]
    refine tkY 28 105 ?v76 rfl ?hy76 (by assumption) ?rest76
    case hy76=>intro w hSw;(try dsimp only at hSw);go_simp <;> with_reducible rfl
    simp only [Act.put,sTI,sT0,sT1]
    refine tkY 29 106 ?v77 rfl ?hy77 (by assumption) ?rest77
    case hy77=>intro w hSw;(try dsimp only at hSw);go_simp <;> with_reducible rfl
    simp only [Act.put,sTI,sT0,sT1]
    refine tkY 30 107 ?v78 rfl ?hy78 (by assumption) ?rest78
    case hy78=>intro w hSw;(try dsimp only at hSw);go_simp <;> with_reducible rfl
    simp only [Act.put,sTI,sT0,sT1]
    refine tkY 31 108 ?v79 rfl ?hy79 (by assumption) ?rest79
    case hy79=>intro w hSw;(try dsimp only at hSw);go_simp <;> with_reducible rfl
    simp only [Act.put,sTI,sT0,sT1]
    refine tkY 32 109 ?v80 rfl ?hy80 (by assumption) ?rest80
    case hy80=>intro w hSw;(try dsimp only at hSw);go_simp <;> with_reducible rfl
    simp only [Act.put,sTI,sT0,sT1]
    refine tkY 33 110 ?v81 rfl ?hy81 (by assumption) ?rest81
    case hy81=>intro w hSw;(try dsimp only at hSw);go_simp <;> with_reducible rfl
    simp only [Act.put,sTI,sT0,sT1]
    refine tkY 34 111 ?v82 rfl ?hy82 (by assumption) ?rest82
    case hy82=>intro w hSw;(try dsimp only at hSw);go_simp <;> with_reducible rfl
    simp only [Act.put,sTI,sT0,sT1]
    refine tkY 35 112 ?v83 rfl ?hy83 (by assumption) ?rest83
    case hy83=>intro w hSw;(try dsimp only at hSw);go_simp <;> with_reducible rfl
    simp only [Act.put,sTI,sT0,sT1]
    refine tkY 36 113 ?v84 rfl ?hy84 (by assumption) ?rest84
    case hy84=>intro w hSw;(try dsimp only at hSw);go_simp <;> with_reducible rfl
    simp only [Act.put,sTI,sT0,sT1]
    refine tkY 37 114 ?v85 rfl ?hy85 (by assumption) ?rest85
    case hy85=>intro w hSw;(try dsimp only at hSw);go_simp <;> with_reducible rfl
    simp only [Act.put,sTI,sT0,sT1]
    refine tkY 38 115 ?v86 rfl ?hy86 (by assumption) ?rest86
    case hy86=>intro w hSw;(try dsimp only at hSw);go_simp <;> with_reducible rfl
    simp only [Act.put,sTI,sT0,sT1]
    refine tkY 39 116 ?v87 rfl ?hy87 (by assumption) ?rest87
    case hy87=>intro w hSw;(try dsimp only at hSw);go_simp <;> with_reducible rfl
    simp only [Act.put,sTI,sT0,sT1]
    refine tkY 40 117 ?v88 rfl ?hy88 (by assumption) ?rest88
    case hy88=>intro w hSw;(try dsimp only at hSw);go_simp <;> with_reducible rfl
    simp only [Act.put,sTI,sT0,sT1]
    refine wpAnyH_ready (rs:=[41]) (by kernel_rfl) (by simp) ?_
    refine AllReadyH.cons rfl (fun K hK => ?_) AllReadyH.nil
    go_simp
    go_wp2_with fail
    refine (HSR.out _ HB0.out).mono ?_
    rintro en w5 ⟨rfl,hb5⟩
    have HB5:=aa (HB0.out.trans (hb5.mono (by simp)))
    clear hb5
    refine hK.out _ _ (HSX.out _ HB5.out) (fun hHeld => ?_)
    clear hK K
    refine tkY 42 119 ?v89 rfl ?hy89 (by assumption) ?rest89
    case hy89=>intro w hSw;(try dsimp only at hSw);go_simp <;> with_reducible rfl
    simp only [Act.put,sTI,sT0,sT1]
    refine tkY 43 120 ?v90 rfl ?hy90 (by assumption) ?rest90
    case hy90=>intro w hSw;(try dsimp only at hSw);go_simp <;> with_reducible rfl
    simp only [Act.put,sTI,sT0,sT1]
    refine wpAnyH_done (by kernel_rfl) ?_ _
    go_wp2_with fail
    go_meet
    exact ⟨congrArg Value.bool HP.out.symm,HB.out.trans (HB5.out.mono HB.out.size),HXR.out.1.below HB5.out,HXR.out.2.below HB5.out⟩
   case rest =>
    obtain ⟨rfl,hbc,HXC⟩:=hcut
    have HBC:=aa hbc
    clear hbc
    cases rx with
    | false =>
     have HP:=aa (HNE.out rfl)
     go_wp2
     go_ret
     exact ⟨ae HP.out.symm,HBC.out⟩
    | true =>
     have HJ2:=aa (show ∀j,j<k+1->(dl.map DoneM.p)[j]?=(dl2.map DoneM.p)[j]? from fun j hj=>by
      by_cases h:j=k
      ·rw [h];exact HEQ.out rfl
      ·exact HJ.out j (by omega))
     go_wp2
     go_roundw
     case rel=>exact ⟨k+1,by omega,by go_num,HJ2,HBC.out,HXC.out.1,HXC.out.2⟩
     case measure=>simp [intOf];omega
  have hkn:nd=k:=by omega
  subst hkn
  have HF1:=aa (jB (by rw [List.length_map,HND.out]) (by rw [List.length_map,HND2.out]) HJ.out)
  have HBW1:=aa HB.out
  have HXR1:=aa HXR.out
  clear hb HJ HB HXR
  go_wp2
  clear hcx hcy
  go_loopw [125] (fun i wr=>∃k:Nat,k<=no/\i = .int .i64 k/\Hid (∀j,j<k->ol[j]?=ol2[j]?)/\Below w.heap.size w wr/\Hid (BoxAt wr w.heap.size #[.int .u8 ki, .int .u64 inc, .int .i64 st, .slice vA nv vc, .slice dA nd dc, .slice oA no oc, .int .u64 la, .slice mA nm mc] 31/\BoxAt wr (w.heap.size+1) #[.int .u8 ki, .int .u64 inc, .int .i64 st, .slice vA2 nv2 vc2, .slice dA2 nd dc2, .slice oA2 no oc2, .int .u64 la, .slice mA2 nm mc2] 31)) (fun i _=>no - (intOf i).toNat)
  case atStart=>exact ⟨0,Nat.zero_le _,rfl,(fun j hj=>absurd hj (by omega)),HBW1.out,HXR1.out.1,HXR1.out.2⟩
  case round =>
   obtain ⟨k,hk,rfl,HJ,hb,HXR⟩:=hrel
   have hz:w.heap.size<wr.heap.size:=HXR.out.1.lt
   have hz2:w.heap.size+1<wr.heap.size:=HXR.out.2.lt
   have hcx:=HXR.out.1.cell
   have hcy:=HXR.out.2.cell
   have HB:=aa hb
   by_cases hlt:k<no
   case pos =>
    obtain ⟨x,hx⟩:∃x,ol[k]?=some x:=⟨_,List.getElem?_eq_getElem (by rw [HNO.out];exact hlt)⟩
    obtain ⟨y,hy⟩:∃y,ol2[k]?=some y:=⟨_,List.getElem?_eq_getElem (by rw [HNO2.out];exact hlt)⟩
    obtain ⟨tb,ot,hAe,hab,e0,e1,e2,e3⟩:=(HO1.out _ hb).2.2.1.cel hx
    obtain ⟨ub,uo,hAe2,hab2,g0,g1,g2,g3⟩:=(HO2.out _ hb).2.2.1.cel hy
    have hwz:tb<wr.heap.size:=by have:=hb.size;omega
    have huz:ub<wr.heap.size:=by have:=hb.size;omega
    subst hAe hAe2
    have HXX:=aa hx
    have HYY:=aa hy
    have HNE:=aa (show x≠y->G=false from fun h=>fZ HN.out (fun h=>show x=y by have h2:=HXX.out;rw [h.2.2.2.2.2.1,HYY.out] at h2;injection h2 with h2;exact h2.symm) h)
    clear hx hy hb
    obtain ⟨f0,f1,f2,f3⟩:=x
    obtain ⟨h0,h1,h2,h3⟩:=y
    simp only at e0 e1 e2 e3 g0 g1 g2 g3
    by_cases c0:f0=h0
    case neg =>
     have HP:=aa (HNE.out (fun h=>c0 (by simp only [Prod.mk.injEq] at h;first|exact h|exact h.1|exact h.2.1|exact h.2.2.1|exact h.2.2.2|exact h.2.2|exact h.2)))
     have hd1:(f0 == h0)=false:=beq_eq_false_iff_ne.2 c0
     have hd2:(f0 != h0)=true:=bne_iff_ne.2 c0
     clear c0
     go_upto_region 12 with fail
     go_quiet (fail)
     go_wp2
     go_ret
     exact ⟨ae HP.out.symm,HB.out.trans ⟨rfl,rfl,rfl,Nat.le_refl _,fun _ _=>rfl⟩⟩
    subst c0
    by_cases c1:f1=h1
    case neg =>
     have HP:=aa (HNE.out (fun h=>c1 (by simp only [Prod.mk.injEq] at h;first|exact h|exact h.1|exact h.2.1|exact h.2.2.1|exact h.2.2.2|exact h.2.2|exact h.2)))
     have hd1:(f1 == h1)=false:=beq_eq_false_iff_ne.2 c1
     have hd2:(f1 != h1)=true:=bne_iff_ne.2 c1
     clear c1
     go_upto_region 12 with fail
     go_quiet (fail)
     go_wp2
     go_ret
     exact ⟨ae HP.out.symm,HB.out.trans ⟨rfl,rfl,rfl,Nat.le_refl _,fun _ _=>rfl⟩⟩
    subst c1
    by_cases c2:f2=h2
    case neg =>
     have HP:=aa (HNE.out (fun h=>c2 (by simp only [Prod.mk.injEq] at h;first|exact h|exact h.1|exact h.2.1|exact h.2.2.1|exact h.2.2.2|exact h.2.2|exact h.2)))
     have hd1:(f2 == h2)=false:=beq_eq_false_iff_ne.2 c2
     have hd2:(f2 != h2)=true:=bne_iff_ne.2 c2
     clear c2
     go_upto_region 12 with fail
     go_quiet (fail)
     go_wp2
     go_ret
     exact ⟨ae HP.out.symm,HB.out.trans ⟨rfl,rfl,rfl,Nat.le_refl _,fun _ _=>rfl⟩⟩
    subst c2
    by_cases c3:f3=h3
    case neg =>
     have HP:=aa (HNE.out (fun h=>c3 (by simp only [Prod.mk.injEq] at h;first|exact h|exact h.1|exact h.2.1|exact h.2.2.1|exact h.2.2.2|exact h.2.2|exact h.2)))
     have hd1:(f3 == h3)=false:=beq_eq_false_iff_ne.2 c3
     have hd2:(f3 != h3)=true:=bne_iff_ne.2 c3
     clear c3
     go_upto_region 12 with fail
     go_quiet (fail)
     go_wp2
     go_ret
     exact ⟨ae HP.out.symm,HB.out.trans ⟨rfl,rfl,rfl,Nat.le_refl _,fun _ _=>rfl⟩⟩
    subst c3
    have HJ2:=aa (show ∀j,j<k+1->ol[j]?=ol2[j]? from fun j hj=>by
     by_cases h:j=k
     ·rw [h,HXX.out,HYY.out]
     ·exact HJ.out j (by omega))
    go_upto_region 12 with fail
    go_quiet (fail)
    go_wp2
    go_roundw
    case rel=>exact ⟨k+1,by omega,by go_num,HJ2,HB.out.trans ⟨rfl,rfl,rfl,Nat.le_refl _,fun _ _=>rfl⟩,HXR.out.1,HXR.out.2⟩
    case measure=>simp [intOf];omega
   have hkn:no=k:=by omega
   subst hkn
   have HF2:=aa (jB HNO.out HNO2.out HJ.out)
   have HBW2:=aa HB.out
   have HXR2:=aa HXR.out
   clear hb HJ HB HXR
   go_wp2
   clear hcx hcy
   go_loopw [143] (fun i wr=>∃k:Nat,k<=nm/\i = .int .i64 k/\Hid (∀j,j<k->ml[j]?=ml2[j]?)/\Below w.heap.size w wr/\Hid (BoxAt wr w.heap.size #[.int .u8 ki, .int .u64 inc, .int .i64 st, .slice vA nv vc, .slice dA nd dc, .slice oA no oc, .int .u64 la, .slice mA nm mc] 31/\BoxAt wr (w.heap.size+1) #[.int .u8 ki, .int .u64 inc, .int .i64 st, .slice vA2 nv2 vc2, .slice dA2 nd dc2, .slice oA2 no oc2, .int .u64 la, .slice mA2 nm mc2] 31)) (fun i _=>nm - (intOf i).toNat)
   case atStart=>exact ⟨0,Nat.zero_le _,rfl,(fun j hj=>absurd hj (by omega)),HBW2.out,HXR2.out.1,HXR2.out.2⟩
   case round =>
    obtain ⟨k,hk,rfl,HJ,hb,HXR⟩:=hrel
    have hz:w.heap.size<wr.heap.size:=HXR.out.1.lt
    have hz2:w.heap.size+1<wr.heap.size:=HXR.out.2.lt
    have hcx:=HXR.out.1.cell
    have hcy:=HXR.out.2.cell
    have HB:=aa hb
    by_cases hlt:k<nm
    case pos =>
     obtain ⟨x,hx⟩:∃x,ml[k]?=some x:=⟨_,List.getElem?_eq_getElem (by rw [HNM.out];exact hlt)⟩
     obtain ⟨y,hy⟩:∃y,ml2[k]?=some y:=⟨_,List.getElem?_eq_getElem (by rw [HNM2.out];exact hlt)⟩
     obtain ⟨tb,ot,hAe,hab,e0,e1,e2⟩:=(HM1.out _ hb).2.2.1.mrk hx
     obtain ⟨ub,uo,hAe2,hab2,g0,g1,g2⟩:=(HM2.out _ hb).2.2.1.mrk hy
     have hwz:tb<wr.heap.size:=by have:=hb.size;omega
     have huz:ub<wr.heap.size:=by have:=hb.size;omega
     subst hAe hAe2
     have HXX:=aa hx
     have HYY:=aa hy
     have HNE:=aa (show x≠y->G=false from fun h=>fZ HN.out (fun h=>show x=y by have h2:=HXX.out;rw [h.2.2.2.2.2.2.2,HYY.out] at h2;injection h2 with h2;exact h2.symm) h)
     clear hx hy hb
     obtain ⟨f0,f1,f2⟩:=x
     obtain ⟨h0,h1,h2⟩:=y
     simp only at e0 e1 e2 g0 g1 g2
     by_cases c0:f0=h0
     case neg =>
      have HP:=aa (HNE.out (fun h=>c0 (by simp only [Prod.mk.injEq] at h;first|exact h|exact h.1|exact h.2.1|exact h.2.2.1|exact h.2.2.2|exact h.2.2|exact h.2)))
      have hd1:(f0 == h0)=false:=beq_eq_false_iff_ne.2 c0
      have hd2:(f0 != h0)=true:=bne_iff_ne.2 c0
      clear c0
      go_upto_region 18 with fail
      go_quiet (fail)
      go_wp2
      go_ret
      exact ⟨ae HP.out.symm,HB.out.trans ⟨rfl,rfl,rfl,Nat.le_refl _,fun _ _=>rfl⟩⟩
     subst c0
     by_cases c1:f1=h1
     case neg =>
      have HP:=aa (HNE.out (fun h=>c1 (by simp only [Prod.mk.injEq] at h;first|exact h|exact h.1|exact h.2.1|exact h.2.2.1|exact h.2.2.2|exact h.2.2|exact h.2)))
      have hd1:(f1 == h1)=false:=beq_eq_false_iff_ne.2 c1
      have hd2:(f1 != h1)=true:=bne_iff_ne.2 c1
      clear c1
      go_upto_region 18 with fail
      go_quiet (fail)
      go_wp2
      go_ret
      exact ⟨ae HP.out.symm,HB.out.trans ⟨rfl,rfl,rfl,Nat.le_refl _,fun _ _=>rfl⟩⟩
     subst c1
     by_cases c2:f2=h2
     case neg =>
      have HP:=aa (HNE.out (fun h=>c2 (by simp only [Prod.mk.injEq] at h;first|exact h|exact h.1|exact h.2.1|exact h.2.2.1|exact h.2.2.2|exact h.2.2|exact h.2)))
      have hd1:(f2 == h2)=false:=beq_eq_false_iff_ne.2 c2
      have hd2:(f2 != h2)=true:=bne_iff_ne.2 c2
      clear c2
      go_upto_region 18 with fail
      go_quiet (fail)
      go_wp2
      go_ret
      exact ⟨ae HP.out.symm,HB.out.trans ⟨rfl,rfl,rfl,Nat.le_refl _,fun _ _=>rfl⟩⟩
     subst c2
     have HJ2:=aa (show ∀j,j<k+1->ml[j]?=ml2[j]? from fun j hj=>by
      by_cases h:j=k
      ·rw [h,HXX.out,HYY.out]
      ·exact HJ.out j (by omega))
     go_upto_region 18 with fail
     go_quiet (fail)
     go_wp2
     go_roundw
     case rel=>exact ⟨k+1,by omega,by go_num,HJ2,HB.out.trans ⟨rfl,rfl,rfl,Nat.le_refl _,fun _ _=>rfl⟩,HXR.out.1,HXR.out.2⟩
     case measure=>simp [intOf];omega
    have hkn:nm=k:=by omega
    subst hkn
    have HF3:=aa (jB HNM.out HNM2.out HJ.out)
    have HBW3:=aa HB.out
    have HXR3:=aa HXR.out
    clear hb HJ HB HXR
    have HP:=aa (HY2.out HVL.out HF1.out HF2.out HF3.out)
    go_wp2
    go_ret
    exact ⟨ae HP.out.symm,HBW3.out⟩

def DD (r:RegM) (w:World) (e:Ending) (w':World):Prop:=∃b:Bool,e = .returned (.bool b)/\Below w.heap.size w w'/\(b=false->r.va.l.length<=50/\r.dn.l.length<=50/\r.ou.l.length<=50/\r.ma.l.length<=50/\∀d∈r.dn.l,d.va.l.length<=50)

theorem fL {r:RegM} {w w':World} {e:Ending} (b:Bool) (h1:e = .returned (.bool b)) (h2:Below w.heap.size w w') (h3:b=false->r.va.l.length<=50/\r.dn.l.length<=50/\r.ou.l.length<=50/\r.ma.l.length<=50/\∀d∈r.dn.l,d.va.l.length<=50):DD r w e w':=⟨b,h1,h2,h3⟩

theorem td (r:RegM) (B:Nat) (w:World) (hr:RegM.ok w B r) (hB:B<=w.heap.size):Calls Tryz.prog 39 #[r.v] w (DD r w):=by
 have HX:=aa (BoxAt.new w r.box 31)
 have HW:=aa ((Below.refl w.heap.size w).alloc (Nat.le_refl _) (.cells r.box 31))
 have HD:=aa hr.2.2.1
 have m1:=cw hr.2.1
 have m2:=cw hr.2.2.1
 have m3:=cw hr.2.2.2.1
 have m4:=cw hr.2.2.2.2
 clear hr
 obtain ⟨ki,inc,st,⟨vA,vc,vl⟩,⟨dA,dc,dl⟩,⟨oA,oc,ol⟩,la,⟨mA,mc,ml⟩⟩:=r
 obtain ⟨nv,hnv⟩:∃n,vl.length=n:=⟨_,rfl⟩
 obtain ⟨nd,hnd⟩:∃n,dl.length=n:=⟨_,rfl⟩
 obtain ⟨no,hno⟩:∃n,ol.length=n:=⟨_,rfl⟩
 obtain ⟨nm,hnm⟩:∃n,ml.length=n:=⟨_,rfl⟩
 simp only [RegM.v,RegM.box,Sl.v,hnv,hnd,hno,hnm] at HX HW m1 m2 m3 m4 ⊢
 have HND:=aa hnd
 have HNV:=aa hnv
 have HNO:=aa hno
 have HNM:=aa hnm
 clear hnv hno hnm hnd
 by_cases c1:50<nv
 ·have d1:decide (50<(nv:Int))=true:=decide_eq_true (by omega)
  clear c1
  go_enter Tryz.func39,Tryz.ntmps39
  go_wp2
  go_ret
  exact fL true rfl HW.out (fun h=>by cases h)
 have d1:decide (50<(nv:Int))=false:=decide_eq_false (by omega)
 by_cases c2:50<nd
 ·have d2:decide (50<(nd:Int))=true:=decide_eq_true (by omega)
  clear c1 c2
  go_enter Tryz.func39,Tryz.ntmps39
  go_wp2
  go_ret
  exact fL true rfl HW.out (fun h=>by cases h)
 have d2:decide (50<(nd:Int))=false:=decide_eq_false (by omega)
 by_cases c3:50<no
 ·have d3:decide (50<(no:Int))=true:=decide_eq_true (by omega)
  clear c1 c2 c3
  go_enter Tryz.func39,Tryz.ntmps39
  go_wp2
  go_ret
  exact fL true rfl HW.out (fun h=>by cases h)
 have d3:decide (50<(no:Int))=false:=decide_eq_false (by omega)
 by_cases c4:50<nm
 ·have d4:decide (50<(nm:Int))=true:=decide_eq_true (by omega)
  clear c1 c2 c3 c4
  go_enter Tryz.func39,Tryz.ntmps39
  go_wp2
  go_ret
  exact fL true rfl HW.out (fun h=>by cases h)
 have d4:decide (50<(nm:Int))=false:=decide_eq_false (by omega)
 have hle:nv<=50/\nd<=50/\no<=50/\nm<=50:=by omega
 have HLE:=aa hle
 have hnd50:nd<=50:=hle.2.1
 clear c1 c2 c3 c4 hle
 go_enter Tryz.func39,Tryz.ntmps39
 go_wp2
 go_loopw [29] (fun i wr=>∃k:Nat,k<=nd/\i = .int .i64 k/\Hid (∀j d,j<k->dl[j]?=some d->d.va.l.length<=50)/\Below w.heap.size w wr/\Hid (BoxAt wr w.heap.size #[.int .u8 ki, .int .u64 inc, .int .i64 st, .slice vA nv vc, .slice dA nd dc, .slice oA no oc, .int .u64 la, .slice mA nm mc] 31)) (fun i _=>nd - (intOf i).toNat)
 case atStart=>exact ⟨0,Nat.zero_le _,rfl,(fun j d hj=>absurd hj (by omega)),HW.out,HX.out⟩
 case round =>
  obtain ⟨k,hk,rfl,HJ,hb,HXR⟩:=hrel
  have hz:w.heap.size<wr.heap.size:=HXR.out.lt
  have hcx:=HXR.out.cell
  by_cases hlt:k<nd
  ·obtain ⟨x,hx⟩:∃x,dl[k]?=some x:=⟨_,List.getElem?_eq_getElem (by rw [HND.out];exact hlt)⟩
   obtain ⟨tb,ot,hAe,hab,e0,e1,e2,e3,e4,e5⟩:=(HD.out.2.2.1.below (hb.mono hB)).done hx
   have hwz:tb<wr.heap.size:=by omega
   have hxm:=cw (HD.out.2.2.2 x (List.mem_of_getElem? hx)).2
   have HXX:=aa hx
   subst hAe
   obtain ⟨cl,sq,er,inc2,st2,⟨A,c,va⟩⟩:=x
   simp only at e5 hxm
   obtain ⟨m,hm⟩:∃m,va.length=m:=⟨_,rfl⟩
   rw [hm] at e5 hxm
   have HM:=aa hm
   have HB:=aa hb
   clear hx hm e0 e1 e2 e3 e4 hb
   by_cases c5:50<m
   ·have d5:decide (50<(m:Int))=true:=decide_eq_true (by omega)
    clear c5
    go_wp2
    go_ret
    exact fL true rfl HB.out (fun h=>by cases h)
   ·have d5:decide (50<(m:Int))=false:=decide_eq_false (by omega)
    have HJ2:=aa (show ∀j d,j<k+1->dl[j]?=some d->d.va.l.length<=50 from fun j d hj hd=>by
     by_cases h:j=k
     ·rw [h,HXX.out] at hd
      injection hd with hd
      rw [<- hd]
      show va.length<=50
      rw [HM.out]
      omega
     ·exact HJ.out j d (by omega) hd)
    clear c5
    go_wp2
    go_roundw
    case rel=>exact ⟨k+1,by omega,by go_num,HJ2,HB.out,HXR⟩
    case measure=>simp [intOf];omega
  ·obtain rfl:k=nd:=by omega
   have HB:=aa hb
   clear hb
   have HK:=aa (show ∀d∈dl,d.va.l.length<=50 from fun d hd=>by
    obtain ⟨j,hj,rfl⟩:=List.getElem_of_mem hd
    exact HJ.out j _ (by rw [<- HND.out];exact hj) (List.getElem?_eq_getElem hj))
   go_wp2
   go_ret
   exact fL false rfl HB.out (fun _=>⟨by show vl.length<=50;rw [HNV.out];exact HLE.out.1,by show dl.length<=50;rw [HND.out];exact HLE.out.2.1,by show ol.length<=50;rw [HNO.out];exact HLE.out.2.2.1,by show ml.length<=50;rw [HNM.out];exact HLE.out.2.2.2,HK.out⟩)



theorem te {g:Nat} {s:RS} {w:World} (h:Rdr w g s.1 s.2) (hs:RSok s):Calls Tryz.prog 321 #[aS g] w (gv RepM.v RepM.p RepM.ok RepM.ft w g (repS s)):=by
 have hgl:g<w.heap.size:=h.glt
 have hb1:=(aG (most:=1000) hs).2
 have hk1:=(aG (most:=1000) hs).1
 have HC1:=aa (fun (u:World) (hr:Rdr u g s.1 s.2)=>ce hr hs)
 obtain ⟨n1,hn1⟩:∃n,(numS 1000 s).1=n:=⟨_,rfl⟩
 obtain ⟨s1,hs1⟩:∃t,(numS 1000 s).2=t:=⟨_,rfl⟩
 rw [hn1] at hb1
 rw [hs1] at hk1
 simp only [hn1,hs1] at HC1
 have hb2:=(aO hk1).2
 have hk2:=(aO hk1).1
 have HC2:=aa (fun (u:World) (hr:Rdr u g s1.1 s1.2)=>ci hr hk1)
 obtain ⟨n2,hn2⟩:∃n,(aC s1).1=n:=⟨_,rfl⟩
 obtain ⟨s2,hs2⟩:∃t,(aC s1).2=t:=⟨_,rfl⟩
 rw [hn2] at hb2
 rw [hs2] at hk2
 simp only [hn2,hs2] at HC2
 have hb3:=(aG (most:=1000) hk2).2
 have hk3:=(aG (most:=1000) hk2).1
 have HC3:=aa (fun (u:World) (hr:Rdr u g s2.1 s2.2)=>ce hr hk2)
 obtain ⟨n3,hn3⟩:∃n,(numS 1000 s2).1=n:=⟨_,rfl⟩
 obtain ⟨s3,hs3⟩:∃t,(numS 1000 s2).2=t:=⟨_,rfl⟩
 rw [hn3] at hb3
 rw [hs3] at hk3
 simp only [hn3,hs3] at HC3
 have hk4:=mP hk3
 have HC4:=aa (fun (u:World) (hr:Rdr u g s3.1 s3.2)=>kh hr hk3)
 obtain ⟨n4,hn4⟩:∃n,(varS s3).1=n:=⟨_,rfl⟩
 obtain ⟨s4,hs4⟩:∃t,(varS s3).2=t:=⟨_,rfl⟩
 rw [hs4] at hk4
 simp only [show varS s3=(n4,s4) by rw [<- hn4,<- hs4]] at HC4
 have HP:=aa (show repS s=((((n1:Int),(n2:Int),(n3:Int),n4):RepP),s4) by unfold repS;simp only [hn1,hs1,hn2,hs2,hn3,hs3,hn4,hs4])
 have HB1:=aa hb1
 have HB2:=aa hb2
 have HB3:=aa hb3
 rw [HP.out]
 have HG0:=aa (World.grownBy.refl ((w.alloc (.cells #[.pointer (some ⟨g,0,none⟩)] 283)).alloc (.cells #[.int .i64 0, .int .u64 0, .int .i64 0, .slice none 0 0] 38)).drew (some g))
 have HR0:=aa (show Rdr ((w.alloc (.cells #[.pointer (some ⟨g,0,none⟩)] 283)).alloc (.cells #[.int .i64 0, .int .u64 0, .int .i64 0, .slice none 0 0] 38)).drew g s.1 s.2 from ((h.made _).made _).drawn)
 have HBX:=aa (fun (u:World) (hu:(w.alloc (.cells #[.pointer (some ⟨g,0,none⟩)] 283)).grownBy u (some g))=>show u.cell? ⟨w.heap.size,0,none⟩=some (.pointer (some ⟨g,0,none⟩)) by
  have h1:=BoxAt.new w #[.pointer (some ⟨g,0,none⟩)] 283
  exact cell_of_row _ _ 0 _ _ _ (aB hu h1 (by omega)))
 have HZ:=aa (fun (u:World) (hu:((w.alloc (.cells #[.pointer (some ⟨g,0,none⟩)] 283)).alloc (.cells #[.int .i64 0, .int .u64 0, .int .i64 0, .slice none 0 0] 38)).drew.grownBy u (some g))=>show u.heap[w.heap.size+1]?=some (.cells #[.int .i64 0, .int .u64 0, .int .i64 0, .slice none 0 0] 38 (0,0)) from aB hu (by
  have:=BoxAt.new (w.alloc (.cells #[.pointer (some ⟨g,0,none⟩)] 283)) #[.int .i64 0, .int .u64 0, .int .i64 0, .slice none 0 0] 38
  have h2:((w.alloc (.cells #[.pointer (some ⟨g,0,none⟩)] 283)).alloc (.cells #[.int .i64 0, .int .u64 0, .int .i64 0, .slice none 0 0] 38)).heap[w.heap.size+1]?=some (.cells #[.int .i64 0, .int .u64 0, .int .i64 0, .slice none 0 0] 38 (0,0)):=by simpa [BoxAt] using this
  exact h2) (by omega))
 clear h hs hn1 hn2 hn3 hn4 hs1 hs2 hs3 hs4 hk1 hk2 hk3 hk4
 unfold aS
 go_enter Tryz.func321,Tryz.ntmps321
 go_wp2
 refine wp_region_held_drew (S:=fun w'=>w'.cell? ⟨w.heap.size,0,none⟩=some (.pointer (some ⟨g,0,none⟩))) (by kernel_rfl) (HBX.out _ (aj (aA HG0.out))) (fun hHeld => ?_)
 refine wpAnyH_take (i:=0) (oi:=⟨some 3,_,_,_,_,_⟩) (v := ?v1) rfl (by kernel_rfl) (by kernel_rfl) (by kernel_rfl) (fun _ _ _ h=>h) (Or.inl ⟨by rfl,?hy1⟩) (by assumption) ?rest1
 case hy1=>intro w hSw;(try dsimp only at hSw);go_simp <;> with_reducible rfl
 simp only [Act.put,List.setIfInBounds_toArray,List.set_cons_zero,List.set_cons_succ]
 refine wpAnyH_take (i:=2) (oi:=⟨some 5,_,_,_,_,_⟩) (v := ?v2) rfl (by kernel_rfl) (by kernel_rfl) (by kernel_rfl) (fun _ _ _ h=>h) (Or.inl ⟨by rfl,?hy2⟩) (by assumption) ?rest2
 case hy2=>intro w hSw;(try dsimp only at hSw);go_simp <;> with_reducible rfl
 simp only [Act.put,List.setIfInBounds_toArray,List.set_cons_zero,List.set_cons_succ]
 refine wpAnyH_take (i:=4) (oi:=⟨some 7,_,_,_,_,_⟩) (v := ?v3) rfl (by kernel_rfl) (by kernel_rfl) (by kernel_rfl) (fun _ _ _ h=>h) (Or.inl ⟨by rfl,?hy3⟩) (by assumption) ?rest3
 case hy3=>intro w hSw;(try dsimp only at hSw);go_simp <;> with_reducible rfl
 simp only [Act.put,List.setIfInBounds_toArray,List.set_cons_zero,List.set_cons_succ]
 refine wpAnyH_take (i:=6) (oi:=⟨some 9,_,_,_,_,_⟩) (v := ?v4) rfl (by kernel_rfl) (by kernel_rfl) (by kernel_rfl) (fun _ _ _ h=>h) (Or.inl ⟨by rfl,?hy4⟩) (by assumption) ?rest4
 case hy4=>intro w hSw;(try dsimp only at hSw);go_simp <;> with_reducible rfl
 simp only [Act.put,List.setIfInBounds_toArray,List.set_cons_zero,List.set_cons_succ]
 refine wpAnyH_take (i:=7) (oi:=⟨some 10,_,_,_,_,_⟩) (v := ?v5) rfl (by kernel_rfl) (by kernel_rfl) (by kernel_rfl) (fun _ _ _ h=>h) (Or.inl ⟨by rfl,?hy5⟩) (by assumption) ?rest5
 case hy5=>intro w hSw;(try dsimp only at hSw);go_simp <;> with_reducible rfl
 simp only [Act.put,List.setIfInBounds_toArray,List.set_cons_zero,List.set_cons_succ]
 refine wpAnyH_take (i:=8) (oi:=⟨some 11,_,_,_,_,_⟩) (v := ?v6) rfl (by kernel_rfl) (by kernel_rfl) (by kernel_rfl) (fun _ _ _ h=>h) (Or.inl ⟨by rfl,?hy6⟩) (by assumption) ?rest6
 case hy6=>intro w hSw;(try dsimp only at hSw);go_simp <;> with_reducible rfl
 simp only [Act.put,List.setIfInBounds_toArray,List.set_cons_zero,List.set_cons_succ]
 refine wpAnyH_take (i:=9) (oi:=⟨some 12,_,_,_,_,_⟩) (v := ?v7) rfl (by kernel_rfl) (by kernel_rfl) (by kernel_rfl) (fun _ _ _ h=>h) (Or.inl ⟨by rfl,?hy7⟩) (by assumption) ?rest7
 case hy7=>intro w hSw;(try dsimp only at hSw);go_simp <;> with_reducible rfl
 simp only [Act.put,List.setIfInBounds_toArray,List.set_cons_zero,List.set_cons_succ]
 refine wpAnyH_ready (rs:=[1]) (by kernel_rfl) (by simp) ?_
 refine AllReadyH.cons rfl (fun K hK => ?_) AllReadyH.nil
 go_simp
 go_wp2_with fail
 refine (HC1.out _ HR0.out).mono ?_
 rintro en w1 ⟨rfl,hr1,hg1⟩
 have HR1:=aa hr1
 have HG1:=aa (ag HG0.out hg1)
 clear hr1 hg1
 refine hK.out _ _ (HBX.out _ (aj (aA HG1.out))) (fun hHeld => ?_)
 clear hK K
 refine wpAnyH_ready (rs:=[3]) (by kernel_rfl) (by simp) ?_
 refine AllReadyH.cons rfl (fun K hK => ?_) AllReadyH.nil
 go_simp
 go_wp2_with fail
 refine (HC2.out _ HR1.out).mono ?_
 rintro en w2 ⟨rfl,hr2,hg2⟩
 have HR2:=aa hr2
 have HG2:=aa (ag HG1.out hg2)
 clear hr2 hg2
 refine hK.out _ _ (HBX.out _ (aj (aA HG2.out))) (fun hHeld => ?_)
 clear hK K
 refine wpAnyH_ready (rs:=[5]) (by kernel_rfl) (by simp) ?_
 refine AllReadyH.cons rfl (fun K hK => ?_) AllReadyH.nil
 go_simp
 go_wp2_with fail
 refine (HC3.out _ HR2.out).mono ?_
 rintro en w3 ⟨rfl,hr3,hg3⟩
 have HR3:=aa hr3
 have HG3:=aa (ag HG2.out hg3)
 clear hr3 hg3
 refine hK.out _ _ (HBX.out _ (aj (aA HG3.out))) (fun hHeld => ?_)
 clear hK K
 refine wpAnyH_ready (rs:=[10]) (by kernel_rfl) (by simp) ?_
 refine AllReadyH.cons rfl (fun K hK => ?_) AllReadyH.nil
 go_simp
 go_wp2_with fail
 refine (HC4.out _ HR3.out).mono ?_
 rintro en w4 ⟨x4,rfl,hp4,ho4,hl4,hr4,hg4⟩
 obtain ⟨xA4,xc4,xl4⟩:=x4
 simp only [Sl.v]
 have HPP4:=aa hp4
 have HOK4:=aa ho4
 have HLI4:=aa hl4
 clear hp4 ho4 hl4
 have HR4:=aa hr4
 have HG4:=aa (ag HG3.out hg4)
 clear hr4 hg4
 refine hK.out _ _ (HBX.out _ (aj (aA HG4.out))) (fun hHeld => ?_)
 clear hK K
 refine wpAnyH_take (i:=11) (oi:=⟨some 14,_,_,_,_,_⟩) (v := ?v8) rfl (by kernel_rfl) (by kernel_rfl) (by kernel_rfl) (fun _ _ _ h=>h) (Or.inl ⟨by rfl,?hy8⟩) (by assumption) ?rest8
 case hy8=>intro w hSw;(try dsimp only at hSw);go_simp <;> with_reducible rfl
 simp only [Act.put,List.setIfInBounds_toArray,List.set_cons_zero,List.set_cons_succ]
 have hkz:=HZ.out _ HG4.out
 have q0:w4.cell? ⟨w.heap.size+1,0,none⟩=some (.int .i64 0):=by rw [cell_of_row _ _ 0 _ _ _ hkz];rfl
 have f0:w4.frozen? ⟨w.heap.size+1,0,none⟩=false:=by simp [World.frozen?,hkz]
 have q1:w4.cell? ⟨w.heap.size+1,1,none⟩=some (.int .u64 0):=by rw [cell_of_row _ _ 1 _ _ _ hkz];rfl
 have f1:w4.frozen? ⟨w.heap.size+1,1,none⟩=false:=by simp [World.frozen?,hkz]
 have q2:w4.cell? ⟨w.heap.size+1,2,none⟩=some (.int .i64 0):=by rw [cell_of_row _ _ 2 _ _ _ hkz];rfl
 have f2:w4.frozen? ⟨w.heap.size+1,2,none⟩=false:=by simp [World.frozen?,hkz]
 have q3:w4.cell? ⟨w.heap.size+1,3,none⟩=some (.slice none 0 0):=by rw [cell_of_row _ _ 3 _ _ _ hkz];rfl
 have f3:w4.frozen? ⟨w.heap.size+1,3,none⟩=false:=by simp [World.frozen?,hkz]
 clear hkz
 refine wpAnyH_ready (rs:=[12]) (by kernel_rfl) (by simp) ?_
 refine AllReadyH.cons rfl (fun K hK => ?_) AllReadyH.nil
 go_simp
 refine hK.out _ _ (HBX.out _ (ab (ab (ab (ab (aj (aA HG4.out)) (by simp)) (by simp)) (by simp)) (by simp))) (fun hHeld => ?_)
 clear hK K
 refine wpAnyH_done (by kernel_rfl) ?_ _
 go_wp2
 refine bodyPost_ret (v := .agg #[.int .i64 n1, .int .u64 n2, .int .i64 n3, .slice xA4 xl4.length xc4]) (by simp [results,Tryz.results321,go_sem,q0,q1,q2,q3]) rfl ?_
 clear q0 f0 q1 f1 q2 f2 q3 f3
 have hzp:w.heap.size+1<w3.heap.size:=by
  have h1:=HG3.out.size
  simp at h1
  omega
 refine ⟨⟨n1,n2,n3,xA4,xc4,xl4⟩,rfl,by rw [<- HPP4.out];rfl,⟨⟨by have:=HB1.out;unfold I64;simp;omega,HB2.out,by have:=HB3.out;unfold I64;simp;omega⟩,(af ints_local (af ints_local (af ints_local (af ints_local HOK4.out HLI4.out hzp) HLI4.out hzp) HLI4.out hzp) HLI4.out hzp)⟩,HLI4.out.more (by omega) (by simp),((((HR4.out.stored (by omega)).stored (by omega)).stored (by omega)).stored (by omega)),(ab (ab (ab (ab (aj (aj (aA HG4.out))) (Nat.le_succ _)) (Nat.le_succ _)) (Nat.le_succ _)) (Nat.le_succ _))⟩


theorem we {g:Nat} {s:RS} {w:World} (h:Rdr w g s.1 s.2) (hs:RSok s):Calls Tryz.prog 269 #[aS g] w (gv DoneM.v DoneM.p DoneM.ok DoneM.ft w g (eP s)):=by
 have hgl:g<w.heap.size:=h.glt
 have hb1:=(aG (most:=255) hs).2
 have hk1:=(aG (most:=255) hs).1
 have HC1:=aa (fun (u:World) (hr:Rdr u g s.1 s.2)=>eO hr hs)
 obtain ⟨n1,hn1⟩:∃n,(numS 255 s).1=n:=⟨_,rfl⟩
 obtain ⟨s1,hs1⟩:∃t,(numS 255 s).2=t:=⟨_,rfl⟩
 rw [hn1] at hb1
 rw [hs1] at hk1
 simp only [hn1,hs1] at HC1
 have hb2:=(aO hk1).2
 have hk2:=(aO hk1).1
 have HC2:=aa (fun (u:World) (hr:Rdr u g s1.1 s1.2)=>ci hr hk1)
 obtain ⟨n2,hn2⟩:∃n,(aC s1).1=n:=⟨_,rfl⟩
 obtain ⟨s2,hs2⟩:∃t,(aC s1).2=t:=⟨_,rfl⟩
 rw [hn2] at hb2
 rw [hs2] at hk2
 simp only [hn2,hs2] at HC2
 have hk3:=wd hk2
 have HC3:=aa (fun (u:World) (hr:Rdr u g s2.1 s2.2)=>te hr hk2)
 obtain ⟨n3,hn3⟩:∃n,(repS s2).1=n:=⟨_,rfl⟩
 obtain ⟨s3,hs3⟩:∃t,(repS s2).2=t:=⟨_,rfl⟩
 rw [hs3] at hk3
 simp only [show repS s2=(n3,s3) by rw [<- hn3,<- hs3]] at HC3
 have HP:=aa (show eP s=((((n1:Int),(n2:Int),n3):fY),s3) by unfold eP;simp only [hn1,hs1,hn2,hs2,hn3,hs3])
 have HB1:=aa hb1
 have HB2:=aa hb2
 rw [HP.out]
 have HG0:=aa (World.grownBy.refl ((w.alloc (.cells #[.pointer (some ⟨g,0,none⟩)] 283)).alloc (.cells #[.int .u8 0, .int .u64 0, .int .i64 0, .int .u64 0, .int .i64 0, .slice none 0 0] 106)).drew (some g))
 have HR0:=aa (show Rdr ((w.alloc (.cells #[.pointer (some ⟨g,0,none⟩)] 283)).alloc (.cells #[.int .u8 0, .int .u64 0, .int .i64 0, .int .u64 0, .int .i64 0, .slice none 0 0] 106)).drew g s.1 s.2 from ((h.made _).made _).drawn)
 have HBX:=aa (fun (u:World) (hu:(w.alloc (.cells #[.pointer (some ⟨g,0,none⟩)] 283)).grownBy u (some g))=>show u.cell? ⟨w.heap.size,0,none⟩=some (.pointer (some ⟨g,0,none⟩)) by
  have h1:=BoxAt.new w #[.pointer (some ⟨g,0,none⟩)] 283
  exact cell_of_row _ _ 0 _ _ _ (aB hu h1 (by omega)))
 have HZ:=aa (fun (u:World) (hu:((w.alloc (.cells #[.pointer (some ⟨g,0,none⟩)] 283)).alloc (.cells #[.int .u8 0, .int .u64 0, .int .i64 0, .int .u64 0, .int .i64 0, .slice none 0 0] 106)).drew.grownBy u (some g))=>show u.heap[w.heap.size+1]?=some (.cells #[.int .u8 0, .int .u64 0, .int .i64 0, .int .u64 0, .int .i64 0, .slice none 0 0] 106 (0,0)) from aB hu (by
  have:=BoxAt.new (w.alloc (.cells #[.pointer (some ⟨g,0,none⟩)] 283)) #[.int .u8 0, .int .u64 0, .int .i64 0, .int .u64 0, .int .i64 0, .slice none 0 0] 106
  have h2:((w.alloc (.cells #[.pointer (some ⟨g,0,none⟩)] 283)).alloc (.cells #[.int .u8 0, .int .u64 0, .int .i64 0, .int .u64 0, .int .i64 0, .slice none 0 0] 106)).heap[w.heap.size+1]?=some (.cells #[.int .u8 0, .int .u64 0, .int .i64 0, .int .u64 0, .int .i64 0, .slice none 0 0] 106 (0,0)):=by simpa [BoxAt] using this
  exact h2) (by omega))
 clear h hs hn1 hn2 hn3 hs1 hs2 hs3 hk1 hk2 hk3
 unfold aS
 go_enter Tryz.func269,Tryz.ntmps269
 go_wp2
 refine wp_region_held_drew (S:=fun w'=>w'.cell? ⟨w.heap.size,0,none⟩=some (.pointer (some ⟨g,0,none⟩))) (by kernel_rfl) (HBX.out _ (aj (aA HG0.out))) (fun hHeld => ?_)
 refine wpAnyH_take (i:=0) (oi:=⟨some 3,_,_,_,_,_⟩) (v := ?v1) rfl (by kernel_rfl) (by kernel_rfl) (by kernel_rfl) (fun _ _ _ h=>h) (Or.inl ⟨by rfl,?hy1⟩) (by assumption) ?rest1
 case hy1=>intro w hSw;(try dsimp only at hSw);go_simp <;> with_reducible rfl
 simp only [Act.put,List.setIfInBounds_toArray,List.set_cons_zero,List.set_cons_succ]
 refine wpAnyH_take (i:=2) (oi:=⟨some 5,_,_,_,_,_⟩) (v := ?v2) rfl (by kernel_rfl) (by kernel_rfl) (by kernel_rfl) (fun _ _ _ h=>h) (Or.inl ⟨by rfl,?hy2⟩) (by assumption) ?rest2
 case hy2=>intro w hSw;(try dsimp only at hSw);go_simp <;> with_reducible rfl
 simp only [Act.put,List.setIfInBounds_toArray,List.set_cons_zero,List.set_cons_succ]
 refine wpAnyH_take (i:=4) (oi:=⟨some 7,_,_,_,_,_⟩) (v := ?v3) rfl (by kernel_rfl) (by kernel_rfl) (by kernel_rfl) (fun _ _ _ h=>h) (Or.inl ⟨by rfl,?hy3⟩) (by assumption) ?rest3
 case hy3=>intro w hSw;(try dsimp only at hSw);go_simp <;> with_reducible rfl
 simp only [Act.put,List.setIfInBounds_toArray,List.set_cons_zero,List.set_cons_succ]
 refine wpAnyH_ready (rs:=[1]) (by kernel_rfl) (by simp) ?_
 refine AllReadyH.cons rfl (fun K hK => ?_) AllReadyH.nil
 go_simp
 go_wp2_with fail
 refine (HC1.out _ HR0.out).mono ?_
 rintro en w1 ⟨rfl,hr1,hg1⟩
 have HR1:=aa hr1
 have HG1:=aa (ag HG0.out hg1)
 clear hr1 hg1
 refine hK.out _ _ (HBX.out _ (aj (aA HG1.out))) (fun hHeld => ?_)
 clear hK K
 refine wpAnyH_ready (rs:=[3]) (by kernel_rfl) (by simp) ?_
 refine AllReadyH.cons rfl (fun K hK => ?_) AllReadyH.nil
 go_simp
 go_wp2_with fail
 refine (HC2.out _ HR1.out).mono ?_
 rintro en w2 ⟨rfl,hr2,hg2⟩
 have HR2:=aa hr2
 have HG2:=aa (ag HG1.out hg2)
 clear hr2 hg2
 refine hK.out _ _ (HBX.out _ (aj (aA HG2.out))) (fun hHeld => ?_)
 clear hK K
 refine wpAnyH_ready (rs:=[5]) (by kernel_rfl) (by simp) ?_
 refine AllReadyH.cons rfl (fun K hK => ?_) AllReadyH.nil
 go_simp
 go_wp2_with fail
 refine (HC3.out _ HR2.out).mono ?_
 rintro en w3 ⟨x3,rfl,hp3,ho3,hl3,hr3,hg3⟩
 obtain ⟨xe3,xi3,xs3,⟨xA3,xc3,xl3⟩⟩:=x3
 simp only [RepM.v,Sl.v]
 have HPP3:=aa hp3
 have HOK3:=aa ho3
 have HLI3:=aa hl3
 clear hp3 ho3 hl3
 have HR3:=aa hr3
 have HG3:=aa (ag HG2.out hg3)
 clear hr3 hg3
 refine hK.out _ _ (HBX.out _ (aj (aA HG3.out))) (fun hHeld => ?_)
 clear hK K
 refine wpAnyH_take (i:=6) (oi:=⟨some 9,_,_,_,_,_⟩) (v := ?v4) rfl (by kernel_rfl) (by kernel_rfl) (by kernel_rfl) (fun _ _ _ h=>h) (Or.inl ⟨by rfl,?hy4⟩) (by assumption) ?rest4
 case hy4=>intro w hSw;(try dsimp only at hSw);go_simp <;> with_reducible rfl
 simp only [Act.put,List.setIfInBounds_toArray,List.set_cons_zero,List.set_cons_succ]
 have hkz:=HZ.out _ HG3.out
 have q0:w3.cell? ⟨w.heap.size+1,0,none⟩=some (.int .u8 0):=by rw [cell_of_row _ _ 0 _ _ _ hkz];rfl
 have f0:w3.frozen? ⟨w.heap.size+1,0,none⟩=false:=by simp [World.frozen?,hkz]
 have q1:w3.cell? ⟨w.heap.size+1,1,none⟩=some (.int .u64 0):=by rw [cell_of_row _ _ 1 _ _ _ hkz];rfl
 have f1:w3.frozen? ⟨w.heap.size+1,1,none⟩=false:=by simp [World.frozen?,hkz]
 have q2:w3.cell? ⟨w.heap.size+1,2,none⟩=some (.int .i64 0):=by rw [cell_of_row _ _ 2 _ _ _ hkz];rfl
 have f2:w3.frozen? ⟨w.heap.size+1,2,none⟩=false:=by simp [World.frozen?,hkz]
 have q3:w3.cell? ⟨w.heap.size+1,3,none⟩=some (.int .u64 0):=by rw [cell_of_row _ _ 3 _ _ _ hkz];rfl
 have f3:w3.frozen? ⟨w.heap.size+1,3,none⟩=false:=by simp [World.frozen?,hkz]
 have q4:w3.cell? ⟨w.heap.size+1,4,none⟩=some (.int .i64 0):=by rw [cell_of_row _ _ 4 _ _ _ hkz];rfl
 have f4:w3.frozen? ⟨w.heap.size+1,4,none⟩=false:=by simp [World.frozen?,hkz]
 have q5:w3.cell? ⟨w.heap.size+1,5,none⟩=some (.slice none 0 0):=by rw [cell_of_row _ _ 5 _ _ _ hkz];rfl
 have f5:w3.frozen? ⟨w.heap.size+1,5,none⟩=false:=by simp [World.frozen?,hkz]
 clear hkz
 refine wpAnyH_ready (rs:=[7]) (by kernel_rfl) (by simp) ?_
 refine AllReadyH.cons rfl (fun K hK => ?_) AllReadyH.nil
 go_simp
 refine hK.out _ _ (HBX.out _ (ab (ab (ab (ab (ab (ab (aj (aA HG3.out)) (by simp)) (by simp)) (by simp)) (by simp)) (by simp)) (by simp))) (fun hHeld => ?_)
 clear hK K
 refine wpAnyH_done (by kernel_rfl) ?_ _
 go_wp2
 refine bodyPost_ret (v := .agg #[.int .u8 n1, .int .u64 n2, .int .i64 xe3, .int .u64 xi3, .int .i64 xs3, .slice xA3 xl3.length xc3]) (by simp [results,Tryz.results269,go_sem,q0,q1,q2,q3,q4,q5]) rfl ?_
 clear q0 f0 q1 f1 q2 f2 q3 f3 q4 f4 q5 f5
 have hzp:w.heap.size+1<w2.heap.size:=by
  have h1:=HG2.out.size
  simp at h1
  omega
 refine ⟨⟨n1,n2,xe3,xi3,xs3,xA3,xc3,xl3⟩,rfl,by rw [<- HPP3.out];rfl,Bv (by have:=HB1.out;unfold U8;simp;omega) (HB2.out) (af d9 (af d9 (af d9 (af d9 (af d9 (af d9 HOK3.out HLI3.out hzp) HLI3.out hzp) HLI3.out hzp) HLI3.out hzp) HLI3.out hzp) HLI3.out hzp),HLI3.out.more (by omega) (by simp),((((((HR3.out.stored (by omega)).stored (by omega)).stored (by omega)).stored (by omega)).stored (by omega)).stored (by omega)),(ab (ab (ab (ab (ab (ab (aj (aj (aA HG3.out))) (Nat.le_succ _)) (Nat.le_succ _)) (Nat.le_succ _)) (Nat.le_succ _)) (Nat.le_succ _)) (Nat.le_succ _))⟩


theorem wh {g:Nat} {s:RS} {w:World} (h:Rdr w g s.1 s.2) (hs:RSok s):Calls Tryz.prog 271 #[aS g] w (gv celV (fun c=>(c.1,c.2.1,c.2.2.1,c.2.2.2)) (fun _ _ c=>jm c) noFt w g (celS s)):=by
 have hgl:g<w.heap.size:=h.glt
 have hb1:=(aO hs).2
 have hk1:=(aO hs).1
 have HC1:=aa (fun (u:World) (hr:Rdr u g s.1 s.2)=>ci hr hs)
 obtain ⟨n1,hn1⟩:∃n,(aC s).1=n:=⟨_,rfl⟩
 obtain ⟨s1,hs1⟩:∃t,(aC s).2=t:=⟨_,rfl⟩
 rw [hn1] at hb1
 rw [hs1] at hk1
 simp only [hn1,hs1] at HC1
 have hb2:=(aG (most:=255) hk1).2
 have hk2:=(aG (most:=255) hk1).1
 have HC2:=aa (fun (u:World) (hr:Rdr u g s1.1 s1.2)=>eO hr hk1)
 obtain ⟨n2,hn2⟩:∃n,(numS 255 s1).1=n:=⟨_,rfl⟩
 obtain ⟨s2,hs2⟩:∃t,(numS 255 s1).2=t:=⟨_,rfl⟩
 rw [hn2] at hb2
 rw [hs2] at hk2
 simp only [hn2,hs2] at HC2
 have hb3:=(aG (most:=1000) hk2).2
 have hk3:=(aG (most:=1000) hk2).1
 have HC3:=aa (fun (u:World) (hr:Rdr u g s2.1 s2.2)=>ce hr hk2)
 obtain ⟨n3,hn3⟩:∃n,(numS 1000 s2).1=n:=⟨_,rfl⟩
 obtain ⟨s3,hs3⟩:∃t,(numS 1000 s2).2=t:=⟨_,rfl⟩
 rw [hn3] at hb3
 rw [hs3] at hk3
 simp only [hn3,hs3] at HC3
 have hb4:=(iu hk3).2
 have hk4:=(iu hk3).1
 have HC4:=aa (fun (u:World) (hr:Rdr u g s3.1 s3.2)=>Aj hr hk3)
 obtain ⟨n4,hn4⟩:∃n,(intS s3).1=n:=⟨_,rfl⟩
 obtain ⟨s4,hs4⟩:∃t,(intS s3).2=t:=⟨_,rfl⟩
 rw [hn4] at hb4
 rw [hs4] at hk4
 simp only [hn4,hs4] at HC4
 have HP:=aa (show celS s=(((n1:Int),(n2:Int),(n3:Int),n4),s4) by unfold celS;simp only [hn1,hs1,hn2,hs2,hn3,hs3,hn4,hs4])
 have HB1:=aa hb1
 have HB2:=aa hb2
 have HB3:=aa hb3
 have HB4:=aa hb4
 rw [HP.out]
 have HG0:=aa (World.grownBy.refl ((w.alloc (.cells #[.pointer (some ⟨g,0,none⟩)] 283)).alloc (.cells #[.int .u64 0, .int .u8 0, .int .i64 0, .int .i64 0] 108)).drew (some g))
 have HR0:=aa (show Rdr ((w.alloc (.cells #[.pointer (some ⟨g,0,none⟩)] 283)).alloc (.cells #[.int .u64 0, .int .u8 0, .int .i64 0, .int .i64 0] 108)).drew g s.1 s.2 from ((h.made _).made _).drawn)
 have HBX:=aa (fun (u:World) (hu:(w.alloc (.cells #[.pointer (some ⟨g,0,none⟩)] 283)).grownBy u (some g))=>show u.cell? ⟨w.heap.size,0,none⟩=some (.pointer (some ⟨g,0,none⟩)) by
  have h1:=BoxAt.new w #[.pointer (some ⟨g,0,none⟩)] 283
  exact cell_of_row _ _ 0 _ _ _ (aB hu h1 (by omega)))
 have HZ:=aa (fun (u:World) (hu:((w.alloc (.cells #[.pointer (some ⟨g,0,none⟩)] 283)).alloc (.cells #[.int .u64 0, .int .u8 0, .int .i64 0, .int .i64 0] 108)).drew.grownBy u (some g))=>show u.heap[w.heap.size+1]?=some (.cells #[.int .u64 0, .int .u8 0, .int .i64 0, .int .i64 0] 108 (0,0)) from aB hu (by
  have:=BoxAt.new (w.alloc (.cells #[.pointer (some ⟨g,0,none⟩)] 283)) #[.int .u64 0, .int .u8 0, .int .i64 0, .int .i64 0] 108
  have h2:((w.alloc (.cells #[.pointer (some ⟨g,0,none⟩)] 283)).alloc (.cells #[.int .u64 0, .int .u8 0, .int .i64 0, .int .i64 0] 108)).heap[w.heap.size+1]?=some (.cells #[.int .u64 0, .int .u8 0, .int .i64 0, .int .i64 0] 108 (0,0)):=by simpa [BoxAt] using this
  exact h2) (by omega))
 clear h hs hn1 hn2 hn3 hn4 hs1 hs2 hs3 hs4 hk1 hk2 hk3 hk4
 unfold aS
 go_enter Tryz.func271,Tryz.ntmps271
 go_wp2
 go_region_held_law (fun w'=>w'.cell? ⟨w.heap.size,0,none⟩=some (.pointer (some ⟨g,0,none⟩)))
  (first|exact HBX.out _ (aj (aA HG0.out))|exact HBX.out _ (aj (aA HG1.out))|exact HBX.out _ (aj (aA HG2.out))|exact HBX.out _ (aj (aA HG3.out))|exact HBX.out _ (aj (aA HG4.out))|exact HBX.out _ (ab (ab (ab (ab (aj (aA HG4.out)) (by simp)) (by simp)) (by simp)) (by simp)))
  (first|(go_simp;go_at_call 264;refine (HC1.out _ HR0.out).mono ?_;rintro en w1 ⟨rfl,hr1,hg1⟩;(have HR1:=aa hr1);(have HGG1:=aa hg1);(have HG1:=aa (ag HG0.out hg1));clear hr1 hg1)|(go_simp;go_at_call 263;refine (HC2.out _ HR1.out).mono ?_;rintro en w2 ⟨rfl,hr2,hg2⟩;(have HR2:=aa hr2);(have HGG2:=aa hg2);(have HG2:=aa (ag HG1.out hg2));clear hr2 hg2)|(go_simp;go_at_call 265;refine (HC3.out _ HR2.out).mono ?_;rintro en w3 ⟨rfl,hr3,hg3⟩;(have HR3:=aa hr3);(have HGG3:=aa hg3);(have HG3:=aa (ag HG2.out hg3));clear hr3 hg3)|(go_simp;go_at_call 267;refine (HC4.out _ HR3.out).mono ?_;rintro en w4 ⟨rfl,hr4,hg4⟩;(have HR4:=aa hr4);(have HGG4:=aa hg4);(have HG4:=aa (ag HG3.out hg4));clear hr4 hg4;(have hkz:=HZ.out _ HG4.out);(have q0:w4.cell? ⟨w.heap.size+1,0,none⟩=some (.int .u64 0):=(by rw [cell_of_row _ _ 0 _ _ _ hkz];rfl));(have f0:w4.frozen? ⟨w.heap.size+1,0,none⟩=false:=(by simp [World.frozen?,hkz]));(have q1:w4.cell? ⟨w.heap.size+1,1,none⟩=some (.int .u8 0):=(by rw [cell_of_row _ _ 1 _ _ _ hkz];rfl));(have f1:w4.frozen? ⟨w.heap.size+1,1,none⟩=false:=(by simp [World.frozen?,hkz]));(have q2:w4.cell? ⟨w.heap.size+1,2,none⟩=some (.int .i64 0):=(by rw [cell_of_row _ _ 2 _ _ _ hkz];rfl));(have f2:w4.frozen? ⟨w.heap.size+1,2,none⟩=false:=(by simp [World.frozen?,hkz]));(have q3:w4.cell? ⟨w.heap.size+1,3,none⟩=some (.int .i64 0):=(by rw [cell_of_row _ _ 3 _ _ _ hkz];rfl));(have f3:w4.frozen? ⟨w.heap.size+1,3,none⟩=false:=(by simp [World.frozen?,hkz]));clear hkz))
 go_wp2
 refine bodyPost_ret (v := .agg #[.int .u64 n1, .int .u8 n2, .int .i64 n3, .int .i64 n4]) (by simp [results,Tryz.results271,go_sem,q0,q1,q2,q3]) rfl ?_
 clear q0 f0 q1 f1 q2 f2 q3 f3
 refine ⟨(n1,n2,n3,n4),rfl,rfl,(show jm _ from ⟨HB1.out,by have:=HB2.out;unfold U8;simp;omega,by have:=HB3.out;unfold I64;simp;omega,HB4.out⟩),fun _ h=>h.elim,((((HR4.out.stored (by omega)).stored (by omega)).stored (by omega)).stored (by omega)),(ab (ab (ab (ab (aj (aj (aA HG4.out))) (Nat.le_succ _)) (Nat.le_succ _)) (Nat.le_succ _)) (Nat.le_succ _))⟩


theorem wi {g:Nat} {s:RS} {w:World} (h:Rdr w g s.1 s.2) (hs:RSok s):Calls Tryz.prog 273 #[aS g] w (gv mrkV (fun c=>(c.1,c.2.1,c.2.2)) (fun _ _ c=>gP c) noFt w g (mrkS s)):=by
 have hgl:g<w.heap.size:=h.glt
 have hb1:=(aG (most:=255) hs).2
 have hk1:=(aG (most:=255) hs).1
 have HC1:=aa (fun (u:World) (hr:Rdr u g s.1 s.2)=>eO hr hs)
 obtain ⟨n1,hn1⟩:∃n,(numS 255 s).1=n:=⟨_,rfl⟩
 obtain ⟨s1,hs1⟩:∃t,(numS 255 s).2=t:=⟨_,rfl⟩
 rw [hn1] at hb1
 rw [hs1] at hk1
 simp only [hn1,hs1] at HC1
 have hb2:=(aO hk1).2
 have hk2:=(aO hk1).1
 have HC2:=aa (fun (u:World) (hr:Rdr u g s1.1 s1.2)=>ci hr hk1)
 obtain ⟨n2,hn2⟩:∃n,(aC s1).1=n:=⟨_,rfl⟩
 obtain ⟨s2,hs2⟩:∃t,(aC s1).2=t:=⟨_,rfl⟩
 rw [hn2] at hb2
 rw [hs2] at hk2
 simp only [hn2,hs2] at HC2
 have hb3:=(aO hk2).2
 have hk3:=(aO hk2).1
 have HC3:=aa (fun (u:World) (hr:Rdr u g s2.1 s2.2)=>ci hr hk2)
 obtain ⟨n3,hn3⟩:∃n,(aC s2).1=n:=⟨_,rfl⟩
 obtain ⟨s3,hs3⟩:∃t,(aC s2).2=t:=⟨_,rfl⟩
 rw [hn3] at hb3
 rw [hs3] at hk3
 simp only [hn3,hs3] at HC3
 have HP:=aa (show mrkS s=(((n1:Int),(n2:Int),(n3:Int)),s3) by unfold mrkS;simp only [hn1,hs1,hn2,hs2,hn3,hs3])
 have HB1:=aa hb1
 have HB2:=aa hb2
 have HB3:=aa hb3
 rw [HP.out]
 have HG0:=aa (World.grownBy.refl ((w.alloc (.cells #[.pointer (some ⟨g,0,none⟩)] 283)).alloc (.cells #[.int .u8 0, .int .u64 0, .int .u64 0] 110)).drew (some g))
 have HR0:=aa (show Rdr ((w.alloc (.cells #[.pointer (some ⟨g,0,none⟩)] 283)).alloc (.cells #[.int .u8 0, .int .u64 0, .int .u64 0] 110)).drew g s.1 s.2 from ((h.made _).made _).drawn)
 have HBX:=aa (fun (u:World) (hu:(w.alloc (.cells #[.pointer (some ⟨g,0,none⟩)] 283)).grownBy u (some g))=>show u.cell? ⟨w.heap.size,0,none⟩=some (.pointer (some ⟨g,0,none⟩)) by
  have h1:=BoxAt.new w #[.pointer (some ⟨g,0,none⟩)] 283
  exact cell_of_row _ _ 0 _ _ _ (aB hu h1 (by omega)))
 have HZ:=aa (fun (u:World) (hu:((w.alloc (.cells #[.pointer (some ⟨g,0,none⟩)] 283)).alloc (.cells #[.int .u8 0, .int .u64 0, .int .u64 0] 110)).drew.grownBy u (some g))=>show u.heap[w.heap.size+1]?=some (.cells #[.int .u8 0, .int .u64 0, .int .u64 0] 110 (0,0)) from aB hu (by
  have:=BoxAt.new (w.alloc (.cells #[.pointer (some ⟨g,0,none⟩)] 283)) #[.int .u8 0, .int .u64 0, .int .u64 0] 110
  have h2:((w.alloc (.cells #[.pointer (some ⟨g,0,none⟩)] 283)).alloc (.cells #[.int .u8 0, .int .u64 0, .int .u64 0] 110)).heap[w.heap.size+1]?=some (.cells #[.int .u8 0, .int .u64 0, .int .u64 0] 110 (0,0)):=by simpa [BoxAt] using this
  exact h2) (by omega))
 clear h hs hn1 hn2 hn3 hs1 hs2 hs3 hk1 hk2 hk3
 unfold aS
 go_enter Tryz.func273,Tryz.ntmps273
 go_wp2
 go_region_held_law (fun w'=>w'.cell? ⟨w.heap.size,0,none⟩=some (.pointer (some ⟨g,0,none⟩)))
  (first|exact HBX.out _ (aj (aA HG0.out))|exact HBX.out _ (aj (aA HG1.out))|exact HBX.out _ (aj (aA HG2.out))|exact HBX.out _ (aj (aA HG3.out))|exact HBX.out _ (ab (ab (ab (aj (aA HG3.out)) (by simp)) (by simp)) (by simp)))
  (first|(go_simp;go_at_call 263;refine (HC1.out _ HR0.out).mono ?_;rintro en w1 ⟨rfl,hr1,hg1⟩;(have HR1:=aa hr1);(have HGG1:=aa hg1);(have HG1:=aa (ag HG0.out hg1));clear hr1 hg1)|(go_simp;go_at_call 264;refine (HC2.out _ HR1.out).mono ?_;rintro en w2 ⟨rfl,hr2,hg2⟩;(have HR2:=aa hr2);(have HGG2:=aa hg2);(have HG2:=aa (ag HG1.out hg2));clear hr2 hg2)|(go_simp;go_at_call 264;refine (HC3.out _ HR2.out).mono ?_;rintro en w3 ⟨rfl,hr3,hg3⟩;(have HR3:=aa hr3);(have HGG3:=aa hg3);(have HG3:=aa (ag HG2.out hg3));clear hr3 hg3;(have hkz:=HZ.out _ HG3.out);(have q0:w3.cell? ⟨w.heap.size+1,0,none⟩=some (.int .u8 0):=(by rw [cell_of_row _ _ 0 _ _ _ hkz];rfl));(have f0:w3.frozen? ⟨w.heap.size+1,0,none⟩=false:=(by simp [World.frozen?,hkz]));(have q1:w3.cell? ⟨w.heap.size+1,1,none⟩=some (.int .u64 0):=(by rw [cell_of_row _ _ 1 _ _ _ hkz];rfl));(have f1:w3.frozen? ⟨w.heap.size+1,1,none⟩=false:=(by simp [World.frozen?,hkz]));(have q2:w3.cell? ⟨w.heap.size+1,2,none⟩=some (.int .u64 0):=(by rw [cell_of_row _ _ 2 _ _ _ hkz];rfl));(have f2:w3.frozen? ⟨w.heap.size+1,2,none⟩=false:=(by simp [World.frozen?,hkz]));clear hkz))
 go_wp2
 refine bodyPost_ret (v := .agg #[.int .u8 n1, .int .u64 n2, .int .u64 n3]) (by simp [results,Tryz.results273,go_sem,q0,q1,q2]) rfl ?_
 clear q0 f0 q1 f1 q2 f2
 refine ⟨(n1,n2,n3),rfl,rfl,(show gP _ from ⟨by have:=HB1.out;unfold U8;simp;omega,HB2.out,HB3.out⟩),fun _ h=>h.elim,(((HR3.out.stored (by omega)).stored (by omega)).stored (by omega)),(ab (ab (ab (aj (aj (aA HG3.out))) (Nat.le_succ _)) (Nat.le_succ _)) (Nat.le_succ _))⟩


def regS (s:RS):RegP × RS :=
 let k:=numS 255 s
 let a:=aC k.2
 let b:=numS 1000 a.2
 let c:=varS b.2
 let d:=aX 1000 eP c.2
 let e:=aX 1000 celS d.2
 let f:=aC e.2
 let m:=aX 1000 mrkS f.2
 if k.1=0 then (zeroP,k.2) else (⟨(k.1:Int),(a.1:Int),(b.1:Int),c.1,d.1,e.1,(f.1:Int),m.1⟩,m.2)
theorem cY (lo hi:Nat):Lies RegM.ft zeroM lo hi:=fun k hk=>by
 rcases hk with (⟨ad,e,_⟩ | ⟨x,hx,_⟩)|(⟨ad,e,_⟩ | ⟨x,hx,_⟩)|(⟨ad,e,_⟩ | ⟨x,hx,_⟩)|(⟨ad,e,_⟩ | ⟨x,hx,_⟩)
 all_goals first|cases e|cases hx

theorem zu {g:Nat} {s:RS} {w:World} (h:Rdr w g s.1 s.2) (hs:RSok s):Calls Tryz.prog 205 #[aS g] w (gv RegM.v RegM.p RegM.ok RegM.ft w g (regS s)):=by
 have hgl:g<w.heap.size:=h.glt
 have hb1:=(aG (most:=255) hs).2
 have hk1:=(aG (most:=255) hs).1
 have HC1:=aa (fun (u:World) (hr:Rdr u g s.1 s.2)=>eO hr hs)
 obtain ⟨n1,hn1⟩:∃n,(numS 255 s).1=n:=⟨_,rfl⟩
 obtain ⟨s1,hs1⟩:∃t,(numS 255 s).2=t:=⟨_,rfl⟩
 rw [hn1] at hb1
 rw [hs1] at hk1
 simp only [hn1,hs1] at HC1
 have HN1:=aa (show numS 255 s=(n1,s1) by rw [<- hn1,<- hs1])
 have HB1:=aa hb1
 have HK1:=aa hk1
 have HR0:=aa (show Rdr ((w.alloc (.cells #[.pointer (some ⟨g,0,none⟩)] 283)).alloc (.cells #[.int .u8 0, .int .u64 0, .int .i64 0, .slice none 0 0, .slice none 0 0, .slice none 0 0, .int .u64 0, .slice none 0 0] 31)) g s.1 s.2 from (h.made _).made _)
 have HG0:=aa (World.grownBy.refl ((w.alloc (.cells #[.pointer (some ⟨g,0,none⟩)] 283)).alloc (.cells #[.int .u8 0, .int .u64 0, .int .i64 0, .slice none 0 0, .slice none 0 0, .slice none 0 0, .int .u64 0, .slice none 0 0] 31)) (some g))
 have HBX0:=aa (show BoxAt ((w.alloc (.cells #[.pointer (some ⟨g,0,none⟩)] 283)).alloc (.cells #[.int .u8 0, .int .u64 0, .int .i64 0, .slice none 0 0, .slice none 0 0, .slice none 0 0, .int .u64 0, .slice none 0 0] 31)) w.heap.size #[.pointer (some ⟨g,0,none⟩)] 283 from (BoxAt.new w _ _).alloc (.cells #[.int .u8 0, .int .u64 0, .int .i64 0, .slice none 0 0, .slice none 0 0, .slice none 0 0, .int .u64 0, .slice none 0 0] 31))
 have HZ0:=aa (show BoxAt ((w.alloc (.cells #[.pointer (some ⟨g,0,none⟩)] 283)).alloc (.cells #[.int .u8 0, .int .u64 0, .int .i64 0, .slice none 0 0, .slice none 0 0, .slice none 0 0, .int .u64 0, .slice none 0 0] 31)) (w.heap.size+1) #[.int .u8 0, .int .u64 0, .int .i64 0, .slice none 0 0, .slice none 0 0, .slice none 0 0, .int .u64 0, .slice none 0 0] 31 from by
  have h1:=BoxAt.new (w.alloc (.cells #[.pointer (some ⟨g,0,none⟩)] 283)) #[.int .u8 0, .int .u64 0, .int .i64 0, .slice none 0 0, .slice none 0 0, .slice none 0 0, .int .u64 0, .slice none 0 0] 31
  simpa using h1)
 have HFAR:=aa (fun (u u':World) (b:Nat) (cs:Array Value) (t:TypeId) (hu:u.grownBy u' (some g)) (hb:BoxAt u b cs t) (hne:g≠b)=>show BoxAt u' b cs t from aB hu hb hne)
 clear h hs hn1 hs1 hb1 hk1
 by_cases k0:n1=0
 case pos =>
  have HP:=aa (show regS s=(zeroP,s1) by unfold regS;simp [HN1.out,k0])
  rw [HP.out]
  have hd0:((n1:Int) == 0)=true:=by simp [k0]
  have HK0:=aa k0
  clear k0
  unfold aS
  go_enter Tryz.func205,Tryz.ntmps205
  go_wp2_with fail
  refine (HC1.out _ HR0.out).mono ?_
  rintro en w1 ⟨rfl,hr1,hg1⟩
  have HR1w:=aa hr1
  have HG1w:=aa (show w.grownBy w1 (some g) from aj (aj hg1))
  have HR1:=aa (hr1.made (.cells #[.int .u8 n1, .int .u64 0, .int .i64 0, .slice none 0 0, .slice none 0 0, .slice none 0 0, .int .u64 0, .slice none 0 0] 31))
  have hz12:w.heap.size+2<=w1.heap.size:=by have h:=hg1.size;simpa using h
  have HBX1:=aa ((HFAR.out _ _ _ _ _ hg1 HBX0.out (by omega)).alloc (.cells #[.int .u8 n1, .int .u64 0, .int .i64 0, .slice none 0 0, .slice none 0 0, .slice none 0 0, .int .u64 0, .slice none 0 0] 31))
  have HZW:=aa (HFAR.out _ _ _ _ _ hg1 HZ0.out (by omega))
  have HZ1:=aa ((HFAR.out _ _ _ _ _ hg1 HZ0.out (by omega)).alloc (.cells #[.int .u8 n1, .int .u64 0, .int .i64 0, .slice none 0 0, .slice none 0 0, .slice none 0 0, .int .u64 0, .slice none 0 0] 31))
  have HT1:=aa (BoxAt.new w1 #[.int .u8 n1, .int .u64 0, .int .i64 0, .slice none 0 0, .slice none 0 0, .slice none 0 0, .int .u64 0, .slice none 0 0] 31)
  have HG1:=aa (show w.grownBy (w1.alloc (.cells #[.int .u8 n1, .int .u64 0, .int .i64 0, .slice none 0 0, .slice none 0 0, .slice none 0 0, .int .u64 0, .slice none 0 0] 31)) (some g) from ag (aj (aj hg1)) (World.grownBy_alloc _ _ _))
  clear hr1 hg1
  have hgt:g<w1.heap.size:=by omega
  have hzt:w.heap.size<w1.heap.size:=by omega
  have hzt1:w.heap.size+1<w1.heap.size:=by omega
  have hn255:n1<=255:=HB1.out
  have r0:=(HZW.out.cell 0).trans (show _=some (.int .u8 0:Value) from rfl)
  have g0:=HZW.out.frozen 0
  have r1:=(HZW.out.cell 1).trans (show _=some (.int .u64 0:Value) from rfl)
  have g1:=HZW.out.frozen 1
  have r2:=(HZW.out.cell 2).trans (show _=some (.int .i64 0:Value) from rfl)
  have g2:=HZW.out.frozen 2
  have r3:=(HZW.out.cell 3).trans (show _=some (.slice none 0 0:Value) from rfl)
  have g3:=HZW.out.frozen 3
  have r4:=(HZW.out.cell 4).trans (show _=some (.slice none 0 0:Value) from rfl)
  have g4:=HZW.out.frozen 4
  have r5:=(HZW.out.cell 5).trans (show _=some (.slice none 0 0:Value) from rfl)
  have g5:=HZW.out.frozen 5
  have r6:=(HZW.out.cell 6).trans (show _=some (.int .u64 0:Value) from rfl)
  have g6:=HZW.out.frozen 6
  have r7:=(HZW.out.cell 7).trans (show _=some (.slice none 0 0:Value) from rfl)
  have g7:=HZW.out.frozen 7
  go_wp2
  refine bodyPost_ret (v := .agg #[.int .u8 n1, .int .u64 0, .int .i64 0, .slice none 0 0, .slice none 0 0, .slice none 0 0, .int .u64 0, .slice none 0 0]) (by simp [results,Tryz.results205,go_sem,r0,r1,r2,r3,r4,r5,r6,r7,hzt1]) rfl ?_
  clear r0 g0 r1 g1 r2 g2 r3 g3 r4 g4 r5 g5 r6 g6 r7 g7
  exact ⟨⟨n1,0,0,⟨none,0,[]⟩,⟨none,0,[]⟩,⟨none,0,[]⟩,0,⟨none,0,[]⟩⟩,rfl,by unfold RegM.p zeroP;simp [HK0.out],⟨⟨by rw [HK0.out];exact (bA w 0).1.1,(bA w 0).1.2⟩,(bA _ _).2⟩,cY _ _,(((((((((HR1w.out.stored (by omega)).stored (by omega)).stored (by omega)).stored (by omega)).stored (by omega)).stored (by omega)).stored (by omega)).stored (by omega)).made _),(ag (ab (ab (ab (ab (ab (ab (ab (ab HG1w.out (by omega)) (by omega)) (by omega)) (by omega)) (by omega)) (by omega)) (by omega)) (by omega)) (World.grownBy_alloc _ _ _))⟩
 have hd0:((n1:Int) == 0)=false:=beq_eq_false_iff_ne.2 (by omega)
 have HC2:=aa (fun (u:World) (hr:Rdr u g s1.1 s1.2)=>ci hr HK1.out)
 have hk2:=(aO HK1.out).1
 have HU2:=aa (aO HK1.out).2
 obtain ⟨m2,hm2⟩:∃n,(aC s1).1=n:=⟨_,rfl⟩
 obtain ⟨s2,hs2⟩:∃t,(aC s1).2=t:=⟨_,rfl⟩
 rw [hs2] at hk2
 rw [hm2] at HU2
 have HN2:=aa (show aC s1=(m2,s2) by rw [<- hm2,<- hs2])
 simp only [HN2.out] at HC2
 have HK2:=aa hk2
 clear hk2 hm2 hs2
 have HC3:=aa (fun (u:World) (hr:Rdr u g s2.1 s2.2)=>ce hr HK2.out)
 have hk3:=(aG (most:=1000) HK2.out).1
 have HU3:=aa (aG (most:=1000) HK2.out).2
 obtain ⟨m3,hm3⟩:∃n,(numS 1000 s2).1=n:=⟨_,rfl⟩
 obtain ⟨s3,hs3⟩:∃t,(numS 1000 s2).2=t:=⟨_,rfl⟩
 rw [hs3] at hk3
 rw [hm3] at HU3
 have HN3:=aa (show numS 1000 s2=(m3,s3) by rw [<- hm3,<- hs3])
 simp only [HN3.out] at HC3
 have HK3:=aa hk3
 clear hk3 hm3 hs3
 have HC4:=aa (fun (u:World) (hr:Rdr u g s3.1 s3.2)=>kh hr HK3.out)
 have hk4:=mP HK3.out
 obtain ⟨m4,hm4⟩:∃n,(varS s3).1=n:=⟨_,rfl⟩
 obtain ⟨s4,hs4⟩:∃t,(varS s3).2=t:=⟨_,rfl⟩
 rw [hs4] at hk4
 have HN4:=aa (show varS s3=(m4,s4) by rw [<- hm4,<- hs4])
 simp only [HN4.out] at HC4
 have HK4:=aa hk4
 clear hk4 hm4 hs4
 unfold aS at HC4
 have HC5:=aa (fun (u:World) (hr:Rdr u g s4.1 s4.2)=>mM (w:=u) DoneM.p 269 #[aS g] #[] eP hr HK4.out (fun _ h=>mQ h) (fun _ _=>rfl) (fun w1 s1 _ hr hs1=>we hr hs1))
 have hk5:=eE (most:=1000) (fun _ h=>mQ h) HK4.out
 obtain ⟨m5,hm5⟩:∃n,(aX 1000 eP s4).1=n:=⟨_,rfl⟩
 obtain ⟨s5,hs5⟩:∃t,(aX 1000 eP s4).2=t:=⟨_,rfl⟩
 rw [hs5] at hk5
 have HN5:=aa (show aX 1000 eP s4=(m5,s5) by rw [<- hm5,<- hs5])
 simp only [HN5.out] at HC5
 have HK5:=aa hk5
 clear hk5 hm5 hs5
 unfold aS at HC5
 have HC6:=aa (fun (u:World) (hr:Rdr u g s5.1 s5.2)=>mN (w:=u) (fun c=>(c.1,c.2.1,c.2.2.1,c.2.2.2)) 271 #[aS g] #[] celS hr HK5.out (fun _ h=>p7 h) (fun _ _=>rfl) (fun w1 s1 _ hr hs1=>wh hr hs1))
 have hk6:=eE (most:=1000) (fun _ h=>p7 h) HK5.out
 obtain ⟨m6,hm6⟩:∃n,(aX 1000 celS s5).1=n:=⟨_,rfl⟩
 obtain ⟨s6,hs6⟩:∃t,(aX 1000 celS s5).2=t:=⟨_,rfl⟩
 rw [hs6] at hk6
 have HN6:=aa (show aX 1000 celS s5=(m6,s6) by rw [<- hm6,<- hs6])
 simp only [HN6.out] at HC6
 have HK6:=aa hk6
 clear hk6 hm6 hs6
 unfold aS at HC6
 have HC7:=aa (fun (u:World) (hr:Rdr u g s6.1 s6.2)=>ci hr HK6.out)
 have hk7:=(aO HK6.out).1
 have HU7:=aa (aO HK6.out).2
 obtain ⟨m7,hm7⟩:∃n,(aC s6).1=n:=⟨_,rfl⟩
 obtain ⟨s7,hs7⟩:∃t,(aC s6).2=t:=⟨_,rfl⟩
 rw [hs7] at hk7
 rw [hm7] at HU7
 have HN7:=aa (show aC s6=(m7,s7) by rw [<- hm7,<- hs7])
 simp only [HN7.out] at HC7
 have HK7:=aa hk7
 clear hk7 hm7 hs7
 have HC8:=aa (fun (u:World) (hr:Rdr u g s7.1 s7.2)=>mO (w:=u) (fun c=>(c.1,c.2.1,c.2.2)) 273 #[aS g] #[] mrkS hr HK7.out (fun _ h=>p8 h) (fun _ _=>rfl) (fun w1 s1 _ hr hs1=>wi hr hs1))
 have hk8:=eE (most:=1000) (fun _ h=>p8 h) HK7.out
 obtain ⟨m8,hm8⟩:∃n,(aX 1000 mrkS s7).1=n:=⟨_,rfl⟩
 obtain ⟨s8,hs8⟩:∃t,(aX 1000 mrkS s7).2=t:=⟨_,rfl⟩
 rw [hs8] at hk8
 have HN8:=aa (show aX 1000 mrkS s7=(m8,s8) by rw [<- hm8,<- hs8])
 simp only [HN8.out] at HC8
 have HK8:=aa hk8
 clear hk8 hm8 hs8
 unfold aS at HC8
 have HP:=aa (show regS s=((⟨(n1:Int),(m2:Int),(m3:Int),m4,m5,m6,(m7:Int),m8⟩:RegP),s8) by unfold regS;simp only [HN1.out,HN2.out,HN3.out,HN4.out,HN5.out,HN6.out,HN7.out,HN8.out];rw [if_neg k0])
 rw [HP.out]
 have hd0':=hd0
 clear hd0
 unfold aS
 go_enter Tryz.func205,Tryz.ntmps205
 go_wp2_with fail
 refine (HC1.out _ HR0.out).mono ?_
 rintro en w1 ⟨rfl,hr1,hg1⟩
 have HR1w:=aa hr1
 have HG1w:=aa (show w.grownBy w1 (some g) from aj (aj hg1))
 have HR1:=aa (hr1.made (.cells #[.int .u8 n1, .int .u64 0, .int .i64 0, .slice none 0 0, .slice none 0 0, .slice none 0 0, .int .u64 0, .slice none 0 0] 31))
 have hz12:w.heap.size+2<=w1.heap.size:=by have h:=hg1.size;simpa using h
 have HBX1:=aa ((HFAR.out _ _ _ _ _ hg1 HBX0.out (by omega)).alloc (.cells #[.int .u8 n1, .int .u64 0, .int .i64 0, .slice none 0 0, .slice none 0 0, .slice none 0 0, .int .u64 0, .slice none 0 0] 31))
 have HZW:=aa (HFAR.out _ _ _ _ _ hg1 HZ0.out (by omega))
 have HZ1:=aa ((HFAR.out _ _ _ _ _ hg1 HZ0.out (by omega)).alloc (.cells #[.int .u8 n1, .int .u64 0, .int .i64 0, .slice none 0 0, .slice none 0 0, .slice none 0 0, .int .u64 0, .slice none 0 0] 31))
 have HT1:=aa (BoxAt.new w1 #[.int .u8 n1, .int .u64 0, .int .i64 0, .slice none 0 0, .slice none 0 0, .slice none 0 0, .int .u64 0, .slice none 0 0] 31)
 have HG1:=aa (show w.grownBy (w1.alloc (.cells #[.int .u8 n1, .int .u64 0, .int .i64 0, .slice none 0 0, .slice none 0 0, .slice none 0 0, .int .u64 0, .slice none 0 0] 31)) (some g) from ag (aj (aj hg1)) (World.grownBy_alloc _ _ _))
 clear hr1 hg1
 have hgt:g<w1.heap.size:=by omega
 have hzt:w.heap.size<w1.heap.size:=by omega
 have hzt1:w.heap.size+1<w1.heap.size:=by omega
 have hn255:n1<=255:=HB1.out
 have hd0:=hd0'
 clear hd0'
 clear HP HN1 HN2 HN3 HN4 HN5 HN6 HN7 HN8 k0
 have hcx:=HBX1.out.cell
 have hct:=HT1.out.cell
 have hlt0:w1.heap.size<(w1.alloc (.cells #[.int .u8 n1, .int .u64 0, .int .i64 0, .slice none 0 0, .slice none 0 0, .slice none 0 0, .int .u64 0, .slice none 0 0] 31)).heap.size:=by simp
 go_wp2_with fail
 clear hcx hct hlt0
 refine (HC2.out _ HR1.out).mono ?_
 rintro en v2 ⟨rfl,hr,hg⟩
 have HR2:=aa hr
 have HG2:=aa (ag HG1.out hg)
 have HT2:=aa (HFAR.out _ _ _ _ _ hg HT1.out (by omega))
 have HZ2:=aa (HFAR.out _ _ _ _ _ hg HZ1.out (by omega))
 have HBX2:=aa (HFAR.out _ _ _ _ _ hg HBX1.out (by omega))
 have HLO2:=aa (show w1.heap.size<_ from HT1.out.lt)
 have HSZ2:=aa hg.size
 clear hr hg
 have hzb2:w1.heap.size<v2.heap.size:=HT2.out.lt
 have hcx:=HBX2.out.cell
 have q:=(HT2.out.cell 1).trans (show _=some (.int .u64 0:Value) from rfl)
 have f:=HT2.out.frozen 1
 have HT2s:=aa (show BoxAt (v2.setCell ⟨w1.heap.size,1,none⟩ (.int .u64 m2)) w1.heap.size #[.int .u8 n1, .int .u64 m2, .int .i64 0, .slice none 0 0, .slice none 0 0, .slice none 0 0, .int .u64 0, .slice none 0 0] 31 from aU 1 _ HT2.out)
 have HZ2s:=aa (show BoxAt (v2.setCell ⟨w1.heap.size,1,none⟩ (.int .u64 m2)) (w.heap.size+1) _ 31 from (Below.heap_setCell _ ⟨w1.heap.size,1,none⟩ _ _ (by show w.heap.size+1≠w1.heap.size;omega)).trans HZ2.out)
 have HBX2s:=aa (show BoxAt (v2.setCell ⟨w1.heap.size,1,none⟩ (.int .u64 m2)) w.heap.size _ 283 from (Below.heap_setCell _ ⟨w1.heap.size,1,none⟩ _ _ (by show w.heap.size≠w1.heap.size;omega)).trans HBX2.out)
 have HR2s:=aa (HR2.out.stored (b:=w1.heap.size) (i:=1) (v := .int .u64 m2) hgt)
 have HG2s:=aa (ab (b:=w1.heap.size) (i:=1) (v := .int .u64 m2) HG2.out (by omega))
 clear HT2 HZ2 HBX2 HR2 HG2
 go_wp2_with fail
 clear hcx q f
 refine (HC3.out _ HR2s.out).mono ?_
 rintro en v3 ⟨rfl,hr,hg⟩
 have HR3:=aa hr
 have HG3:=aa (ag HG2s.out hg)
 have HT3:=aa (HFAR.out _ _ _ _ _ hg HT2s.out (by omega))
 have HZ3:=aa (HFAR.out _ _ _ _ _ hg HZ2s.out (by omega))
 have HBX3:=aa (HFAR.out _ _ _ _ _ hg HBX2s.out (by omega))
 have HLO3:=aa (show w1.heap.size<_ from HT2s.out.lt)
 have HSZ3:=aa hg.size
 clear hr hg
 have hzb3:w1.heap.size<v3.heap.size:=HT3.out.lt
 have hcx:=HBX3.out.cell
 have q:=(HT3.out.cell 2).trans (show _=some (.int .i64 0:Value) from rfl)
 have f:=HT3.out.frozen 2
 have HT3s:=aa (show BoxAt (v3.setCell ⟨w1.heap.size,2,none⟩ (.int .i64 m3)) w1.heap.size #[.int .u8 n1, .int .u64 m2, .int .i64 m3, .slice none 0 0, .slice none 0 0, .slice none 0 0, .int .u64 0, .slice none 0 0] 31 from aU 2 _ HT3.out)
 have HZ3s:=aa (show BoxAt (v3.setCell ⟨w1.heap.size,2,none⟩ (.int .i64 m3)) (w.heap.size+1) _ 31 from (Below.heap_setCell _ ⟨w1.heap.size,2,none⟩ _ _ (by show w.heap.size+1≠w1.heap.size;omega)).trans HZ3.out)
 have HBX3s:=aa (show BoxAt (v3.setCell ⟨w1.heap.size,2,none⟩ (.int .i64 m3)) w.heap.size _ 283 from (Below.heap_setCell _ ⟨w1.heap.size,2,none⟩ _ _ (by show w.heap.size≠w1.heap.size;omega)).trans HBX3.out)
 have HR3s:=aa (HR3.out.stored (b:=w1.heap.size) (i:=2) (v := .int .i64 m3) hgt)
 have HG3s:=aa (ab (b:=w1.heap.size) (i:=2) (v := .int .i64 m3) HG3.out (by omega))
 clear HT3 HZ3 HBX3 HR3 HG3
 go_wp2_with fail
 clear hcx q f
 refine (HC4.out _ HR3s.out).mono ?_
 rintro en v4 ⟨x4,rfl,hp,ho,hl,hr,hg⟩
 have HPP4:=aa hp
 have HOK4:=aa ho
 have HLI4:=aa hl
 clear hp ho hl
 have HR4:=aa hr
 have HG4:=aa (ag HG3s.out hg)
 have HT4:=aa (HFAR.out _ _ _ _ _ hg HT3s.out (by omega))
 have HZ4:=aa (HFAR.out _ _ _ _ _ hg HZ3s.out (by omega))
 have HBX4:=aa (HFAR.out _ _ _ _ _ hg HBX3s.out (by omega))
 have HLO4:=aa (show w1.heap.size<_ from HT3s.out.lt)
 have HSZ4:=aa hg.size
 clear hr hg
 obtain ⟨A4,c4,l4⟩:=x4
 simp only [Sl.v]
 have hzb4:w1.heap.size<v4.heap.size:=HT4.out.lt
 have hcx:=HBX4.out.cell
 have q:=(HT4.out.cell 3).trans (show _=some (.slice none 0 0:Value) from rfl)
 have f:=HT4.out.frozen 3
 have HT4s:=aa (show BoxAt (v4.setCell ⟨w1.heap.size,3,none⟩ (.slice A4 l4.length c4)) w1.heap.size #[.int .u8 n1, .int .u64 m2, .int .i64 m3, .slice A4 l4.length c4, .slice none 0 0, .slice none 0 0, .int .u64 0, .slice none 0 0] 31 from aU 3 _ HT4.out)
 have HZ4s:=aa (show BoxAt (v4.setCell ⟨w1.heap.size,3,none⟩ (.slice A4 l4.length c4)) (w.heap.size+1) _ 31 from (Below.heap_setCell _ ⟨w1.heap.size,3,none⟩ _ _ (by show w.heap.size+1≠w1.heap.size;omega)).trans HZ4.out)
 have HBX4s:=aa (show BoxAt (v4.setCell ⟨w1.heap.size,3,none⟩ (.slice A4 l4.length c4)) w.heap.size _ 283 from (Below.heap_setCell _ ⟨w1.heap.size,3,none⟩ _ _ (by show w.heap.size≠w1.heap.size;omega)).trans HBX4.out)
 have HR4s:=aa (HR4.out.stored (b:=w1.heap.size) (i:=3) (v := .slice A4 l4.length c4) hgt)
 have HG4s:=aa (ab (b:=w1.heap.size) (i:=3) (v := .slice A4 l4.length c4) HG4.out (by omega))
 have HOK4:=aa (af ints_local (z:=w1.heap.size) (i:=3) (v := .slice A4 l4.length c4) HOK4.out HLI4.out HLO4.out)
 clear HT4 HZ4 HBX4 HR4 HG4
 go_wp2_with fail
 clear hcx q f
 refine (HC5.out _ HR4s.out).mono ?_
 rintro en v5 ⟨x5,rfl,hp,ho,hl,hr,hg⟩
 have HPP5:=aa hp
 have HOK5:=aa ho
 have HLI5:=aa hl
 clear hp ho hl
 have HR5:=aa hr
 have HG5:=aa (ag HG4s.out hg)
 have HT5:=aa (HFAR.out _ _ _ _ _ hg HT4s.out (by omega))
 have HZ5:=aa (HFAR.out _ _ _ _ _ hg HZ4s.out (by omega))
 have HBX5:=aa (HFAR.out _ _ _ _ _ hg HBX4s.out (by omega))
 have HLO5:=aa (show w1.heap.size<_ from HT4s.out.lt)
 have HSZ5:=aa hg.size
 have HOK4:=aa (ints_local.grown HOK4.out hg (fun k hk e=>by have:=(HLI4.out k hk).1;have:=HLO4.out;injection e with e;omega))
 clear hr hg
 obtain ⟨A5,c5,l5⟩:=x5
 simp only [Sl.v]
 have hzb5:w1.heap.size<v5.heap.size:=HT5.out.lt
 have hcx:=HBX5.out.cell
 have q:=(HT5.out.cell 4).trans (show _=some (.slice none 0 0:Value) from rfl)
 have f:=HT5.out.frozen 4
 have HT5s:=aa (show BoxAt (v5.setCell ⟨w1.heap.size,4,none⟩ (.slice A5 l5.length c5)) w1.heap.size #[.int .u8 n1, .int .u64 m2, .int .i64 m3, .slice A4 l4.length c4, .slice A5 l5.length c5, .slice none 0 0, .int .u64 0, .slice none 0 0] 31 from aU 4 _ HT5.out)
 have HZ5s:=aa (show BoxAt (v5.setCell ⟨w1.heap.size,4,none⟩ (.slice A5 l5.length c5)) (w.heap.size+1) _ 31 from (Below.heap_setCell _ ⟨w1.heap.size,4,none⟩ _ _ (by show w.heap.size+1≠w1.heap.size;omega)).trans HZ5.out)
 have HBX5s:=aa (show BoxAt (v5.setCell ⟨w1.heap.size,4,none⟩ (.slice A5 l5.length c5)) w.heap.size _ 283 from (Below.heap_setCell _ ⟨w1.heap.size,4,none⟩ _ _ (by show w.heap.size≠w1.heap.size;omega)).trans HBX5.out)
 have HR5s:=aa (HR5.out.stored (b:=w1.heap.size) (i:=4) (v := .slice A5 l5.length c5) hgt)
 have HG5s:=aa (ab (b:=w1.heap.size) (i:=4) (v := .slice A5 l5.length c5) HG5.out (by omega))
 have HOK4:=aa (af ints_local (z:=w1.heap.size) (i:=4) (v := .slice A5 l5.length c5) HOK4.out HLI4.out HLO4.out)
 have HOK5:=aa (af dns_local (z:=w1.heap.size) (i:=4) (v := .slice A5 l5.length c5) HOK5.out HLI5.out HLO5.out)
 clear HT5 HZ5 HBX5 HR5 HG5
 go_wp2_with fail
 clear hcx q f
 refine (HC6.out _ HR5s.out).mono ?_
 rintro en v6 ⟨x6,rfl,hp,ho,hl,hr,hg⟩
 have HPP6:=aa hp
 have HOK6:=aa ho
 have HLI6:=aa hl
 clear hp ho hl
 have HR6:=aa hr
 have HG6:=aa (ag HG5s.out hg)
 have HT6:=aa (HFAR.out _ _ _ _ _ hg HT5s.out (by omega))
 have HZ6:=aa (HFAR.out _ _ _ _ _ hg HZ5s.out (by omega))
 have HBX6:=aa (HFAR.out _ _ _ _ _ hg HBX5s.out (by omega))
 have HLO6:=aa (show w1.heap.size<_ from HT5s.out.lt)
 have HSZ6:=aa hg.size
 have HOK4:=aa (ints_local.grown HOK4.out hg (fun k hk e=>by have:=(HLI4.out k hk).1;have:=HLO4.out;injection e with e;omega))
 have HOK5:=aa (dns_local.grown HOK5.out hg (fun k hk e=>by have:=(HLI5.out k hk).1;have:=HLO5.out;injection e with e;omega))
 clear hr hg
 obtain ⟨A6,c6,l6⟩:=x6
 simp only [Sl.v]
 have hzb6:w1.heap.size<v6.heap.size:=HT6.out.lt
 have hcx:=HBX6.out.cell
 have q:=(HT6.out.cell 5).trans (show _=some (.slice none 0 0:Value) from rfl)
 have f:=HT6.out.frozen 5
 have HT6s:=aa (show BoxAt (v6.setCell ⟨w1.heap.size,5,none⟩ (.slice A6 l6.length c6)) w1.heap.size #[.int .u8 n1, .int .u64 m2, .int .i64 m3, .slice A4 l4.length c4, .slice A5 l5.length c5, .slice A6 l6.length c6, .int .u64 0, .slice none 0 0] 31 from aU 5 _ HT6.out)
 have HZ6s:=aa (show BoxAt (v6.setCell ⟨w1.heap.size,5,none⟩ (.slice A6 l6.length c6)) (w.heap.size+1) _ 31 from (Below.heap_setCell _ ⟨w1.heap.size,5,none⟩ _ _ (by show w.heap.size+1≠w1.heap.size;omega)).trans HZ6.out)
 have HBX6s:=aa (show BoxAt (v6.setCell ⟨w1.heap.size,5,none⟩ (.slice A6 l6.length c6)) w.heap.size _ 283 from (Below.heap_setCell _ ⟨w1.heap.size,5,none⟩ _ _ (by show w.heap.size≠w1.heap.size;omega)).trans HBX6.out)
 have HR6s:=aa (HR6.out.stored (b:=w1.heap.size) (i:=5) (v := .slice A6 l6.length c6) hgt)
 have HG6s:=aa (ab (b:=w1.heap.size) (i:=5) (v := .slice A6 l6.length c6) HG6.out (by omega))
 have HOK4:=aa (af ints_local (z:=w1.heap.size) (i:=5) (v := .slice A6 l6.length c6) HOK4.out HLI4.out HLO4.out)
 have HOK5:=aa (af dns_local (z:=w1.heap.size) (i:=5) (v := .slice A6 l6.length c6) HOK5.out HLI5.out HLO5.out)
 have HOK6:=aa (af cels_local (z:=w1.heap.size) (i:=5) (v := .slice A6 l6.length c6) HOK6.out HLI6.out HLO6.out)
 clear HT6 HZ6 HBX6 HR6 HG6
 go_wp2_with fail
 clear hcx q f
 refine (HC7.out _ HR6s.out).mono ?_
 rintro en v7 ⟨rfl,hr,hg⟩
 have HR7:=aa hr
 have HG7:=aa (ag HG6s.out hg)
 have HT7:=aa (HFAR.out _ _ _ _ _ hg HT6s.out (by omega))
 have HZ7:=aa (HFAR.out _ _ _ _ _ hg HZ6s.out (by omega))
 have HBX7:=aa (HFAR.out _ _ _ _ _ hg HBX6s.out (by omega))
 have HLO7:=aa (show w1.heap.size<_ from HT6s.out.lt)
 have HSZ7:=aa hg.size
 have HOK4:=aa (ints_local.grown HOK4.out hg (fun k hk e=>by have:=(HLI4.out k hk).1;have:=HLO4.out;injection e with e;omega))
 have HOK5:=aa (dns_local.grown HOK5.out hg (fun k hk e=>by have:=(HLI5.out k hk).1;have:=HLO5.out;injection e with e;omega))
 have HOK6:=aa (cels_local.grown HOK6.out hg (fun k hk e=>by have:=(HLI6.out k hk).1;have:=HLO6.out;injection e with e;omega))
 clear hr hg
 have hzb7:w1.heap.size<v7.heap.size:=HT7.out.lt
 have hcx:=HBX7.out.cell
 have q:=(HT7.out.cell 6).trans (show _=some (.int .u64 0:Value) from rfl)
 have f:=HT7.out.frozen 6
 have HT7s:=aa (show BoxAt (v7.setCell ⟨w1.heap.size,6,none⟩ (.int .u64 m7)) w1.heap.size #[.int .u8 n1, .int .u64 m2, .int .i64 m3, .slice A4 l4.length c4, .slice A5 l5.length c5, .slice A6 l6.length c6, .int .u64 m7, .slice none 0 0] 31 from aU 6 _ HT7.out)
 have HZ7s:=aa (show BoxAt (v7.setCell ⟨w1.heap.size,6,none⟩ (.int .u64 m7)) (w.heap.size+1) _ 31 from (Below.heap_setCell _ ⟨w1.heap.size,6,none⟩ _ _ (by show w.heap.size+1≠w1.heap.size;omega)).trans HZ7.out)
 have HBX7s:=aa (show BoxAt (v7.setCell ⟨w1.heap.size,6,none⟩ (.int .u64 m7)) w.heap.size _ 283 from (Below.heap_setCell _ ⟨w1.heap.size,6,none⟩ _ _ (by show w.heap.size≠w1.heap.size;omega)).trans HBX7.out)
 have HR7s:=aa (HR7.out.stored (b:=w1.heap.size) (i:=6) (v := .int .u64 m7) hgt)
 have HG7s:=aa (ab (b:=w1.heap.size) (i:=6) (v := .int .u64 m7) HG7.out (by omega))
 have HOK4:=aa (af ints_local (z:=w1.heap.size) (i:=6) (v := .int .u64 m7) HOK4.out HLI4.out HLO4.out)
 have HOK5:=aa (af dns_local (z:=w1.heap.size) (i:=6) (v := .int .u64 m7) HOK5.out HLI5.out HLO5.out)
 have HOK6:=aa (af cels_local (z:=w1.heap.size) (i:=6) (v := .int .u64 m7) HOK6.out HLI6.out HLO6.out)
 clear HT7 HZ7 HBX7 HR7 HG7
 go_wp2_with fail
 clear hcx q f
 refine (HC8.out _ HR7s.out).mono ?_
 rintro en v8 ⟨x8,rfl,hp,ho,hl,hr,hg⟩
 have HPP8:=aa hp
 have HOK8:=aa ho
 have HLI8:=aa hl
 clear hp ho hl
 have HR8:=aa hr
 have HG8:=aa (ag HG7s.out hg)
 have HT8:=aa (HFAR.out _ _ _ _ _ hg HT7s.out (by omega))
 have HZ8:=aa (HFAR.out _ _ _ _ _ hg HZ7s.out (by omega))
 have HBX8:=aa (HFAR.out _ _ _ _ _ hg HBX7s.out (by omega))
 have HLO8:=aa (show w1.heap.size<_ from HT7s.out.lt)
 have HSZ8:=aa hg.size
 have HOK4:=aa (ints_local.grown HOK4.out hg (fun k hk e=>by have:=(HLI4.out k hk).1;have:=HLO4.out;injection e with e;omega))
 have HOK5:=aa (dns_local.grown HOK5.out hg (fun k hk e=>by have:=(HLI5.out k hk).1;have:=HLO5.out;injection e with e;omega))
 have HOK6:=aa (cels_local.grown HOK6.out hg (fun k hk e=>by have:=(HLI6.out k hk).1;have:=HLO6.out;injection e with e;omega))
 clear hr hg
 obtain ⟨A8,c8,l8⟩:=x8
 simp only [Sl.v]
 have hzb8:w1.heap.size<v8.heap.size:=HT8.out.lt
 have hcx:=HBX8.out.cell
 have q:=(HT8.out.cell 7).trans (show _=some (.slice none 0 0:Value) from rfl)
 have f:=HT8.out.frozen 7
 have HT8s:=aa (show BoxAt (v8.setCell ⟨w1.heap.size,7,none⟩ (.slice A8 l8.length c8)) w1.heap.size #[.int .u8 n1, .int .u64 m2, .int .i64 m3, .slice A4 l4.length c4, .slice A5 l5.length c5, .slice A6 l6.length c6, .int .u64 m7, .slice A8 l8.length c8] 31 from aU 7 _ HT8.out)
 have HZ8s:=aa (show BoxAt (v8.setCell ⟨w1.heap.size,7,none⟩ (.slice A8 l8.length c8)) (w.heap.size+1) _ 31 from (Below.heap_setCell _ ⟨w1.heap.size,7,none⟩ _ _ (by show w.heap.size+1≠w1.heap.size;omega)).trans HZ8.out)
 have HBX8s:=aa (show BoxAt (v8.setCell ⟨w1.heap.size,7,none⟩ (.slice A8 l8.length c8)) w.heap.size _ 283 from (Below.heap_setCell _ ⟨w1.heap.size,7,none⟩ _ _ (by show w.heap.size≠w1.heap.size;omega)).trans HBX8.out)
 have HR8s:=aa (HR8.out.stored (b:=w1.heap.size) (i:=7) (v := .slice A8 l8.length c8) hgt)
 have HG8s:=aa (ab (b:=w1.heap.size) (i:=7) (v := .slice A8 l8.length c8) HG8.out (by omega))
 have HOK4:=aa (af ints_local (z:=w1.heap.size) (i:=7) (v := .slice A8 l8.length c8) HOK4.out HLI4.out HLO4.out)
 have HOK5:=aa (af dns_local (z:=w1.heap.size) (i:=7) (v := .slice A8 l8.length c8) HOK5.out HLI5.out HLO5.out)
 have HOK6:=aa (af cels_local (z:=w1.heap.size) (i:=7) (v := .slice A8 l8.length c8) HOK6.out HLI6.out HLO6.out)
 have HOK8:=aa (af bQ (z:=w1.heap.size) (i:=7) (v := .slice A8 l8.length c8) HOK8.out HLI8.out HLO8.out)
 clear q f hcx
 have hzb9:w1.heap.size<(v8.setCell ⟨w1.heap.size,7,none⟩ (.slice A8 l8.length c8)).heap.size:=HT8s.out.lt
 have q7:=(HT8.out.cell 7).trans (show _=some (Value.slice none 0 0) from rfl)
 have f7:=HT8.out.frozen 7
 have q0:=(HT8.out.cell 0).trans (show _=some (.int .u8 n1:Value) from rfl)
 have q1:=(HT8.out.cell 1).trans (show _=some (.int .u64 m2:Value) from rfl)
 have q2:=(HT8.out.cell 2).trans (show _=some (.int .i64 m3:Value) from rfl)
 have q3:=(HT8.out.cell 3).trans (show _=some (.slice A4 l4.length c4:Value) from rfl)
 have q4:=(HT8.out.cell 4).trans (show _=some (.slice A5 l5.length c5:Value) from rfl)
 have q5:=(HT8.out.cell 5).trans (show _=some (.slice A6 l6.length c6:Value) from rfl)
 have q6:=(HT8.out.cell 6).trans (show _=some (.int .u64 m7:Value) from rfl)
 have r0:=(HZ8.out.cell 0).trans (show _=some (.int .u8 0:Value) from rfl)
 have g0:=HZ8.out.frozen 0
 have r1:=(HZ8.out.cell 1).trans (show _=some (.int .u64 0:Value) from rfl)
 have g1:=HZ8.out.frozen 1
 have r2:=(HZ8.out.cell 2).trans (show _=some (.int .i64 0:Value) from rfl)
 have g2:=HZ8.out.frozen 2
 have r3:=(HZ8.out.cell 3).trans (show _=some (.slice none 0 0:Value) from rfl)
 have g3:=HZ8.out.frozen 3
 have r4:=(HZ8.out.cell 4).trans (show _=some (.slice none 0 0:Value) from rfl)
 have g4:=HZ8.out.frozen 4
 have r5:=(HZ8.out.cell 5).trans (show _=some (.slice none 0 0:Value) from rfl)
 have g5:=HZ8.out.frozen 5
 have r6:=(HZ8.out.cell 6).trans (show _=some (.int .u64 0:Value) from rfl)
 have g6:=HZ8.out.frozen 6
 have r7:=(HZ8.out.cell 7).trans (show _=some (.slice none 0 0:Value) from rfl)
 have g7:=HZ8.out.frozen 7
 go_wp2
 refine bodyPost_ret (v := .agg #[.int .u8 n1, .int .u64 m2, .int .i64 m3, .slice A4 l4.length c4, .slice A5 l5.length c5, .slice A6 l6.length c6, .int .u64 m7, .slice A8 l8.length c8]) (by simp [results,Tryz.results205,go_sem,r0,r1,r2,r3,r4,r5,r6,r7]) rfl ?_
 clear q7 f7 q0 q1 q2 q3 q4 q5 q6 r0 g0 r1 g1 r2 g2 r3 g3 r4 g4 r5 g5 r6 g6 r7 g7
 have I:∀n:Nat,n<=1000->I64 (n:Int):=fun n h=>by unfold I64;simp;omega
 have hlo4:w.heap.size+1<_:=Nat.lt_trans hzt1 HLO4.out
 have hlo5:w.heap.size+1<_:=Nat.lt_trans hzt1 HLO5.out
 have hlo6:w.heap.size+1<_:=Nat.lt_trans hzt1 HLO6.out
 have hlo8:w.heap.size+1<_:=Nat.lt_trans hzt1 HLO8.out
 have HPD:=aa (show l6.map (fun c=>(c.1,c.2.1,c.2.2.1,c.2.2.2))=m6 from HPP6.out)
 have HPM:=aa (show l8.map (fun c=>(c.1,c.2.1,c.2.2))=m8 from HPP8.out)
 refine ⟨⟨(n1:Int),(m2:Int),(m3:Int),⟨A4,c4,l4⟩,⟨A5,c5,l5⟩,⟨A6,c6,l6⟩,(m7:Int),⟨A8,c8,l8⟩⟩,rfl,?_,⟨⟨by unfold U8;simp;omega,HU2.out,I _ HU3.out,HU7.out⟩,(af ints_local (af ints_local (af ints_local (af ints_local (af ints_local (af ints_local (af ints_local (af ints_local HOK4.out HLI4.out hlo4) HLI4.out hlo4) HLI4.out hlo4) HLI4.out hlo4) HLI4.out hlo4) HLI4.out hlo4) HLI4.out hlo4) HLI4.out hlo4),(af dns_local (af dns_local (af dns_local (af dns_local (af dns_local (af dns_local (af dns_local (af dns_local HOK5.out HLI5.out hlo5) HLI5.out hlo5) HLI5.out hlo5) HLI5.out hlo5) HLI5.out hlo5) HLI5.out hlo5) HLI5.out hlo5) HLI5.out hlo5),(af cels_local (af cels_local (af cels_local (af cels_local (af cels_local (af cels_local (af cels_local (af cels_local HOK6.out HLI6.out hlo6) HLI6.out hlo6) HLI6.out hlo6) HLI6.out hlo6) HLI6.out hlo6) HLI6.out hlo6) HLI6.out hlo6) HLI6.out hlo6),(af bQ (af bQ (af bQ (af bQ (af bQ (af bQ (af bQ (af bQ HOK8.out HLI8.out hlo8) HLI8.out hlo8) HLI8.out hlo8) HLI8.out hlo8) HLI8.out hlo8) HLI8.out hlo8) HLI8.out hlo8) HLI8.out hlo8)⟩,?_,((((((((HR8s.out.stored (by omega)).stored (by omega)).stored (by omega)).stored (by omega)).stored (by omega)).stored (by omega)).stored (by omega)).stored (by omega)),(ab (ab (ab (ab (ab (ab (ab (ab HG8s.out (by omega)) (by omega)) (by omega)) (by omega)) (by omega)) (by omega)) (by omega)) (by omega))⟩
 ·unfold RegM.p
  rw [<- show l4=m4 from HPP4.out,<- show l5.map DoneM.p=m5 from HPP5.out,<- HPD.out,<- HPM.out]
  simp
 ·intro k hk
  have e9:v8.heap.size=(((((((((v8.setCell ⟨w1.heap.size,7,none⟩ (.slice A8 l8.length c8)).setCell ⟨w.heap.size+1,0,none⟩ (.int .u8 n1)).setCell ⟨w.heap.size+1,1,none⟩ (.int .u64 m2)).setCell ⟨w.heap.size+1,2,none⟩ (.int .i64 m3)).setCell ⟨w.heap.size+1,3,none⟩ (.slice A4 l4.length c4)).setCell ⟨w.heap.size+1,4,none⟩ (.slice A5 l5.length c5)).setCell ⟨w.heap.size+1,5,none⟩ (.slice A6 l6.length c6)).setCell ⟨w.heap.size+1,6,none⟩ (.int .u64 m7)).setCell ⟨w.heap.size+1,7,none⟩ (.slice A8 l8.length c8)).heap.size:=by simp [World.setCell]
  rw [<- e9]
  have h5:v4.heap.size<=v5.heap.size:=by have:=HSZ5.out;simpa [World.setCell] using this
  have h6:v5.heap.size<=v6.heap.size:=by have:=HSZ6.out;simpa [World.setCell] using this
  have h7:v6.heap.size<=v7.heap.size:=by have:=HSZ7.out;simpa [World.setCell] using this
  have h8:v7.heap.size<=v8.heap.size:=by have:=HSZ8.out;simpa [World.setCell] using this
  have o4:=HLO4.out
  have o5:=HLO5.out
  have o6:=HLO6.out
  have o8:=HLO8.out
  rcases hk with hk|hk|hk|hk
  ·have:=HLI4.out k hk
   omega
  ·have:=HLI5.out k hk
   omega
  ·have:=HLI6.out k hk
   omega
  ·have:=HLI8.out k hk
   omega


def uv (l:List Int):List Value:=l.map (Value.int .u64)
theorem wk (l:List Int):(uv l).length=l.length:=by simp [uv]
theorem eS {w:World} (l:List Int) (cs:Array Value) (t:TypeId) (z:Nat) (hz:w.heap.size=z) (h:cs=(uv l).toArray):Sees (w.alloc (.cells cs t)) (z+1) (some ⟨z,0,none⟩) (uv l):=by
 subst hz h
 exact dm w (uv l).toArray t (uv l) rfl

def varB (l:List Int):List UInt8:=natB l.length++l.flatMap intB
def donB (d:fY):List UInt8:=natB d.1++(natB d.2.1++(natB d.2.2.1++(natB d.2.2.2.1++(natB d.2.2.2.2.1++varB d.2.2.2.2.2))))
def celB (c:CelM):List UInt8:=natB c.1++(natB c.2.1++(natB c.2.2.1++intB c.2.2.2))
def mrkB (m:MrkM):List UInt8:=natB m.1++(natB m.2.1++natB m.2.2)
def regB (r:RegP):List UInt8 :=
 natB r.ki++(if r.ki=0 then [] else natB r.inc++(natB r.st++(varB r.va++((natB r.dn.length++r.dn.flatMap donB)++((natB r.ou.length++r.ou.flatMap celB)++(natB r.la++(natB r.ma.length++r.ma.flatMap mrkB)))))))
theorem bK (n:Int) (h:U64 n):(natB n).length<=10:=by
 unfold U64 at h
 exact av _ (by omega)
theorem rE (l:List Int) (h:∀x∈l,I64 x) (h1:l.length<=50):(varB l).length<=510:=by
 unfold varB
 rw [List.length_append]
 have h2:=aL l.length (by omega)
 have h3:=cV l fun t ht=>dL t (h t ht)
 omega

theorem oC (l r:List UInt8) (ns:List Int) (base:Nat) (v:Value) (B:Nat) (A:Option Addr) (q c:Nat) (w:World) (hres:l++cU ns=r) (hq:ns.length=q) (hq4:q<=4) (hn:∀x∈ns,U64 x) (hl:l.length<=1000000)
  (hown:w.ownsRow base 5 1 v l.length (bv l)) (hbase:base<=w.heap.size) (hs:Sees w B A (uv ns)) (hB:B<=w.heap.size) (hne:∀g o,A=some ⟨g,o,none⟩->v.ownBlock≠some g) :
  Calls Tryz.prog 190 #[v, .slice A q c] w (lm base v r w):=by
 have HQ:=aa hq
 have HN:=aa hn
 have HO:=aa hown
 have HS:=aa hs
 have HNE:=aa hne
 have HR:=aa (show l++cU (ns.take q)=r by rw [<- hq,List.take_length];exact hres)
 clear hq hn hown hs hne hres
 go_enter Tryz.func190,Tryz.ntmps190
 go_wp2
 go_loopw [0,9] (fun b i wr=>∃(k:Nat),k<=q/\i = .int .i64 k/\Hid (RowStep base v w b wr (l++cU (ns.take k)))) (fun _ i _=>q - (intOf i).toNat)
 case atStart=>exact ⟨0,Nat.zero_le _,rfl,aa (by simpa [cU] using RowStep.refl HO.out)⟩
 case round =>
  obtain ⟨k,hk,rfl,HK⟩:=hrel
  have hzw:w.heap.size<=wr.heap.size:=HK.out.grow.size
  by_cases hlt:k<q
  ·obtain ⟨x,hx⟩:∃x,ns[k]?=some x:=⟨_,List.getElem?_eq_getElem (by rw [HQ.out];exact hlt)⟩
   have hx2:=HN.out x (List.mem_of_getElem? hx)
   obtain ⟨b,o,hAe,hb,hc⟩:=HS.out.flat (by rw [wk,HQ.out];omega)
   have hcell:w.cell? ⟨b,o+k,none⟩=some (.int .u64 x):=hc k _ (by simp [uv,hx])
   have hcell2:wr.cell? ⟨b,o+k,none⟩=some (.int .u64 x):=by
    rw [<- hcell]
    exact World.cell?_of_block (a:=⟨b,o+k,none⟩) (HK.out.grow.block b (by omega) fun e=>HNE.out b o hAe e.symm)
   have hbw:b<wr.heap.size:=by omega
   subst hAe
   obtain ⟨y,rfl⟩:=Int.eq_ofNat_of_zero_le hx2.1
   have hy:=hx2.2
   have HX:=aa (show l++cU (ns.take (k+1))=(l++cU (ns.take k))++numB y by
    unfold cU
    rw [dY hx,List.append_assoc]
    rfl)
   have HLN:=aa (show (l++cU (ns.take k)).length<=1000040 by
    have h1:=cG (f:=natB) (q:=10) ns (fun z hz=>bK z (HN.out z hz)) k
    rw [HQ.out] at h1
    rw [List.length_append]
    unfold cU
    omega)
   have HNL:=aa (av y (by omega))
   have HY:=aa (show y<18446744073709551616 by omega)
   clear hx hx2 hc hcell hy
   obtain ⟨l2,hl2⟩:∃l2,l++cU (ns.take (k+1))=l2:=⟨_,rfl⟩
   rw [hl2] at HX
   have HL2:=aa hl2
   clear hl2
   generalize l++cU (ns.take k)=l1 at HX HLN HK
   go_wp2_with fail
   refine (aK [] (numB y) y wr.heap.size none 0 0 _ rfl rfl HY.out (Sees.empty _ _ _) (Nat.le_refl _) (by simp)).mono ?_
   rintro en w2 ⟨A2,c2,rfl,hown2,hb2⟩
   have HB2:=aa hb2
   have HO2:=aa hown2
   clear hb2 hown2
   go_wp2_with (at_builtin;refine bE _ rfl _ _ 50 rfl base bT Tryz.underlying50 _ l1 (numB y) l2 HX.out.symm rfl (ao HK.out.own HB2.out) w2.heap.size A2 (numB y).length c2 rfl rfl (Sees.own HO2.out) ⟨by have:=HLN.out;omega,by have:=HNL.out;omega⟩ (by have:=HB2.out.size;omega) ?_;intro A3 c3 w3 hst;have HST:=aa (HK.out.trans (RowStep.fresh HB2.out hst));clear hst)
   go_roundw
   case rel=>exact ⟨k+1,by omega,by go_num,by rw [HL2.out];assumption⟩
   case measure=>simp [intOf];omega
  ·obtain rfl:k=q:=by omega
   have HK2:=aa (HR.out ▸ HK.out)
   clear HK
   obtain ⟨A3,c3,hA3⟩:=bg HK2.out.own
   subst hA3
   go_wp2
   go_ret
   exact ⟨_,_,rfl,HK2.out⟩

theorem bL (l r:List UInt8) (ns:List Int) (base:Nat) (v:Value) (q z:Nat) (w u:World) (C:Nat) (hC:C<=u.heap.size) (hb:Below w.heap.size w u) (hse:Sees u C (some ⟨z,0,none⟩) (uv ns)) (hz:w.heap.size<=z) (hres:l++cU ns=r) (hq:ns.length=q) (hq4:q<=4) (hn:∀x∈ns,U64 x) (hl:l.length<=1000000)
  (hown:w.ownsRow base 5 1 v l.length (bv l)) (hbase:base<=w.heap.size) :
  Calls Tryz.prog 190 #[v, .slice (some ⟨z,0,none⟩) q q] u fun e w'=>∃A c,e = .returned (.slice A r.length c)/\RowStep base v u (.slice A r.length c) w' r:=by
 refine (oC l r ns base v C (some ⟨z,0,none⟩) q q _ hres hq hq4 hn hl (ao hown hb) (Nat.le_trans hbase hb.size) hse hC (fun g o e => ?_)).mono ?_
 ·injection e with e
  injection e with e _
  subst e
  exact A9 hown hz
 ·rintro e w' ⟨A,c,rfl,hs⟩
  exact ⟨A,c,rfl,hs⟩

theorem uB1 (a:Int):cU [a]=natB a:=by simp [cU]
theorem uB2 (a b:Int):cU [a,b]=natB a++natB b:=by simp [cU]
theorem uB3 (a b c:Int):cU [a,b,c]=natB a++(natB b++natB c):=by simp [cU]
theorem uB4 (a b c d:Int):cU [a,b,c,d]=natB a++(natB b++(natB c++natB d)):=by simp [cU]
theorem fM (n:Nat) (h:n<=1000000):U64 (n:Int):=by unfold U64;omega
theorem fm {n:Int} (h0:0<=n) (h:n<=1000000):U64 n:=by unfold U64;omega

theorem i6 (l r:List UInt8) (st:Int) (s:IntS) (n:Nat) (hnn:s.l.length=n) (base:Nat) (v:Value) (B:Nat) (w:World) (hres:l++(natB st++varB s.l)=r) (hst:0<=st/\st<=31) (hl:l.length<=900000) (hn:n<=50) (hs:intsOk w B s) (hB:B<=base)
  (hown:w.ownsRow base 5 1 v l.length (bv l)) (hbase:base<=w.heap.size) :
  Calls Tryz.prog 191 #[v, .int .i64 st, .slice s.A n s.c] w (lm base v r w):=by
 obtain ⟨A,c,f⟩:=s
 simp only at hnn
 have HS:=aa hs.2.2.1
 have HT:=aa hs.2.2.2
 have HN:=aa hnn
 have HO:=aa hown
 obtain ⟨l1,hl1⟩:∃l1,l++(natB st++natB n)=l1:=⟨_,rfl⟩
 have HR:=aa (show l1++(f.take n).flatMap intB=r by
  rw [<- hnn,List.take_length,<- hl1,<- hres]
  unfold varB
  simp only [hnn,List.append_assoc])
 have HL1:=aa (show l++cU [st,(n:Int)]=l1 by rw [uB2];exact hl1)
 have HLE:=aa (show l1.length<=900020 by rw [<- hl1,List.length_append,List.length_append];have:=aL st (by omega);have:=aL n (by omega);omega)
 have HUU:=aa (show ∀x∈[st,(n:Int)],U64 x from fun x hx=>by
  simp at hx
  rcases hx with rfl|rfl
  ·exact fm hst.1 (by omega)
  ·exact fM n (by omega))
 have hs1:0<=st:=hst.1
 have hs2:st<=31:=hst.2
 have HB0:=aa ((Below.refl w.heap.size w).alloc (Nat.le_refl _) (.cells #[.int .u64 st, .int .u64 n] 25))
 have HSE0:=aa (eS (w:=w) [st,(n:Int)] #[.int .u64 st, .int .u64 n] 25 _ rfl rfl)
 clear hs hnn hown hres hl1 hst
 go_enter Tryz.func191,Tryz.ntmps191
 go_wp2_with fail
 refine (bL l l1 [st,(n:Int)] base v 2 _ w _ _ (by simp) HB0.out HSE0.out (Nat.le_refl _) HL1.out rfl (by omega) HUU.out (by omega) HO.out hbase).mono ?_
 rintro en w1 ⟨A1,c1,rfl,hst1⟩
 have HST:=aa (RowStep.fresh HB0.out hst1)
 clear hst1 HL1
 go_wp2
 go_loopw [0,19] (fun b i wr=>∃(k:Nat),k<=n/\i = .int .i64 k/\Hid (RowStep base v w b wr (l1++(f.take k).flatMap intB))) (fun _ i _=>n - (intOf i).toNat)
 case atStart=>exact ⟨0,Nat.zero_le _,rfl,aa (by simpa using HST.out)⟩
 case round =>
  obtain ⟨k,hk,rfl,HK⟩:=hrel
  have hzw:w.heap.size<=wr.heap.size:=HK.out.grow.size
  have hbw:Below B w wr:=HK.out.below HO.out hB (by omega)
  by_cases hlt:k<n
  ·obtain ⟨x,hx⟩:∃x,f[k]?=some x:=⟨_,List.getElem?_eq_getElem (by rw [HN.out];exact hlt)⟩
   obtain ⟨tb,ot,hAe,hab,h0⟩:=(HS.out.below hbw).i64 hx
   have hwz:tb<wr.heap.size:=by omega
   subst hAe
   have HI:=aa (HT.out x (List.mem_of_getElem? hx))
   have HX:=aa (show l1++(f.take (k+1)).flatMap intB=(l1++(f.take k).flatMap intB)++intB x by
    rw [dY hx]
    simp only [List.append_assoc])
   have HLN:=aa (show (l1++(f.take k).flatMap intB).length<=901000 by
    have h1:=cG (f:=intB) (q:=10) f (fun z hz=>dL z (HT.out z hz)) k
    have h2:=HLE.out
    rw [HN.out] at h1
    rw [List.length_append]
    omega)
   have HXL:=aa (dL x HI.out)
   obtain ⟨l2,hl2⟩:∃l2,l1++(f.take (k+1)).flatMap intB=l2:=⟨_,rfl⟩
   rw [hl2] at HX
   have HL2:=aa hl2
   clear hl2 hx hbw
   generalize l1++(f.take k).flatMap intB=la at HX HLN HK
   go_wp2_with fail
   refine (lg [] (intB x) x wr.heap.size none 0 0 _ rfl rfl HI.out.1 HI.out.2 (Sees.empty _ _ _) (Nat.le_refl _) (by simp)).mono ?_
   rintro en w3 ⟨A3,c3,rfl,hown3,hb3⟩
   have HB3:=aa hb3
   have HO3:=aa hown3
   clear hb3 hown3
   go_wp2_with (at_builtin;refine bE _ rfl _ _ 50 rfl base bT Tryz.underlying50 _ la (intB x) l2 HX.out.symm rfl (ao HK.out.own HB3.out) w3.heap.size A3 (intB x).length c3 rfl rfl (Sees.own HO3.out) ⟨by have:=HLN.out;omega,by have:=HXL.out;omega⟩ (by have:=HB3.out.size;omega) ?_;intro A4 c4 w4 hst4;have HST4:=aa (HK.out.trans (RowStep.fresh HB3.out hst4));clear hst4)
   go_roundw
   case rel=>exact ⟨k+1,by omega,by go_num,aa (by rw [HL2.out];exact HST4.out)⟩
   case measure=>simp [intOf];omega
  ·obtain rfl:k=n:=by omega
   have HK2:=aa (HR.out ▸ HK.out)
   clear HK
   obtain ⟨A3,c3,hA3⟩:=bg HK2.out.own
   subst hA3
   go_wp2
   go_ret
   exact ⟨_,_,rfl,HK2.out⟩

theorem wl {w:World} {B:Nat} {d:DoneM} (h:DoneM.ok w B d) (hc:(0<=d.er/\d.er<=99)/\(0<=d.st/\d.st<=31)/\d.va.l.length<=8):(donB d.p).length<=600:=by
 unfold donB DoneM.p
 simp only [List.length_append]
 have a1:=aL d.cl (by have:=h.1.1.2;omega)
 have a2:=bK d.sq h.1.2.1
 have a3:=aL d.er (by omega)
 have a4:=bK d.inc h.1.2.2.2.1
 have a5:=aL d.st (by omega)
 have a6:=rE d.va.l h.2.2.2.2 (by omega)
 omega
theorem wm {c:CelM} (h:jm c) (hc:0<=c.2.2.1/\c.2.2.1<=31):(celB c).length<=50:=by
 unfold celB
 simp only [List.length_append]
 have a1:=bK c.1 h.1
 have a2:=aL c.2.1 (by have:=h.2.1.2;omega)
 have a3:=aL c.2.2.1 (by omega)
 have a4:=dL c.2.2.2 h.2.2.2
 omega
theorem Bz {m:MrkM} (h:gP m):(mrkB m).length<=40:=by
 unfold mrkB
 simp only [List.length_append]
 have a1:=aL m.1 (by have:=h.1.2;omega)
 have a2:=bK m.2.1 h.2.1
 have a3:=bK m.2.2 h.2.2
 omega

theorem qg (l r:List UInt8) (s:Sl (DoneM)) (n:Nat) (hnn:s.l.length=n) (base:Nat) (v:Value) (B:Nat) (w:World) (hres:l++(natB n++s.l.flatMap (fun d=>donB d.p))=r) (hl:l.length<=800000) (hn:n<=8) (hs:jk w B s) (hc:∀d∈s.l,(0<=d.er/\d.er<=99)/\(0<=d.st/\d.st<=31)/\d.va.l.length<=8) (hB:B<=base)
  (hown:w.ownsRow base 5 1 v l.length (bv l)) (hbase:base<=w.heap.size) :
  Calls Tryz.prog 192 #[v, .slice s.A n s.c] w (lm base v r w):=by
 have HEL:=aa (show ∀x∈s.l,((fun d=>donB d.p) x).length<=600 from fun z hz=>wl (hs.2.2.2 z hz) (hc z hz))
 obtain ⟨A,c,f⟩:=s
 simp only at hnn
 have HS:=aa hs.2.2.1
 have HT:=aa hs.2.2.2
 have HC:=aa hc
 have HN:=aa hnn
 have HO:=aa hown
 obtain ⟨l1,hl1⟩:∃l1,l++natB n=l1:=⟨_,rfl⟩
 have HR:=aa (show l1++(f.take n).flatMap (fun d=>donB d.p)=r by
  rw [<- hnn,List.take_length,<- hl1,<- hres]
  simp only [List.append_assoc])
 have HL1:=aa (show l++cU [(n:Int)]=l1 by rw [uB1];exact hl1)
 have HLE:=aa (show l1.length<=800010 by rw [<- hl1,List.length_append];have:=aL n (by omega);omega)
 have HUU:=aa (show ∀x∈[(n:Int)],U64 x from fun x hx=>by
  simp at hx
  subst hx
  exact fM n (by omega))
 have HB0:=aa ((Below.refl w.heap.size w).alloc (Nat.le_refl _) (.cells #[.int .u64 n] 25))
 have HSE0:=aa (eS (w:=w) [(n:Int)] #[.int .u64 n] 25 _ rfl rfl)
 clear hs hnn hown hres hl1 hc
 go_enter Tryz.func192,Tryz.ntmps192
 go_wp2_with fail
 refine (bL l l1 [(n:Int)] base v 1 _ w _ _ (by simp) HB0.out HSE0.out (Nat.le_refl _) HL1.out rfl (by omega) HUU.out (by omega) HO.out hbase).mono ?_
 rintro en w1 ⟨A1,c1,rfl,hst1⟩
 have HST:=aa (RowStep.fresh HB0.out hst1)
 clear hst1 HL1
 go_wp2
 go_loopw [0,15] (fun b i wr=>∃(k:Nat),k<=n/\i = .int .i64 k/\Hid (RowStep base v w b wr (l1++(f.take k).flatMap (fun d=>donB d.p)))) (fun _ i _=>n - (intOf i).toNat)
 case atStart=>exact ⟨0,Nat.zero_le _,rfl,aa (by simpa using HST.out)⟩
 case round =>
  obtain ⟨k,hk,rfl,HK⟩:=hrel
  have hzw:w.heap.size<=wr.heap.size:=HK.out.grow.size
  have hbw:Below B w wr:=HK.out.below HO.out hB (by omega)
  by_cases hlt:k<n
  ·obtain ⟨x,hx⟩:∃x,f[k]?=some x:=⟨_,List.getElem?_eq_getElem (by rw [HN.out];exact hlt)⟩
   obtain ⟨tb,ot,hAe,hab,e0,e1,e2,e3,e4,e5⟩:=(HS.out.below hbw).done hx
   have hwz:tb<wr.heap.size:=by omega
   subst hAe
   have hxo:=HT.out x (List.mem_of_getElem? hx)
   have hxc:=HC.out x (List.mem_of_getElem? hx)
   have HX:=aa (show l1++(f.take (k+1)).flatMap (fun d=>donB d.p)=(l1++(f.take k).flatMap (fun d=>donB d.p))++(fun d=>donB d.p) x by
    rw [dY hx]
    simp only [List.append_assoc])
   have HLN:=aa (show (l1++(f.take k).flatMap (fun d=>donB d.p)).length<=810000 by
    have h1:=cG (f:=(fun d=>donB d.p)) (q:=600) f HEL.out k
    have h2:=HLE.out
    rw [HN.out] at h1
    rw [List.length_append]
    omega)
   have HXL:=aa (HEL.out x (List.mem_of_getElem? hx))
   obtain ⟨cl,sq,er,inc,st,⟨vA,vc,vl⟩⟩:=x
   simp only at hxo hxc e0 e1 e2 e3 e4 e5
   have hu1:0<=cl:=hxo.1.1.1
   have hu2:cl<=255:=hxo.1.1.2
   have hu3:0<=er:=hxc.1.1
   have hu4:er<=99:=hxc.1.2
   obtain ⟨l2,hl2⟩:∃l2,l1++(f.take (k+1)).flatMap (fun d=>donB d.p)=l2:=⟨_,rfl⟩
   rw [hl2] at HX
   have HL2:=aa hl2
   have HBW:=aa hbw
   clear hl2 hx hbw
   generalize l1++(f.take k).flatMap (fun d=>donB d.p)=la at HX HLN HK
   obtain ⟨lb,hlb⟩:∃lb,la++(natB cl++(natB sq++(natB er++natB inc)))=lb:=⟨_,rfl⟩
   have HY:=aa (show lb++(natB st++varB vl)=l2 by
    rw [HX.out,<- hlb]
    unfold donB DoneM.p
    simp only [List.append_assoc])
   have HLB:=aa (show la++cU [cl,sq,er,inc]=lb by rw [uB4];exact hlb)
   have HBL:=aa (show lb.length<=811000 by
    have h1:=HLN.out
    have h2:=HXL.out
    have h3:=congrArg List.length HX.out
    have h4:=congrArg List.length HY.out
    simp only [List.length_append] at h3 h4
    omega)
   have HUL:=aa (show ∀x∈[cl,sq,er,inc],U64 x from by
    have hh:=(show U64 cl/\U64 sq/\U64 er/\U64 inc from ⟨by unfold U64;have:=hxo.1.1;unfold U8 at this;omega,hxo.1.2.1,fm hxc.1.1 (by omega),hxo.1.2.2.2.1⟩)
    intro x hx
    simp only [List.mem_cons,List.not_mem_nil,or_false] at hx
    rcases hx with rfl|rfl|rfl|rfl
    ·exact hh.1
    ·exact hh.2.1
    ·exact hh.2.2.1
    ·exact hh.2.2.2)
   have HU:=aa (((Below.refl wr.heap.size wr).alloc (Nat.le_refl _) (.cells #[.int .u8 cl, .int .u64 sq, .int .i64 er, .int .u64 inc, .int .i64 st, .slice vA vl.length vc] 106)).alloc (by simp) (.cells #[.int .u64 cl, .int .u64 sq, .int .u64 er, .int .u64 inc] 25))
   have HSU:=aa (eS (w:=wr.alloc (.cells #[.int .u8 cl, .int .u64 sq, .int .i64 er, .int .u64 inc, .int .i64 st, .slice vA vl.length vc] 106)) [cl,sq,er,inc] #[.int .u64 cl, .int .u64 sq, .int .u64 er, .int .u64 inc] 25 (wr.heap.size+1) (by simp) rfl)
   have HX1:=aa ((BoxAt.new wr #[.int .u8 cl, .int .u64 sq, .int .i64 er, .int .u64 inc, .int .i64 st, .slice vA vl.length vc] 106).alloc (.cells #[.int .u64 cl, .int .u64 sq, .int .u64 er, .int .u64 inc] 25))
   have HVO:=aa hxo.2
   have HVC:=aa hxc.2
   clear hlb hxo hxc
   go_wp2_with fail
   refine (bL la lb [cl,sq,er,inc] base _ 4 _ wr _ _ (by simp) HU.out HSU.out (by omega) HLB.out rfl (by omega) HUL.out (by have:=HLN.out;omega) HK.out.own (by omega)).mono ?_
   rintro en w2 ⟨A2,c2,rfl,hst2⟩
   have HST2:=aa (HK.out.trans (RowStep.fresh HU.out hst2))
   have HX2:=aa (HX1.out.step (by decide) (ao HK.out.own HU.out) hst2)
   clear hst2
   have hz2:wr.heap.size<w2.heap.size:=HX2.out.lt
   have hcx:=HX2.out.cell
   have HB2:=aa (show Below B w w2 from HST2.out.below HO.out hB (by omega))
   go_wp2_with fail
   refine (i6 lb l2 st ⟨vA,vc,vl⟩ vl.length rfl base _ B _ HY.out HVC.out.1 (by have:=HBL.out;omega) (by have:=HVC.out.2;omega) (ints_stable.below HVO.out HB2.out) hB HST2.out.own (by omega)).mono ?_
   rintro en w3 ⟨A3,c3,rfl,hst3⟩
   have HST4:=aa (HST2.out.trans hst3)
   clear hst3 hcx
   go_wp2
   go_roundw
   case rel=>exact ⟨k+1,by omega,by go_num,aa (by rw [HL2.out];exact HST4.out)⟩
   case measure=>simp [intOf];omega
  ·obtain rfl:k=n:=by omega
   have HK2:=aa (HR.out ▸ HK.out)
   clear HK
   obtain ⟨A3,c3,hA3⟩:=bg HK2.out.own
   subst hA3
   go_wp2
   go_ret
   exact ⟨_,_,rfl,HK2.out⟩

theorem tf (l r:List UInt8) (s:Sl (CelM)) (n:Nat) (hnn:s.l.length=n) (base:Nat) (v:Value) (B:Nat) (w:World) (hres:l++(natB n++s.l.flatMap celB)=r) (hl:l.length<=800000) (hn:n<=8) (hs:ga w B s) (hc:∀d∈s.l,0<=d.2.2.1/\d.2.2.1<=31) (hB:B<=base)
  (hown:w.ownsRow base 5 1 v l.length (bv l)) (hbase:base<=w.heap.size) :
  Calls Tryz.prog 193 #[v, .slice s.A n s.c] w (lm base v r w):=by
 have HEL:=aa (show ∀x∈s.l,(celB x).length<=50 from fun z hz=>wm (hs.2.2.2 z hz) (hc z hz))
 obtain ⟨A,c,f⟩:=s
 simp only at hnn
 have HS:=aa hs.2.2.1
 have HT:=aa hs.2.2.2
 have HC:=aa hc
 have HN:=aa hnn
 have HO:=aa hown
 obtain ⟨l1,hl1⟩:∃l1,l++natB n=l1:=⟨_,rfl⟩
 have HR:=aa (show l1++(f.take n).flatMap celB=r by
  rw [<- hnn,List.take_length,<- hl1,<- hres]
  simp only [List.append_assoc])
 have HL1:=aa (show l++cU [(n:Int)]=l1 by rw [uB1];exact hl1)
 have HLE:=aa (show l1.length<=800010 by rw [<- hl1,List.length_append];have:=aL n (by omega);omega)
 have HUU:=aa (show ∀x∈[(n:Int)],U64 x from fun x hx=>by
  simp at hx
  subst hx
  exact fM n (by omega))
 have HB0:=aa ((Below.refl w.heap.size w).alloc (Nat.le_refl _) (.cells #[.int .u64 n] 25))
 have HSE0:=aa (eS (w:=w) [(n:Int)] #[.int .u64 n] 25 _ rfl rfl)
 clear hs hnn hown hres hl1 hc
 go_enter Tryz.func193,Tryz.ntmps193
 go_wp2_with fail
 refine (bL l l1 [(n:Int)] base v 1 _ w _ _ (by simp) HB0.out HSE0.out (Nat.le_refl _) HL1.out rfl (by omega) HUU.out (by omega) HO.out hbase).mono ?_
 rintro en w1 ⟨A1,c1,rfl,hst1⟩
 have HST:=aa (RowStep.fresh HB0.out hst1)
 clear hst1 HL1
 go_wp2
 go_loopw [0,15] (fun b i wr=>∃(k:Nat),k<=n/\i = .int .i64 k/\Hid (RowStep base v w b wr (l1++(f.take k).flatMap celB))) (fun _ i _=>n - (intOf i).toNat)
 case atStart=>exact ⟨0,Nat.zero_le _,rfl,aa (by simpa using HST.out)⟩
 case round =>
  obtain ⟨k,hk,rfl,HK⟩:=hrel
  have hzw:w.heap.size<=wr.heap.size:=HK.out.grow.size
  have hbw:Below B w wr:=HK.out.below HO.out hB (by omega)
  by_cases hlt:k<n
  ·obtain ⟨x,hx⟩:∃x,f[k]?=some x:=⟨_,List.getElem?_eq_getElem (by rw [HN.out];exact hlt)⟩
   obtain ⟨tb,ot,hAe,hab,e0,e1,e2,e3⟩:=(HS.out.below hbw).cel hx
   have hwz:tb<wr.heap.size:=by omega
   subst hAe
   have hxo:=HT.out x (List.mem_of_getElem? hx)
   have hxc:=HC.out x (List.mem_of_getElem? hx)
   have HX:=aa (show l1++(f.take (k+1)).flatMap celB=(l1++(f.take k).flatMap celB)++celB x by
    rw [dY hx]
    simp only [List.append_assoc])
   have HLN:=aa (show (l1++(f.take k).flatMap celB).length<=810000 by
    have h1:=cG (f:=celB) (q:=50) f HEL.out k
    have h2:=HLE.out
    rw [HN.out] at h1
    rw [List.length_append]
    omega)
   have HXL:=aa (HEL.out x (List.mem_of_getElem? hx))
   obtain ⟨a,b',c',d⟩:=x
   simp only at hxo hxc e0 e1 e2 e3
   have hu1:0<=b':=hxo.2.1.1
   have hu2:b'<=255:=hxo.2.1.2
   have hu3:0<=c':=hxc.1
   have hu4:c'<=31:=hxc.2
   obtain ⟨l2,hl2⟩:∃l2,l1++(f.take (k+1)).flatMap celB=l2:=⟨_,rfl⟩
   rw [hl2] at HX
   have HL2:=aa hl2
   have HBW:=aa hbw
   clear hl2 hx hbw
   generalize l1++(f.take k).flatMap celB=la at HX HLN HK
   obtain ⟨lb,hlb⟩:∃lb,la++(natB a++(natB b'++natB c'))=lb:=⟨_,rfl⟩
   have HY:=aa (show lb++intB d=l2 by
    rw [HX.out,<- hlb]
    unfold celB
    simp only [List.append_assoc])
   have HLB:=aa (show la++cU [a,b',c']=lb by rw [uB3];exact hlb)
   have HBL:=aa (show lb.length<=811000 by
    have h1:=HLN.out
    have h2:=HXL.out
    have h3:=congrArg List.length HX.out
    have h4:=congrArg List.length HY.out
    simp only [List.length_append] at h3 h4
    omega)
   have HUL:=aa (show ∀x∈[a,b',c'],U64 x from by
    have hh:=(show U64 a/\U64 b'/\U64 c' from ⟨hxo.1,by unfold U64;have:=hxo.2.1;unfold U8 at this;omega,fm hxc.1 (by omega)⟩)
    intro x hx
    simp only [List.mem_cons,List.not_mem_nil,or_false] at hx
    rcases hx with rfl|rfl|rfl
    ·exact hh.1
    ·exact hh.2.1
    ·exact hh.2.2)
   have HU:=aa (((Below.refl wr.heap.size wr).alloc (Nat.le_refl _) (.cells #[.int .u64 a, .int .u8 b', .int .i64 c', .int .i64 d] 108)).alloc (by simp) (.cells #[.int .u64 a, .int .u64 b', .int .u64 c'] 25))
   have HSU:=aa (eS (w:=wr.alloc (.cells #[.int .u64 a, .int .u8 b', .int .i64 c', .int .i64 d] 108)) [a,b',c'] #[.int .u64 a, .int .u64 b', .int .u64 c'] 25 (wr.heap.size+1) (by simp) rfl)
   have HX1:=aa ((BoxAt.new wr #[.int .u64 a, .int .u8 b', .int .i64 c', .int .i64 d] 108).alloc (.cells #[.int .u64 a, .int .u64 b', .int .u64 c'] 25))
   have HVI:=aa hxo.2.2.2
   clear hlb hxo hxc
   go_wp2_with fail
   refine (bL la lb [a,b',c'] base _ 3 _ wr _ _ (by simp) HU.out HSU.out (by omega) HLB.out rfl (by omega) HUL.out (by have:=HLN.out;omega) HK.out.own (by omega)).mono ?_
   rintro en w2 ⟨A2,c2,rfl,hst2⟩
   have HST2:=aa (HK.out.trans (RowStep.fresh HU.out hst2))
   have HX2:=aa (HX1.out.step (by decide) (ao HK.out.own HU.out) hst2)
   clear hst2
   have hz2:wr.heap.size<w2.heap.size:=HX2.out.lt
   have hcx:=HX2.out.cell
   go_wp2_with fail
   refine (lg [] (intB d) d w2.heap.size none 0 0 _ rfl rfl HVI.out.1 HVI.out.2 (Sees.empty _ _ _) (Nat.le_refl _) (by simp)).mono ?_
   rintro en w3 ⟨A3,c3,rfl,hown3,hb3⟩
   have HB3:=aa hb3
   have HO3:=aa hown3
   have HDL:=aa (dL d HVI.out)
   clear hb3 hown3 hcx
   go_wp2_with (at_builtin;refine bE _ rfl _ _ 50 rfl base bT Tryz.underlying50 _ lb (intB d) l2 HY.out rfl (ao HST2.out.own HB3.out) w3.heap.size A3 (intB d).length c3 rfl rfl (Sees.own HO3.out) ⟨by have:=HBL.out;omega,by have:=HDL.out;omega⟩ (by have:=HB3.out.size;omega) ?_;intro A4 c4 w4 hst4;have HST4:=aa (HST2.out.trans (RowStep.fresh HB3.out hst4));clear hst4)
   go_roundw
   case rel=>exact ⟨k+1,by omega,by go_num,aa (by rw [HL2.out];exact HST4.out)⟩
   case measure=>simp [intOf];omega
  ·obtain rfl:k=n:=by omega
   have HK2:=aa (HR.out ▸ HK.out)
   clear HK
   obtain ⟨A3,c3,hA3⟩:=bg HK2.out.own
   subst hA3
   go_wp2
   go_ret
   exact ⟨_,_,rfl,HK2.out⟩

theorem oD (l r:List UInt8) (s:Sl (MrkM)) (n:Nat) (hnn:s.l.length=n) (base:Nat) (v:Value) (B:Nat) (w:World) (hres:l++(natB n++s.l.flatMap mrkB)=r) (hl:l.length<=800000) (hn:n<=16) (hs:gb w B s) (hB:B<=base)
  (hown:w.ownsRow base 5 1 v l.length (bv l)) (hbase:base<=w.heap.size) :
  Calls Tryz.prog 194 #[v, .slice s.A n s.c] w (lm base v r w):=by
 have HEL:=aa (show ∀x∈s.l,(mrkB x).length<=40 from fun z hz=>Bz (hs.2.2.2 z hz))
 obtain ⟨A,c,f⟩:=s
 simp only at hnn
 have HS:=aa hs.2.2.1
 have HT:=aa hs.2.2.2

 have HN:=aa hnn
 have HO:=aa hown
 obtain ⟨l1,hl1⟩:∃l1,l++natB n=l1:=⟨_,rfl⟩
 have HR:=aa (show l1++(f.take n).flatMap mrkB=r by
  rw [<- hnn,List.take_length,<- hl1,<- hres]
  simp only [List.append_assoc])
 have HL1:=aa (show l++cU [(n:Int)]=l1 by rw [uB1];exact hl1)
 have HLE:=aa (show l1.length<=800010 by rw [<- hl1,List.length_append];have:=aL n (by omega);omega)
 have HUU:=aa (show ∀x∈[(n:Int)],U64 x from fun x hx=>by
  simp at hx
  subst hx
  exact fM n (by omega))
 have HB0:=aa ((Below.refl w.heap.size w).alloc (Nat.le_refl _) (.cells #[.int .u64 n] 25))
 have HSE0:=aa (eS (w:=w) [(n:Int)] #[.int .u64 n] 25 _ rfl rfl)
 clear hs hnn hown hres hl1
 go_enter Tryz.func194,Tryz.ntmps194
 go_wp2_with fail
 refine (bL l l1 [(n:Int)] base v 1 _ w _ _ (by simp) HB0.out HSE0.out (Nat.le_refl _) HL1.out rfl (by omega) HUU.out (by omega) HO.out hbase).mono ?_
 rintro en w1 ⟨A1,c1,rfl,hst1⟩
 have HST:=aa (RowStep.fresh HB0.out hst1)
 clear hst1 HL1
 go_wp2
 go_loopw [0,15] (fun b i wr=>∃(k:Nat),k<=n/\i = .int .i64 k/\Hid (RowStep base v w b wr (l1++(f.take k).flatMap mrkB))) (fun _ i _=>n - (intOf i).toNat)
 case atStart=>exact ⟨0,Nat.zero_le _,rfl,aa (by simpa using HST.out)⟩
 case round =>
  obtain ⟨k,hk,rfl,HK⟩:=hrel
  have hzw:w.heap.size<=wr.heap.size:=HK.out.grow.size
  have hbw:Below B w wr:=HK.out.below HO.out hB (by omega)
  by_cases hlt:k<n
  ·obtain ⟨x,hx⟩:∃x,f[k]?=some x:=⟨_,List.getElem?_eq_getElem (by rw [HN.out];exact hlt)⟩
   obtain ⟨tb,ot,hAe,hab,e0,e1,e2⟩:=(HS.out.below hbw).mrk hx
   have hwz:tb<wr.heap.size:=by omega
   subst hAe
   have hxo:=HT.out x (List.mem_of_getElem? hx)

   have HX:=aa (show l1++(f.take (k+1)).flatMap mrkB=(l1++(f.take k).flatMap mrkB)++mrkB x by
    rw [dY hx]
    simp only [List.append_assoc])
   have HLN:=aa (show (l1++(f.take k).flatMap mrkB).length<=810000 by
    have h1:=cG (f:=mrkB) (q:=40) f HEL.out k
    have h2:=HLE.out
    rw [HN.out] at h1
    rw [List.length_append]
    omega)
   have HXL:=aa (HEL.out x (List.mem_of_getElem? hx))
   obtain ⟨a,b',c'⟩:=x
   simp only at hxo e0 e1 e2
   have hu1:0<=a:=hxo.1.1
   have hu2:a<=255:=hxo.1.2
   obtain ⟨l2,hl2⟩:∃l2,l1++(f.take (k+1)).flatMap mrkB=l2:=⟨_,rfl⟩
   rw [hl2] at HX
   have HL2:=aa hl2
   have HBW:=aa hbw
   clear hl2 hx hbw
   generalize l1++(f.take k).flatMap mrkB=la at HX HLN HK
   obtain ⟨lb,hlb⟩:∃lb,la++(natB a++(natB b'++natB c'))=lb:=⟨_,rfl⟩
   have HY:=aa (show lb=l2 by
    rw [HX.out,<- hlb]
    unfold mrkB
    rfl)
   have HLB:=aa (show la++cU [a,b',c']=lb by rw [uB3];exact hlb)
   have HBL:=aa (show lb.length<=811000 by
    have h1:=HLN.out
    have h2:=HXL.out
    have h3:=congrArg List.length HX.out
    have h4:=congrArg List.length HY.out
    simp only [List.length_append] at h3 h4
    omega)
   have HUL:=aa (show ∀x∈[a,b',c'],U64 x from by
    have hh:=(show U64 a/\U64 b'/\U64 c' from ⟨by unfold U64;have:=hxo.1;unfold U8 at this;omega,hxo.2.1,hxo.2.2⟩)
    intro x hx
    simp only [List.mem_cons,List.not_mem_nil,or_false] at hx
    rcases hx with rfl|rfl|rfl
    ·exact hh.1
    ·exact hh.2.1
    ·exact hh.2.2)
   have HU:=aa (((Below.refl wr.heap.size wr).alloc (Nat.le_refl _) (.cells #[.int .u8 a, .int .u64 b', .int .u64 c'] 110)).alloc (by simp) (.cells #[.int .u64 a, .int .u64 b', .int .u64 c'] 25))
   have HSU:=aa (eS (w:=wr.alloc (.cells #[.int .u8 a, .int .u64 b', .int .u64 c'] 110)) [a,b',c'] #[.int .u64 a, .int .u64 b', .int .u64 c'] 25 (wr.heap.size+1) (by simp) rfl)
   have HX1:=aa ((BoxAt.new wr #[.int .u8 a, .int .u64 b', .int .u64 c'] 110).alloc (.cells #[.int .u64 a, .int .u64 b', .int .u64 c'] 25))
   clear hlb hxo
   go_wp2_with fail
   refine (bL la lb [a,b',c'] base _ 3 _ wr _ _ (by simp) HU.out HSU.out (by omega) HLB.out rfl (by omega) HUL.out (by have:=HLN.out;omega) HK.out.own (by omega)).mono ?_
   rintro en w2 ⟨A2,c2,rfl,hst2⟩
   have HST2:=aa (HK.out.trans (RowStep.fresh HU.out hst2))
   have HX2:=aa (HX1.out.step (by decide) (ao HK.out.own HU.out) hst2)
   clear hst2
   have hz2:wr.heap.size<w2.heap.size:=HX2.out.lt
   have hcx:=HX2.out.cell
   have HST4:=aa (show RowStep base v w _ w2 l2 from HY.out ▸ HST2.out)
   clear hcx
   go_wp2
   go_roundw
   case rel=>exact ⟨k+1,by omega,by go_num,aa (by rw [HL2.out];exact HY.out ▸ HST2.out)⟩
   case measure=>simp [intOf];omega
  ·obtain rfl:k=n:=by omega
   have HK2:=aa (HR.out ▸ HK.out)
   clear HK
   obtain ⟨A3,c3,hA3⟩:=bg HK2.out.own
   subst hA3
   go_wp2
   go_ret
   exact ⟨_,_,rfl,HK2.out⟩


theorem gS {r:RegP} (h:stnB r=true):r.inc≠0/\((0<=r.st/\r.st<=31)/\r.va.length<=8)/\(r.dn.length<=8/\∀d∈r.dn,d.2.1≠0/\(0<=d.2.2.1/\d.2.2.1<=99)/\(0<=d.2.2.2.2.1/\d.2.2.2.2.1<=31)/\d.2.2.2.2.2.length<=8)/\(r.ou.length<=8/\∀c∈r.ou,0<=c.2.2.1/\c.2.2.1<=31)/\r.ma.length<=16:=by
 unfold stnB at h
 simp only [Bool.and_eq_true,Bool.not_eq_true',decide_eq_false_iff_not] at h
 obtain ⟨h1,h2,h3,h4,h5⟩:=h
 refine ⟨h1,?_,⟨rC h3,fun d hd => ?_⟩,⟨?_,fun c hc => ?_⟩,rD h5⟩
 ·unfold staB at h2
  simp only [Bool.and_eq_true,decide_eq_true_eq] at h2
  exact ⟨inB_true.1 h2.1,h2.2⟩
 ·unfold dnsB at h3
  simp only [Bool.and_eq_true,Bool.not_eq_true'] at h3
  obtain ⟨k,hk,rfl⟩:=List.getElem_of_mem hd
  have h6:=anyB_false.1 h3.2 k hk
  rw [vV (List.getElem?_eq_getElem hk)] at h6
  simp only [Bool.or_eq_false_iff,decide_eq_false_iff_not,Bool.not_eq_false'] at h6
  have h7:=h6.2
  unfold repB staB at h7
  simp only [Bool.and_eq_true,decide_eq_true_eq] at h7
  exact ⟨h6.1,inB_true.1 h7.1,inB_true.1 h7.2.1,h7.2.2⟩
 ·unfold ousB at h4
  simp only [Bool.and_eq_true,decide_eq_true_eq] at h4
  exact h4.1
 ·unfold ousB at h4
  simp only [Bool.and_eq_true,Bool.not_eq_true'] at h4
  obtain ⟨k,hk,rfl⟩:=List.getElem_of_mem hc
  have h6:=anyB_false.1 h4.2.2 k hk
  rw [vW (List.getElem?_eq_getElem hk)] at h6
  simp only [Bool.or_eq_false_iff,Bool.not_eq_false'] at h6
  exact inB_true.1 h6.2
theorem mV {r:RegP} (h:mayG r=true) (h0:r.ki≠0):stnB r=true/\(r.ki=1∨r.ki=2):=by
 unfold mayG at h
 rw [if_neg h0] at h
 by_cases h1:r.ki=1
 ·rw [if_pos h1] at h
  exact ⟨h, .inl h1⟩
 ·rw [if_neg h1] at h
  by_cases h2:r.ki=2
  ·rw [if_pos h2] at h
   simp only [Bool.and_eq_true] at h
   exact ⟨h.1, .inr h2⟩
  ·rw [if_neg h2] at h
   cases h
def th (p:List UInt8) (r:RegP):List UInt8 × Int:=if mayG r then (p++regB r,0) else ([],3)
theorem oE {p:List UInt8} {r:RegP} (h:mayG r=true):th p r=(p++regB r,0):=by unfold th;rw [if_pos h]
theorem zv {p:List UInt8} {r:RegP} (h:mayG r=false):th p r=([],3):=by unfold th;rw [h];rfl

theorem ti (p:List UInt8) (k cap:Nat) (A:Option Addr) (x:RegM) (B:Nat) (w:World) (hk:p.length=k) (hp:k<=1000) (hs:Sees w B A (bv p)) (hx:RegM.ok w B x) (hB:B<=w.heap.size) :
  Calls Tryz.prog 120 #[.slice A k cap,x.v] w (yR (th p x.p) w):=by
 have hw1:=(show Below w.heap.size w (w.alloc (.cells x.box 31)) from (Below.refl _ _).alloc (Nat.le_refl _) _)
 have HW:=aa hw1
 have HX:=aa (BoxAt.new w x.box 31)
 have HMY:=aa (iE x B _ (reg_stable.below hx (hw1.mono hB)) (Nat.le_trans hB hw1.size))
 have HXO:=aa hx
 have HS:=aa hs
 have HK:=aa hk
 obtain ⟨q,hq⟩:∃q,mayG x.p=q:=⟨_,rfl⟩
 rw [hq] at HMY
 have hk8:0<=x.ki/\x.ki<=255:=hx.1.1
 clear hx hs hk hw1
 cases q with
 | false =>
  rw [zv hq]
  clear hq HXO
  obtain ⟨ki,inc,st,⟨vA,vc,vl⟩,⟨dA,dc,dl⟩,⟨oA,oc,ol⟩,la,⟨mA,mc,ml⟩⟩:=x
  simp only [RegM.v,RegM.box,Sl.v] at HMY HW HX ⊢
  go_enter Tryz.func120,Tryz.ntmps120
  go_wp2_with fail
  refine HMY.out.mono ?_
  rintro en w1 ⟨rfl,hb⟩
  have HB:=aa (HW.out.trans (hb.mono (by simp)))
  clear hb
  go_wp2
  go_ret2
  exact ⟨none,0,rfl,World.ownsRow_nil _ _ _ _,HB.out⟩
 | true =>
 rw [oE hq]
 obtain ⟨ki,inc,st,⟨vA,vc,vl⟩,⟨dA,dc,dl⟩,⟨oA,oc,ol⟩,la,⟨mA,mc,ml⟩⟩:=x
 simp only at hk8
 obtain ⟨y,rfl⟩:=Int.eq_ofNat_of_zero_le hk8.1
 have hy8:y<=255:=by omega
 have HQ:=aa hq
 obtain ⟨out,hout⟩:∃r,p++regB (RegM.p ⟨(y:Int),inc,st,⟨vA,vc,vl⟩,⟨dA,dc,dl⟩,⟨oA,oc,ol⟩,la,⟨mA,mc,ml⟩⟩)=r:=⟨_,rfl⟩
 rw [hout]
 have HOUT:=aa hout
 clear hout
 obtain ⟨q1,hq1⟩:∃r,p++numB y=r:=⟨_,rfl⟩
 have HQ1:=aa hq1
 have HL1:=aa (show q1.length<=1010 by rw [<- hq1,List.length_append];have:=av y (by omega);have:=HK.out;omega)
 clear hq hq1 hk8
 simp only [RegM.v,RegM.box,Sl.v] at HMY HW HX ⊢
 go_enter Tryz.func120,Tryz.ntmps120
 go_wp2_with fail
 refine HMY.out.mono ?_
 rintro en w1 ⟨rfl,hb⟩
 have HB:=aa (HW.out.trans (hb.mono (by simp)))
 have HX1:=aa (HX.out.below hb)
 clear hb HMY
 have hz1:w.heap.size<w1.heap.size:=HX1.out.lt
 have hcx:=HX1.out.cell
 go_wp2_with fail
 refine (aK p q1 y B A k cap w1 HK.out HQ1.out (by omega) (HS.out.below (HB.out.mono hB)) (by omega) (by have:=HK.out;omega)).mono ?_
 rintro en w2 ⟨A2,c2,rfl,ho2,hb2⟩
 have HO2:=aa ho2
 have HX2:=aa (HX1.out.below hb2)
 have HB2:=aa (HB.out.trans (hb2.mono (by omega)))
 have HBB:=aa hb2
 clear ho2 hb2 hcx
 have hz2:w.heap.size<w2.heap.size:=HX2.out.lt
 have hw12:w1.heap.size<=w2.heap.size:=HBB.out.size
 have hcx:=HX2.out.cell
 by_cases k0:y=0
 ·subst k0
  have he:out=q1:=by
   rw [<- HOUT.out,<- HQ1.out]
   unfold regB RegM.p natB
   simp
  subst he
  go_wp2
  go_ret2
  exact ⟨_,_,rfl,az (base:=w1.heap.size) (base':=w.heap.size) HO2.out (by omega),HB2.out⟩
 have hd0:((y:Int) == 0)=false:=beq_eq_false_iff_ne.2 (by omega)
 obtain ⟨hinc,⟨hst,hva⟩,⟨hdl,hdc⟩,⟨hol,hoc⟩,hml⟩:=gS (mV HQ.out (show (y:Int)≠0 by omega)).1
 unfold RegM.p at hst hva hdl hdc hol hoc hml
 simp only [List.length_map] at hst hva hdl hdc hol hoc hml
 obtain ⟨q2,hq2⟩:∃r,q1++natB inc=r:=⟨_,rfl⟩
 obtain ⟨q3,hq3⟩:∃r,q2++(natB st++varB vl)=r:=⟨_,rfl⟩
 obtain ⟨q4,hq4⟩:∃r,q3++(natB dl.length++dl.flatMap (fun d=>donB d.p))=r:=⟨_,rfl⟩
 obtain ⟨q5,hq5⟩:∃r,q4++(natB ol.length++ol.flatMap celB)=r:=⟨_,rfl⟩
 obtain ⟨q6,hq6⟩:∃r,q5++natB la=r:=⟨_,rfl⟩
 obtain ⟨q7,hq7⟩:∃r,q6++(natB ml.length++ml.flatMap mrkB)=r:=⟨_,rfl⟩
 have he:out=q7:=by
  rw [<- HOUT.out,<- hq7,<- hq6,<- hq5,<- hq4,<- hq3,<- hq2,<- HQ1.out]
  unfold regB RegM.p
  rw [if_neg (show (y:Int)≠0 by omega)]
  simp only [List.length_map,List.flatMap_map,List.append_assoc]
  rfl
 obtain ⟨⟨_,hu2,_,hu4⟩,hov,hod,hoo,hom⟩:=HXO.out
 simp only at hu2 hu4 hov hod hoo hom
 have HDC:=aa (show ∀d∈dl,(0<=d.er/\d.er<=99)/\(0<=d.st/\d.st<=31)/\d.va.l.length<=8 from fun d hd=>(hdc d.p (List.mem_map_of_mem hd)).2)
 have hlen1:=HL1.out
 have hlen2:q2.length<=1020:=by rw [<- hq2,List.length_append];have:=bK inc hu2;omega
 have hlen3:q3.length<=1600:=by rw [<- hq3,List.length_append,List.length_append];have:=aL st (by omega);have:=rE vl hov.2.2.2 (by omega);omega
 have hlen4:q4.length<=6500:=by
  rw [<- hq4,List.length_append,List.length_append]
  have:=aL dl.length (by omega)
  have:=cV (f:=fun d:DoneM=>donB d.p) dl fun z hz=>wl (hod.2.2.2 z hz) (HDC.out z hz)
  omega
 have hlen5:q5.length<=7000:=by
  rw [<- hq5,List.length_append,List.length_append]
  have:=aL ol.length (by omega)
  have:=cV (f:=celB) ol fun z hz=>wm (hoo.2.2.2 z hz) (hoc z hz)
  omega
 have hlen6:q6.length<=7010:=by rw [<- hq6,List.length_append];have:=bK la hu4;omega
 have he2:=he.symm
 clear he
 subst he2
 have HQQ:=aa (show (q1++natB inc=q2/\q2++(natB st++varB vl)=q3/\q3++(natB dl.length++dl.flatMap (fun d=>donB d.p))=q4)/\(q4++(natB ol.length++ol.flatMap celB)=q5/\q5++natB la=q6/\q6++(natB ml.length++ml.flatMap mrkB)=q7) from ⟨⟨hq2,hq3,hq4⟩,hq5,hq6,hq7⟩)
 have HLL:=aa (show q1.length<=1010/\q2.length<=1020/\q3.length<=1600/\q4.length<=6500/\q5.length<=7000/\q6.length<=7010 from ⟨hlen1,hlen2,hlen3,hlen4,hlen5,hlen6⟩)
 have HU:=aa (show U64 inc/\U64 la from ⟨hu2,hu4⟩)
 have HVA:=aa (show (0<=st/\st<=31)/\vl.length<=8/\dl.length<=8/\ol.length<=8/\ml.length<=16 from ⟨hst,hva,hdl,hol,hml⟩)
 have HOC:=aa hoc
 have HOV:=aa hov
 have HOD:=aa hod
 have HOO:=aa hoo
 have HOM:=aa hom
 clear hq2 hq3 hq4 hq5 hq6 hq7 hlen1 hlen2 hlen3 hlen4 hlen5 hlen6 hu2 hu4 hov hod hoo hom hst hva hdl hdc hol hoc hml hinc HQ k0
 have HST0:=aa (RowStep.refl HO2.out)
 have HU3:=aa ((Below.refl w2.heap.size w2).alloc (Nat.le_refl _) (.cells #[.int .u64 inc] 25))
 have HSU3:=aa (eS (w:=w2) [inc] #[.int .u64 inc] 25 _ rfl rfl)
 have HBWF:=aa (fun (u:World) (v':Value) (rr:List UInt8) (h:RowStep w1.heap.size (.slice A2 q1.length c2) w2 v' u rr)=>show Below w.heap.size w u from HB2.out.trans (h.below (r0:=q1) HO2.out (by omega) (by omega)))
 go_wp2_with fail
 refine (bL q1 q2 [inc] w1.heap.size _ 1 _ w2 _ _ (by simp) HU3.out HSU3.out (Nat.le_refl _) (by rw [uB1];exact HQQ.out.1.1) rfl (by omega) (by intro z hz;simp at hz;subst hz;exact HU.out.1) (by have:=HLL.out;omega) HO2.out (by omega)).mono ?_
 rintro en w3 ⟨A3,c3,rfl,hst3⟩
 have HST3:=aa (RowStep.fresh HU3.out hst3)
 have HX3:=aa ((HX2.out.alloc _).step (by decide) (ao HO2.out HU3.out) hst3)
 clear hst3 hcx
 have hz3:w.heap.size<w3.heap.size:=HX3.out.lt
 have hy3:w2.heap.size<=w3.heap.size:=HST3.out.grow.size
 have HBW3:=aa (HBWF.out _ _ _ HST3.out)
 have hcx:=HX3.out.cell
 go_wp2_with fail
 refine (i6 q2 q3 st ⟨vA,vc,vl⟩ vl.length rfl w1.heap.size _ B _ HQQ.out.1.2.1 HVA.out.1 (by have:=HLL.out;omega) (by have:=HVA.out;omega) (ints_stable.below HOV.out (HBW3.out.mono hB)) (by omega) HST3.out.own (by omega)).mono ?_
 rintro en w4 ⟨A4,c4,rfl,hst4⟩
 have HST4:=aa (HST3.out.trans hst4)
 have HX4:=aa (HX3.out.step (by decide) HST3.out.own hst4)
 clear hst4 hcx
 have hz4:w.heap.size<w4.heap.size:=HX4.out.lt
 have hy4:w2.heap.size<=w4.heap.size:=HST4.out.grow.size
 have HBW4:=aa (HBWF.out _ _ _ HST4.out)
 have hcx:=HX4.out.cell
 go_wp2_with fail
 refine (qg q3 q4 ⟨dA,dc,dl⟩ dl.length rfl w1.heap.size _ B _ HQQ.out.1.2.2 (by have:=HLL.out;omega) (by have:=HVA.out;omega) (dns_stable.below HOD.out (HBW4.out.mono hB)) HDC.out (by omega) HST4.out.own (by omega)).mono ?_
 rintro en w5 ⟨A5,c5,rfl,hst5⟩
 have HST5:=aa (HST4.out.trans hst5)
 have HX5:=aa (HX4.out.step (by decide) HST4.out.own hst5)
 clear hst5 hcx
 have hz5:w.heap.size<w5.heap.size:=HX5.out.lt
 have hy5:w2.heap.size<=w5.heap.size:=HST5.out.grow.size
 have HBW5:=aa (HBWF.out _ _ _ HST5.out)
 have hcx:=HX5.out.cell
 go_wp2_with fail
 refine (tf q4 q5 ⟨oA,oc,ol⟩ ol.length rfl w1.heap.size _ B _ HQQ.out.2.1 (by have:=HLL.out;omega) (by have:=HVA.out;omega) (cels_stable.below HOO.out (HBW5.out.mono hB)) HOC.out (by omega) HST5.out.own (by omega)).mono ?_
 rintro en w6 ⟨A6,c6,rfl,hst6⟩
 have HST6:=aa (HST5.out.trans hst6)
 have HX6:=aa (HX5.out.step (by decide) HST5.out.own hst6)
 clear hst6 hcx
 have HU7:=aa ((Below.refl w6.heap.size w6).alloc (Nat.le_refl _) (.cells #[.int .u64 la] 25))
 have HSU7:=aa (eS (w:=w6) [la] #[.int .u64 la] 25 _ rfl rfl)
 have hz6:w.heap.size<w6.heap.size:=HX6.out.lt
 have hy6:w2.heap.size<=w6.heap.size:=HST6.out.grow.size
 have HBW6:=aa (HBWF.out _ _ _ HST6.out)
 have hcx:=HX6.out.cell
 go_wp2_with fail
 refine (bL q5 q6 [la] w1.heap.size _ 1 _ w6 _ _ (by simp) HU7.out HSU7.out (Nat.le_refl _) (by rw [uB1];exact HQQ.out.2.2.1) rfl (by omega) (by intro z hz;simp at hz;subst hz;exact HU.out.2) (by have:=HLL.out;omega) HST6.out.own (by omega)).mono ?_
 rintro en w7 ⟨A7,c7,rfl,hst7⟩
 have HST7:=aa (HST6.out.trans (RowStep.fresh HU7.out hst7))
 have HX7:=aa ((HX6.out.alloc _).step (by decide) (ao HST6.out.own HU7.out) hst7)
 clear hst7 hcx
 have hz7:w.heap.size<w7.heap.size:=HX7.out.lt
 have hy7:w2.heap.size<=w7.heap.size:=HST7.out.grow.size
 have HBW7:=aa (HBWF.out _ _ _ HST7.out)
 have hcx:=HX7.out.cell
 go_wp2_with fail
 refine (oD q6 q7 ⟨mA,mc,ml⟩ ml.length rfl w1.heap.size _ B _ HQQ.out.2.2.2 (by have:=HLL.out;omega) (by have:=HVA.out;omega) (mrks_stable.below HOM.out (HBW7.out.mono hB)) (by omega) HST7.out.own (by omega)).mono ?_
 rintro en w8 ⟨A8,c8,rfl,hst8⟩
 have HST8:=aa (HST7.out.trans hst8)
 clear hst8 hcx
 go_wp2
 go_ret2
 exact ⟨_,_,rfl,az (base:=w1.heap.size) (base':=w.heap.size) HST8.out.own (by omega),HBWF.out _ _ _ HST8.out⟩




theorem tj {α β:Type} {f:RS->β × RS} {b:α->List UInt8} {g:α->β}:∀(l:List α) (t:List UInt8),(∀x∈l,∀t,f (b x++t,0)=(g x,(t,0)))->bk f l.length (l.flatMap b++t,0)=(l.map g,(t,0)):=by
 intro l
 induction l with
 | nil=>intro t _;rfl
 | cons x l ih =>
  intro t h
  rw [List.flatMap_cons,List.length_cons,List.append_assoc]
  show ((f _).1::(bk f l.length (f _).2).1,(bk f l.length (f _).2).2)=_
  rw [h x (by simp),ih t fun y hy=>h y (by simp [hy])]
  rfl
theorem dt {α β:Type} {f:RS->β × RS} {b:α->List UInt8} {g:α->β} {most:Nat} (l:List α) (t:List UInt8) (hm:l.length<=most) (hl:l.length<18446744073709551616) (h:∀x∈l,∀t,f (b x++t,0)=(g x,(t,0))):aX most f (natB l.length++(l.flatMap b++t),0)=(l.map g,(t,0)):=by
 unfold aX
 rw [show natB (l.length:Int)=numB l.length from rfl,fI _ hl hm]
 exact tj l t h
theorem bm {n:Int} {most:Nat} (t:List UInt8) (_:0<=n) (hm:n<=most) (h:most<18446744073709551616):numS most (natB n++t,0)=(n.toNat,(t,0)):=fI (x:=n.toNat) t (by omega) (by omega)
theorem DE {n:Int} (h0:0<=n):((n.toNat:Nat):Int)=n:=by omega


theorem ck {n:Int} (t:List UInt8) (h:U64 n):aC (natB n++t,0)=(n.toNat,(t,0)):=by
 unfold U64 at h
 exact fI (x:=n.toNat) t (by omega) (by omega)
theorem dD {n:Int} (h:U64 n):Cuts aC (natB n):=by
 unfold U64 at h
 exact j3 (x:=n.toNat) (by omega)
theorem dd {n:Int} {most:Nat} (h:n<=1000000):Cuts (numS most) (natB n):=j3 (x:=n.toNat) (by omega)
theorem CC:dN aC:=rfl

theorem bB {α β:Type} {f:RS->α × RS} {h:RS->β × RS} {b c:List UInt8} (hc:Cuts f b) (hput:∀t,(f (b++t,0)).2=(t,0)) (hh:(h ([],2)).2=([],2)) (hn:∀k,k<c.length->(h (c.take k,0)).2=([],2)):∀k,k<(b++c).length->(h (f ((b++c).take k,0)).2).2=([],2):=fun k hk=>by
 rw [List.length_append] at hk
 by_cases h1:k<b.length
 ·rw [eG h1,hc k h1,hh]
 ·rw [eH (by omega),hput]
  exact hn _ (by omega)

theorem mW {l:List Int} (h:∀x∈l,I64 x) (h1:l.length<=1000) (t:List UInt8):varS (varB l++t,0)=(l,(t,0)):=by
 unfold varS varB
 rw [List.append_assoc,dt (b:=intB) (g:=id) l t h1 (by omega) (fun x hx t=>mt t (h x hx).1 (h x hx).2),List.map_id]
theorem CD:dN varS:=pU lp
theorem oG {l:List Int} (h:∀x∈l,I64 x) (h1:l.length<=1000):Cuts varS (varB l):=by
 unfold varB
 exact fJ lp l h1 (by omega) fun x hx=>⟨fun t=>mt t (h x hx).1 (h x hx).2,oa (h x hx).1 (h x hx).2⟩

def BA (d:fY):Prop:=U8 d.1/\U64 d.2.1/\(0<=d.2.2.1/\d.2.2.1<=1000)/\U64 d.2.2.2.1/\(0<=d.2.2.2.2.1/\d.2.2.2.2.1<=1000)/\(∀x∈d.2.2.2.2.2,I64 x)/\d.2.2.2.2.2.length<=1000
theorem back {n:Int} (h:0<=n):((n.toNat:Nat):Int)=n:=by omega
theorem kk {d:fY} (h:BA d) (t:List UInt8):eP (donB d++t,0)=(d,(t,0)):=by
 obtain ⟨cl,sq,er,inc,st,va⟩:=d
 obtain ⟨h1,h2,h3,h4,h5,h6,h7⟩:=h
 simp only at h1 h2 h3 h4 h5 h6 h7
 have g1:=h1
 have g2:=h2
 have g4:=h4
 unfold U8 at g1
 unfold U64 at g2 g4
 unfold eP repS donB
 simp only [List.append_assoc]
 rw [bm _ g1.1 (by omega) (by omega)]
 simp only
 rw [ck _ h2]
 simp only
 rw [bm _ h3.1 (by omega) (by omega)]
 simp only
 rw [ck _ h4]
 simp only
 rw [bm _ h5.1 (by omega) (by omega)]
 simp only
 rw [mW h6 h7,back g1.1,back g2.1,back h3.1,back g4.1,back h5.1]
theorem CE:dN repS:=rfl
theorem qh:dN eP:=rfl
theorem tn {d:fY} (h:BA d):Cuts eP (donB d):=by
 obtain ⟨cl,sq,er,inc,st,va⟩:=d
 obtain ⟨h1,h2,h3,h4,h5,h6,h7⟩:=h
 simp only at h1 h2 h3 h4 h5 h6 h7
 have g1:=h1
 unfold U8 at g1
 intro k hk
 unfold donB at hk ⊢
 simp only at hk ⊢
 refine bB (h:=fun s=>((),(repS (aC s).2).2)) (dd (by omega)) (fun t=>by rw [bm _ g1.1 (by omega) (by omega)]) rfl ?_ k hk
 refine bB (h:=fun s=>((),(repS s).2)) (dD h2) (fun t=>by rw [ck _ h2]) rfl ?_
 refine bB (h:=fun s=>((),(varS (numS 1000 (aC s).2).2).2)) (dd (by omega)) (fun t=>by rw [bm _ h3.1 (by omega) (by omega)]) rfl ?_
 refine bB (h:=fun s=>((),(varS (numS 1000 s).2).2)) (dD h4) (fun t=>by rw [ck _ h4]) rfl ?_
 refine bB (h:=fun s=>((),(varS s).2)) (dd (by omega)) (fun t=>by rw [bm _ h5.1 (by omega) (by omega)]) rfl ?_
 exact oG h6 h7

def BB (c:CelM):Prop:=jm c/\(0<=c.2.2.1/\c.2.2.1<=1000)
theorem mX {c:CelM} (h:BB c) (t:List UInt8):celS (celB c++t,0)=(c,(t,0)):=by
 obtain ⟨n,tg,ac,ar⟩:=c
 obtain ⟨⟨h1,h2,h3,h4⟩,h5⟩:=h
 simp only at h1 h2 h3 h4 h5
 have g1:=h1
 have g2:=h2
 unfold U64 at g1
 unfold U8 at g2
 unfold celS celB
 simp only [List.append_assoc]
 rw [ck _ h1]
 simp only
 rw [bm _ g2.1 (by omega) (by omega)]
 simp only
 rw [bm _ h5.1 (by omega) (by omega)]
 simp only
 rw [mt t h4.1 h4.2,back g1.1,back g2.1,back h5.1]
theorem tp:dN celS:=rfl
theorem wo {c:CelM} (h:BB c):Cuts celS (celB c):=by
 obtain ⟨n,tg,ac,ar⟩:=c
 obtain ⟨⟨h1,h2,h3,h4⟩,h5⟩:=h
 simp only at h1 h2 h3 h4 h5
 have g2:=h2
 unfold U8 at g2
 intro k hk
 unfold celB at hk ⊢
 simp only at hk ⊢
 refine bB (h:=fun s=>((),(intS (numS 1000 (numS 255 s).2).2).2)) (dD h1) (fun t=>by rw [ck _ h1]) rfl ?_ k hk
 refine bB (h:=fun s=>((),(intS (numS 1000 s).2).2)) (dd (by omega)) (fun t=>by rw [bm _ g2.1 (by omega) (by omega)]) rfl ?_
 refine bB (h:=fun s=>((),(intS s).2)) (dd (by omega)) (fun t=>by rw [bm _ h5.1 (by omega) (by omega)]) rfl ?_
 exact oa h4.1 h4.2
theorem rF {m:MrkM} (h:gP m) (t:List UInt8):mrkS (mrkB m++t,0)=(m,(t,0)):=by
 obtain ⟨a,b,c⟩:=m
 obtain ⟨h1,h2,h3⟩:=h
 simp only at h1 h2 h3
 have g1:=h1
 have g2:=h2
 have g3:=h3
 unfold U8 at g1
 unfold U64 at g2 g3
 unfold mrkS mrkB
 simp only [List.append_assoc]
 rw [bm _ g1.1 (by omega) (by omega)]
 simp only
 rw [ck _ h2]
 simp only
 rw [ck _ h3,back g1.1,back g2.1,back g3.1]
theorem tq:dN mrkS:=rfl
theorem wq {m:MrkM} (h:gP m):Cuts mrkS (mrkB m):=by
 obtain ⟨a,b,c⟩:=m
 obtain ⟨h1,h2,h3⟩:=h
 simp only at h1 h2 h3
 have g1:=h1
 unfold U8 at g1
 intro k hk
 unfold mrkB at hk ⊢
 simp only at hk ⊢
 refine bB (h:=fun s=>((),(aC (aC s).2).2)) (dd (by omega)) (fun t=>by rw [bm _ g1.1 (by omega) (by omega)]) rfl ?_ k hk
 refine bB (h:=fun s=>((),(aC s).2)) (dD h2) (fun t=>by rw [ck _ h2]) rfl ?_
 exact dD h3

structure RegOk (r:RegP):Prop where
 ki:U8 r.ki
 inc:U64 r.inc
 st:0<=r.st/\r.st<=1000
 va:(∀x∈r.va,I64 x)/\r.va.length<=1000
 dn:(∀d∈r.dn,BA d)/\r.dn.length<=1000
 ou:(∀c∈r.ou,BB c)/\r.ou.length<=1000
 la:U64 r.la
 ma:(∀m∈r.ma,gP m)/\r.ma.length<=1000
theorem mY {w:World} {B:Nat} {x:RegM} (hx:RegM.ok w B x) (hm:mayG x.p=true):RegOk x.p:=by
 by_cases h0:x.p.ki=0
 ·unfold mayG at hm
  rw [if_pos h0,decide_eq_true_eq] at hm
  rw [hm]
  constructor <;> simp [zeroP,U8,U64]
 ·obtain ⟨-,h1,h2,h3,h4⟩:=gS (mV hm h0).1
  refine ⟨hx.1.1,hx.1.2.1,⟨h1.1.1,by have:=h1.1.2;omega⟩,⟨hx.2.1.2.2.2,by have:=h1.2;omega⟩,⟨fun d hd => ?_,by have:=h2.1;omega⟩,⟨fun c hc=>⟨hx.2.2.2.1.2.2.2 c hc,(h3.2 c hc).1,by have:=(h3.2 c hc).2;omega⟩,by have:=h3.1;omega⟩,hx.1.2.2.2,⟨hx.2.2.2.2.2.2.2,by omega⟩⟩
  obtain ⟨y,hy,rfl⟩:=List.mem_map.1 hd
  have hy2:=hx.2.2.1.2.2.2 y hy
  have hy3:=h2.2 _ hd
  exact ⟨hy2.1.1,hy2.1.2.1,⟨hy3.2.1.1,by have:=hy3.2.1.2;omega⟩,hy2.1.2.2.2.1,⟨hy3.2.2.1.1,by have:=hy3.2.2.1.2;omega⟩,hy2.2.2.2.2,by have:=hy3.2.2.2;omega⟩
theorem Am {α:Type} {n:Nat} (_:α) (t:List UInt8) (h:n<=1000):numS 1000 (natB n++t,0)=(n,(t,0)):=by
 rw [bm _ (by omega) (by omega) (by omega)]
 simp
theorem rG {r:RegP} (h:RegOk r) (h0:r.ki≠0) (t:List UInt8):regS (regB r++t,0)=(r,(t,0)):=by
 obtain ⟨ki,inc,st,va,dn,ou,la,ma⟩:=r
 obtain ⟨hk,hi,hs,hv,hd,ho,hl,hm⟩:=h
 simp only at hk hi hs hv hd ho hl hm h0
 have g1:=hk
 have g2:=hi
 have g3:=hl
 unfold U8 at g1
 unfold U64 at g2 g3
 unfold regS regB
 simp only [if_neg h0,List.append_assoc]
 rw [bm _ g1.1 (by omega) (by omega)]
 simp only
 rw [ck _ hi]
 simp only
 rw [bm _ hs.1 (by omega) (by omega)]
 simp only
 rw [mW hv.1 hv.2]
 simp only
 rw [dt (b:=donB) (g:=id) dn _ hd.2 (Nat.lt_of_le_of_lt hd.2 (by omega)) (fun x hx t=>kk (hd.1 x hx) t)]
 simp only
 rw [dt (b:=celB) (g:=id) ou _ ho.2 (Nat.lt_of_le_of_lt ho.2 (by omega)) (fun x hx t=>mX (ho.1 x hx) t)]
 simp only
 rw [ck _ hl]
 simp only
 rw [dt (b:=mrkB) (g:=id) ma _ hm.2 (Nat.lt_of_le_of_lt hm.2 (by omega)) (fun x hx t=>rF (hm.1 x hx) t)]
 simp only [List.map_id]
 rw [if_neg (by omega),back g1.1,back g2.1,back hs.1,back g3.1]
theorem wu (t:List UInt8):regS (regB zeroP++t,0)=(zeroP,(t,0)):=by
 unfold regS regB zeroP
 simp only [if_true,List.append_nil]
 rw [bm _ (by omega) (by omega) (by omega)]
 simp
theorem Eo:(regS ([],2)).2=([],2):=rfl

theorem wv {r:RegP} (h:RegOk r):Cuts regS (regB r):=by
 intro k hk
 have hh:∀s:RS,s=([],2)->(aX 1000 mrkS (aC (aX 1000 celS (aX 1000 eP (varS (numS 1000 (aC s).2).2).2).2).2).2).2=([],2):=fun s e=>by subst e;rfl
 have hki:=h.ki
 unfold U8 at hki
 have hex:(regS ((regB r).take k,0)).2=if (numS 255 ((regB r).take k,0)).1=0 then (numS 255 ((regB r).take k,0)).2 else (aX 1000 mrkS (aC (aX 1000 celS (aX 1000 eP (varS (numS 1000 (aC (numS 255 ((regB r).take k,0)).2).2).2).2).2).2).2).2:=by
  unfold regS
  simp only
  split <;> rfl
 rw [hex]
 unfold regB at hk ⊢
 rw [List.length_append] at hk
 by_cases h1:k<(natB r.ki).length
 ·rw [eG h1,dd (by omega) k h1]
  split
  ·rfl
  ·exact hh _ rfl
 ·by_cases h0:r.ki=0
  ·rw [if_pos h0] at hk
   simp at hk
   omega
  ·rw [eH (by omega),bm _ hki.1 (by omega) (by omega)]
   simp only
   rw [if_neg (by omega)]
   rw [if_neg h0] at hk ⊢
   obtain ⟨ki,inc,st,va,dn,ou,la,ma⟩:=r
   obtain ⟨_,hi,hs,hv,hd,ho,hl,hm⟩:=h
   simp only at hi hs hv hd ho hl hm hk h1 ⊢
   have hkk:k - (natB ki).length<(natB inc++(natB st++(varB va++((natB dn.length++dn.flatMap donB)++((natB ou.length++ou.flatMap celB)++(natB la++(natB ma.length++ma.flatMap mrkB))))))).length:=by omega
   revert hkk
   generalize k - (natB ki).length=j
   intro hj
   have cd:Cuts (aX 1000 eP) (natB dn.length++dn.flatMap donB):=fJ qh dn hd.2 (Nat.lt_of_le_of_lt hd.2 (by omega)) fun x hx=>⟨kk (hd.1 x hx),tn (hd.1 x hx)⟩
   have cc:Cuts (aX 1000 celS) (natB ou.length++ou.flatMap celB):=fJ tp ou ho.2 (Nat.lt_of_le_of_lt ho.2 (by omega)) fun x hx=>⟨mX (ho.1 x hx),wo (ho.1 x hx)⟩
   have cm:Cuts (aX 1000 mrkS) (natB ma.length++ma.flatMap mrkB):=fJ tq ma hm.2 (Nat.lt_of_le_of_lt hm.2 (by omega)) fun x hx=>⟨rF (hm.1 x hx),wq (hm.1 x hx)⟩
   refine bB (h:=fun s=>((),(aX 1000 mrkS (aC (aX 1000 celS (aX 1000 eP (varS (numS 1000 s).2).2).2).2).2).2)) (dD hi) (fun t=>by rw [ck _ hi]) rfl ?_ j hj
   refine bB (h:=fun s=>((),(aX 1000 mrkS (aC (aX 1000 celS (aX 1000 eP (varS s).2).2).2).2).2)) (dd (by omega)) (fun t=>by rw [bm _ hs.1 (by omega) (by omega)]) rfl ?_
   refine bB (h:=fun s=>((),(aX 1000 mrkS (aC (aX 1000 celS (aX 1000 eP s).2).2).2).2)) (oG hv.1 hv.2) (fun t=>by rw [mW hv.1 hv.2]) rfl ?_
   refine bB (h:=fun s=>((),(aX 1000 mrkS (aC (aX 1000 celS s).2).2).2)) cd (fun t=>by rw [List.append_assoc,dt (b:=donB) (g:=id) dn t hd.2 (Nat.lt_of_le_of_lt hd.2 (by omega)) (fun x hx t=>kk (hd.1 x hx) t)]) rfl ?_
   refine bB (h:=fun s=>((),(aX 1000 mrkS (aC s).2).2)) cc (fun t=>by rw [List.append_assoc,dt (b:=celB) (g:=id) ou t ho.2 (Nat.lt_of_le_of_lt ho.2 (by omega)) (fun x hx t=>mX (ho.1 x hx) t)]) rfl ?_
   refine bB (h:=fun s=>((),(aX 1000 mrkS s).2)) (dD hl) (fun t=>by rw [ck _ hl]) rfl ?_
   exact cm
theorem BC {s:RS} (h:RSok s):RSok (regS s).2:=by
 unfold regS
 simp only
 split
 ·exact (aG h).1
 ·exact eE (fun _ h=>p8 h) (aO (eE (fun _ h=>p7 h) (eE (fun _ h=>mQ h) (mP (aG (aO (aG h).1).1).1)))).1

theorem qi {g:Nat} {s:RS} {w:World} (h:Rdr w g s.1 s.2) (hs:RSok s):Calls Tryz.prog 206 #[aS g] w fun e w'=>e = .returned (.bool (!(decide (s.2=0))))/\Below w.heap.size w w':=by
 have H:=aa (h.made (.cells #[.pointer (some ⟨g,0,none⟩)] 283))
 have HE:=aa (n9 H.out)
 obtain ⟨q,hq⟩:∃q,endS s=q:=⟨_,rfl⟩
 rw [hq] at HE
 have hc:(s.2=0/\(q=0∨q=4))∨(s.2≠0/\q≠0/\q≠4):=by
  rw [<- hq]
  unfold endS
  rcases hs.1 with h0|h0|h0|h0
  ·left
   rw [if_pos h0]
   refine ⟨h0,?_⟩
   split <;> simp
  all_goals (right;rw [if_neg (by omega)];omega)
 unfold aS
 clear h hs hq
 rcases hc with ⟨h0,h1|h1⟩ | ⟨h0,h1,h2⟩
 ·have HD:=aa (show (!(decide (s.2=0)))=false by simp [h0])
  subst h1
  clear h0
  go_enter Tryz.func206,Tryz.ntmps206
  go_wp2_with (refine HE.out.mono ?_;rintro e w1 ⟨rfl,rfl⟩)
  go_ret
  exact ⟨ae HD.out.symm,(Below.refl _ _).alloc (Nat.le_refl _) _⟩
 ·have HD:=aa (show (!(decide (s.2=0)))=false by simp [h0])
  subst h1
  clear h0
  go_enter Tryz.func206,Tryz.ntmps206
  go_wp2_with (refine HE.out.mono ?_;rintro e w1 ⟨rfl,rfl⟩)
  go_ret
  exact ⟨ae HD.out.symm,(Below.refl _ _).alloc (Nat.le_refl _) _⟩
 ·have HD:=aa (show (!(decide (s.2=0)))=true by simp [h0])
  have b0:(q != 0)=true:=bne_iff_ne.2 h1
  have b4:(q != 4)=true:=bne_iff_ne.2 h2
  clear h0 h1 h2
  go_enter Tryz.func206,Tryz.ntmps206
  go_wp2_with (refine HE.out.mono ?_;rintro e w1 ⟨rfl,rfl⟩)
  go_ret
  exact ⟨ae HD.out.symm,(Below.refl _ _).alloc (Nat.le_refl _) _⟩

def getS (s:RS):RegP × RS:=if (regS s).2.2=0 then (if mayG (regS s).1 then regS s else (zeroP,([],3))) else (zeroP,(regS s).2)


theorem tr {g:Nat} {s:RS} {w:World} (h:Rdr w g s.1 s.2) (hs:RSok s):Calls Tryz.prog 134 #[.pointer (some ⟨g,0,none⟩)] w (gv RegM.v RegM.p RegM.ok RegM.ft w g (getS s)):=by
 have hgl:g<w.heap.size:=h.glt
 have HREG:=aa (zu (w:=((w.alloc (.cells #[.int .u8 0, .int .u64 0, .int .i64 0, .slice none 0 0, .slice none 0 0, .slice none 0 0, .int .u64 0, .slice none 0 0] 31)).alloc (.cells #[.pointer (some ⟨g,0,none⟩)] 283))) ((h.made _).made _) hs)
 have HOKS:=aa (BC hs)
 have HZ0:=aa (show BoxAt ((w.alloc (.cells #[.int .u8 0, .int .u64 0, .int .i64 0, .slice none 0 0, .slice none 0 0, .slice none 0 0, .int .u64 0, .slice none 0 0] 31)).alloc (.cells #[.pointer (some ⟨g,0,none⟩)] 283)) w.heap.size #[.int .u8 0, .int .u64 0, .int .i64 0, .slice none 0 0, .slice none 0 0, .slice none 0 0, .int .u64 0, .slice none 0 0] 31 from (BoxAt.new w _ _).alloc (.cells #[.pointer (some ⟨g,0,none⟩)] 283))
 have HT0:=aa (show BoxAt ((w.alloc (.cells #[.int .u8 0, .int .u64 0, .int .i64 0, .slice none 0 0, .slice none 0 0, .slice none 0 0, .int .u64 0, .slice none 0 0] 31)).alloc (.cells #[.pointer (some ⟨g,0,none⟩)] 283)) (w.heap.size+1) #[.pointer (some ⟨g,0,none⟩)] 283 from by
  have h1:=BoxAt.new (w.alloc (.cells #[.int .u8 0, .int .u64 0, .int .i64 0, .slice none 0 0, .slice none 0 0, .slice none 0 0, .int .u64 0, .slice none 0 0] 31)) #[.pointer (some ⟨g,0,none⟩)] 283
  simpa using h1)
 obtain ⟨R,hR⟩:∃R,regS s=R:=⟨_,rfl⟩
 obtain ⟨G,hG⟩:∃G,getS s=G:=⟨_,rfl⟩
 rw [hG]
 have HGS:=aa (show G=if R.2.2=0 then (if mayG R.1 then R else (zeroP,([],3))) else (zeroP,R.2) by rw [<- hG,<- hR];rfl)
 rw [hR] at HREG HOKS
 clear h hs hR hG
 obtain ⟨rp,rs⟩:=R
 unfold aS at HREG
 go_enter Tryz.func134,Tryz.ntmps134
 go_wp2_with fail
 refine HREG.out.mono ?_
 rintro en w2 ⟨x,rfl,hp,ho,hl,hr,hg⟩
 have HPX:=aa hp
 have HLX:=aa hl
 have HOX:=aa (reg_local.below ho ((Below.refl _ _).alloc (Nat.le_refl _) (.cells x.box 31)))
 have HR2:=aa (hr.made (.cells x.box 31))
 have hz2:w.heap.size+2<=w2.heap.size:=by have h:=hg.size;simpa using h
 have HG2:=aa (show w.grownBy (w2.alloc (.cells x.box 31)) (some g) from ag (aj (aj hg)) (World.grownBy_alloc _ _ _))
 have HZ2:=aa (show BoxAt (w2.alloc (.cells x.box 31)) w.heap.size #[.int .u8 0, .int .u64 0, .int .i64 0, .slice none 0 0, .slice none 0 0, .slice none 0 0, .int .u64 0, .slice none 0 0] 31 from BoxAt.alloc (aB hg HZ0.out (by omega)) _)
 have HT2w:=aa (show BoxAt w2 (w.heap.size+1) #[.pointer (some ⟨g,0,none⟩)] 283 from aB hg HT0.out (by omega))
 have HT2:=aa (HT2w.out.alloc (.cells x.box 31))
 have HX2:=aa (BoxAt.new w2 x.box 31)
 have HFL:=aa (qi HR2.out HOKS.out)
 have HMY:=aa (fun (u:World) (hb:Below (w2.alloc (.cells x.box 31)).heap.size (w2.alloc (.cells x.box 31)) u)=>iE x (w2.alloc (.cells x.box 31)).heap.size u (reg_stable.below HOX.out hb) hb.size)
 rw [show mayG x.p=mayG rp by rw [HPX.out]] at HMY
 have HLO:=aa (show w.heap.size<((w.alloc (.cells #[.int .u8 0, .int .u64 0, .int .i64 0, .slice none 0 0, .slice none 0 0, .slice none 0 0, .int .u64 0, .slice none 0 0] 31)).alloc (.cells #[.pointer (some ⟨g,0,none⟩)] 283)).heap.size by simp;omega)
 clear hp ho hl hr hg HREG HZ0 HT0
 obtain ⟨ki,inc,st,⟨vA,vc,vl⟩,⟨dA,dc,dl⟩,⟨oA,oc,ol⟩,la,⟨mA,mc,ml⟩⟩:=x
 simp only [RegM.v,RegM.box,Sl.v] at HR2 HG2 HZ2 HT2 HX2 HFL HMY HOX ⊢
 unfold aS at HFL
 have hct:=HT2w.out.cell
 have hw1:w.heap.size+1<w2.heap.size:=by omega
 have hw0:w.heap.size<w2.heap.size:=by omega
 go_wp2_with fail
 refine HFL.out.mono ?_
 rintro en w3 ⟨rfl,hb3⟩
 have HR3:=aa (HR2.out.below hb3)
 have HG3:=aa (aP HG2.out hb3)
 have HZ3:=aa (HZ2.out.below hb3)
 have HT3:=aa (HT2.out.below hb3)
 have HX3:=aa (HX2.out.below hb3)
 have HOX3:=aa (reg_local.below HOX.out hb3)
 have HB3:=aa hb3
 clear hb3 hct
 have hz3:w2.heap.size<w3.heap.size:=HX3.out.lt
 have hw2:w.heap.size<w3.heap.size:=by omega
 have hw3:w.heap.size+1<w3.heap.size:=by omega
 by_cases he:rs.2=0
 case neg =>
  have hq:G=(zeroP,rs):=by rw [HGS.out,if_neg he]
  have hd:(!(decide (rs.2=0)))=true:=by simp [he]
  clear HGS
  subst hq
  clear he
  have r0:=(HZ3.out.cell 0).trans (show _=some (.int .u8 0:Value) from rfl)
  have g0:=HZ3.out.frozen 0
  have r1:=(HZ3.out.cell 1).trans (show _=some (.int .u64 0:Value) from rfl)
  have g1:=HZ3.out.frozen 1
  have r2:=(HZ3.out.cell 2).trans (show _=some (.int .i64 0:Value) from rfl)
  have g2:=HZ3.out.frozen 2
  have r3:=(HZ3.out.cell 3).trans (show _=some (.slice none 0 0:Value) from rfl)
  have g3:=HZ3.out.frozen 3
  have r4:=(HZ3.out.cell 4).trans (show _=some (.slice none 0 0:Value) from rfl)
  have g4:=HZ3.out.frozen 4
  have r5:=(HZ3.out.cell 5).trans (show _=some (.slice none 0 0:Value) from rfl)
  have g5:=HZ3.out.frozen 5
  have r6:=(HZ3.out.cell 6).trans (show _=some (.int .u64 0:Value) from rfl)
  have g6:=HZ3.out.frozen 6
  have r7:=(HZ3.out.cell 7).trans (show _=some (.slice none 0 0:Value) from rfl)
  have g7:=HZ3.out.frozen 7
  rw [hd]
  clear hd
  go_wp2
  refine bodyPost_ret (v := .agg #[.int .u8 0, .int .u64 0, .int .i64 0, .slice none 0 0, .slice none 0 0, .slice none 0 0, .int .u64 0, .slice none 0 0]) (by simp [results,Tryz.results134,go_sem,r0,r1,r2,r3,r4,r5,r6,r7]) rfl ?_
  clear r0 g0 r1 g1 r2 g2 r3 g3 r4 g4 r5 g5 r6 g6 r7 g7
  exact ⟨zeroM,rfl,rfl,bA _ _,cY _ _,((((((((HR3.out.stored (by omega)).stored (by omega)).stored (by omega)).stored (by omega)).stored (by omega)).stored (by omega)).stored (by omega)).stored (by omega)),(ab (ab (ab (ab (ab (ab (ab (ab HG3.out (Nat.le_refl _)) (Nat.le_refl _)) (Nat.le_refl _)) (Nat.le_refl _)) (Nat.le_refl _)) (Nat.le_refl _)) (Nat.le_refl _)) (Nat.le_refl _))⟩
 have hd:(!(decide (rs.2=0)))=false:=by simp [he]
 rw [hd]
 clear hd
 have HE0:=aa he
 have hG2:G=if mayG rp then (rp,rs) else (zeroP,([],3)):=by rw [HGS.out,if_pos he]
 clear HGS he
 obtain ⟨q,hq⟩:∃q,mayG rp=q:=⟨_,rfl⟩
 rw [hq] at HMY hG2
 have HGQ:=aa hG2
 clear hq hG2
 have hcx:=HX3.out.cell
 go_wp2_with fail
 refine (HMY.out _ HB3.out).mono ?_
 rintro en w4 ⟨rfl,hb4⟩
 have HR4:=aa (HR3.out.below hb4)
 have HG4:=aa (aP HG3.out hb4)
 have HZ4:=aa (HZ3.out.below hb4)
 have HT4:=aa (HT3.out.below hb4)
 have HX4:=aa (HX3.out.below hb4)
 have HOX4:=aa (reg_local.below HOX3.out hb4)
 clear hb4 hcx
 have hz4:w2.heap.size<w4.heap.size:=HX4.out.lt
 have hw4:w.heap.size<w4.heap.size:=by omega
 have hw5:w.heap.size+1<w4.heap.size:=by omega
 cases q with
 | true =>
  have hG3:G=(rp,rs):=HGQ.out
  clear HGQ
  subst hG3
  have hcx:=HX4.out.cell
  have r0:=(HZ4.out.cell 0).trans (show _=some (.int .u8 0:Value) from rfl)
  have g0:=HZ4.out.frozen 0
  have r1:=(HZ4.out.cell 1).trans (show _=some (.int .u64 0:Value) from rfl)
  have g1:=HZ4.out.frozen 1
  have r2:=(HZ4.out.cell 2).trans (show _=some (.int .i64 0:Value) from rfl)
  have g2:=HZ4.out.frozen 2
  have r3:=(HZ4.out.cell 3).trans (show _=some (.slice none 0 0:Value) from rfl)
  have g3:=HZ4.out.frozen 3
  have r4:=(HZ4.out.cell 4).trans (show _=some (.slice none 0 0:Value) from rfl)
  have g4:=HZ4.out.frozen 4
  have r5:=(HZ4.out.cell 5).trans (show _=some (.slice none 0 0:Value) from rfl)
  have g5:=HZ4.out.frozen 5
  have r6:=(HZ4.out.cell 6).trans (show _=some (.int .u64 0:Value) from rfl)
  have g6:=HZ4.out.frozen 6
  have r7:=(HZ4.out.cell 7).trans (show _=some (.slice none 0 0:Value) from rfl)
  have g7:=HZ4.out.frozen 7
  go_wp2
  refine bodyPost_ret (v := .agg #[.int .u8 ki, .int .u64 inc, .int .i64 st, .slice vA vl.length vc, .slice dA dl.length dc, .slice oA ol.length oc, .int .u64 la, .slice mA ml.length mc]) (by simp [results,Tryz.results134,go_sem,r0,r1,r2,r3,r4,r5,r6,r7]) rfl ?_
  clear r0 g0 r1 g1 r2 g2 r3 g3 r4 g4 r5 g5 r6 g6 r7 g7 hcx
  exact ⟨⟨ki,inc,st,⟨vA,vc,vl⟩,⟨dA,dc,dl⟩,⟨oA,oc,ol⟩,la,⟨mA,mc,ml⟩⟩,rfl,HPX.out,(af reg_local (af reg_local (af reg_local (af reg_local (af reg_local (af reg_local (af reg_local (af reg_local HOX4.out HLX.out HLO.out) HLX.out HLO.out) HLX.out HLO.out) HLX.out HLO.out) HLX.out HLO.out) HLX.out HLO.out) HLX.out HLO.out) HLX.out HLO.out),HLX.out.more (by simp;omega) (by have h1:=HG4.out.size;simp [World.setCell];omega),((((((((HR4.out.stored (by omega)).stored (by omega)).stored (by omega)).stored (by omega)).stored (by omega)).stored (by omega)).stored (by omega)).stored (by omega)),(ab (ab (ab (ab (ab (ab (ab (ab HG4.out (Nat.le_refl _)) (Nat.le_refl _)) (Nat.le_refl _)) (Nat.le_refl _)) (Nat.le_refl _)) (Nat.le_refl _)) (Nat.le_refl _)) (Nat.le_refl _))⟩
 | false =>
  have hG3:G=(zeroP,([],3)):=HGQ.out
  clear HGQ
  subst hG3
  have hct:=HT4.out.cell
  have HF:=aa (d6 3 (show Rdr w4 g rs.1 0 from HE0.out ▸ HR4.out) (by omega))
  go_wp2_with fail
  refine HF.out.mono ?_
  rintro en w5 ⟨rfl,hr5,hg5⟩
  have HR5:=aa hr5
  have HG5:=aa (ag HG4.out hg5)
  have HZ5:=aa (show BoxAt w5 w.heap.size #[.int .u8 0, .int .u64 0, .int .i64 0, .slice none 0 0, .slice none 0 0, .slice none 0 0, .int .u64 0, .slice none 0 0] 31 from aB hg5 HZ4.out (by omega))
  have hw6:w.heap.size<w5.heap.size:=HZ5.out.lt
  clear hr5 hg5 hct
  have r0:=(HZ5.out.cell 0).trans (show _=some (.int .u8 0:Value) from rfl)
  have g0:=HZ5.out.frozen 0
  have r1:=(HZ5.out.cell 1).trans (show _=some (.int .u64 0:Value) from rfl)
  have g1:=HZ5.out.frozen 1
  have r2:=(HZ5.out.cell 2).trans (show _=some (.int .i64 0:Value) from rfl)
  have g2:=HZ5.out.frozen 2
  have r3:=(HZ5.out.cell 3).trans (show _=some (.slice none 0 0:Value) from rfl)
  have g3:=HZ5.out.frozen 3
  have r4:=(HZ5.out.cell 4).trans (show _=some (.slice none 0 0:Value) from rfl)
  have g4:=HZ5.out.frozen 4
  have r5:=(HZ5.out.cell 5).trans (show _=some (.slice none 0 0:Value) from rfl)
  have g5:=HZ5.out.frozen 5
  have r6:=(HZ5.out.cell 6).trans (show _=some (.int .u64 0:Value) from rfl)
  have g6:=HZ5.out.frozen 6
  have r7:=(HZ5.out.cell 7).trans (show _=some (.slice none 0 0:Value) from rfl)
  have g7:=HZ5.out.frozen 7
  go_wp2
  refine bodyPost_ret (v := .agg #[.int .u8 0, .int .u64 0, .int .i64 0, .slice none 0 0, .slice none 0 0, .slice none 0 0, .int .u64 0, .slice none 0 0]) (by simp [results,Tryz.results134,go_sem,r0,r1,r2,r3,r4,r5,r6,r7]) rfl ?_
  clear r0 g0 r1 g1 r2 g2 r3 g3 r4 g4 r5 g5 r6 g6 r7 g7
  exact ⟨zeroM,rfl,rfl,bA _ _,cY _ _,((((((((HR5.out.stored (by omega)).stored (by omega)).stored (by omega)).stored (by omega)).stored (by omega)).stored (by omega)).stored (by omega)).stored (by omega)),(ab (ab (ab (ab (ab (ab (ab (ab HG5.out (Nat.le_refl _)) (Nat.le_refl _)) (Nat.le_refl _)) (Nat.le_refl _)) (Nat.le_refl _)) (Nat.le_refl _)) (Nat.le_refl _)) (Nat.le_refl _))⟩
open Go.ChangeShapes Go.WideShapes Go.ChangeAt Go.RowKit Go.Joins Go.Deep

section
variable {H : Type} {enc : TypeId × Value -> H} {P : Program} {w : World} {base : Nat} {spare : Nat -> Bool} {held : Bool}
theorem ed {e:TypeId} {fs:Array Field} {xs:List Value} {n:Nat} {y:DataW H × List MemPlace} (he:P.underlying e=some (.struct fs)) (h:DataW.trod enc P w base spare held n e xs=some y)
  (j:Nat) {f:Field} (hj:fs[j]?=some f) {o q:Nat} {ty:TypeId} {cs:List Value} (ht:f.type=ty) (ho:f.offset=o) (hc:P.cellsOf ty=q) (hx:(xs.drop o).take q=cs) :
  ∃k z,DataW.trod enc P w base spare held k ty cs=some z:=by
 obtain ⟨ys,k,_,_,_,hlen,hf⟩:=DataW.trod_struct he h
 have h1:=hf j f hj
 rw [ht,ho,hc,hx] at h1
 have hjl:j<ys.length:=by rw [hlen];exact (Array.getElem?_eq_some_iff.1 hj).1
 exact ⟨k,ys[j],h1.trans (List.getElem?_eq_getElem hjl)⟩
end

section
variable {H : Type} {enc : TypeId × Value -> H} {w : World} {base : Nat} {spare : Nat -> Bool} {held : Bool}

def RepM.cs (r:RepM):List Value:=[.int .i64 r.er, .int .u64 r.inc, .int .i64 r.st,r.va.v]

theorem An {n:Nat} {xs:List Value} {y:DataW H × List MemPlace} (hl:xs.length=4) (h:DataW.trod enc Tryz.prog w base spare held n 38 xs=some y):∃t,xs=RepM.cs t/\RepM.ok w w.heap.size t:=by
 match xs,hl with
 | [c0,c1,c2,c3],_ =>
  obtain ⟨_,_,h0⟩:=ay Tryz.underlying38 h 0 rfl rfl rfl (by kernel_rfl) rfl
  obtain ⟨_,_,h1⟩:=ay Tryz.underlying38 h 1 rfl rfl rfl (by kernel_rfl) rfl
  obtain ⟨_,_,h2⟩:=ay Tryz.underlying38 h 2 rfl rfl rfl (by kernel_rfl) rfl
  obtain ⟨_,_,h3⟩:=ay Tryz.underlying38 h 3 rfl rfl rfl (by kernel_rfl) rfl
  obtain ⟨a,rfl,ha⟩:=bo Tryz.underlying36 h0
  obtain ⟨b,rfl,hb⟩:=db Tryz.underlying25 h1
  obtain ⟨c,rfl,hc⟩:=bo Tryz.underlying3 h2
  obtain ⟨d,rfl,hd⟩:=om h3
  exact ⟨⟨a,b,c,d⟩,rfl,⟨ha,hb,hc⟩,hd⟩

theorem BD {n:Nat} {xs:List Value} {y:DataW H × List MemPlace} (hl:xs.length=6) (h:DataW.trod enc Tryz.prog w base spare held n 106 xs=some y):∃t,xs=DoneM.cs t/\DoneM.ok w w.heap.size t:=by
 match xs,hl with
 | [c0,c1,c2,c3,c4,c5],_ =>
  obtain ⟨_,_,h0⟩:=ay Tryz.underlying106 h 0 rfl rfl rfl (by kernel_rfl) rfl
  obtain ⟨_,_,h1⟩:=ay Tryz.underlying106 h 1 rfl rfl rfl (by kernel_rfl) rfl
  obtain ⟨_,_,h2⟩:=ed (cs:=[c2,c3,c4,c5]) (q:=4) Tryz.underlying106 h 2 rfl rfl rfl (by kernel_rfl) rfl
  obtain ⟨a,rfl,ha⟩:=dp Tryz.underlying5 h0
  obtain ⟨b,rfl,hb⟩:=db Tryz.underlying25 h1
  obtain ⟨c,hc,hco⟩:=An rfl h2
  obtain ⟨er,inc,st,va⟩:=c
  simp only [RepM.cs,List.cons.injEq,and_true] at hc
  obtain ⟨rfl,rfl,rfl,rfl⟩:=hc
  exact ⟨⟨a,b,er,inc,st,va⟩,rfl,⟨ha,hb,hco.1⟩,hco.2⟩

theorem tu {n:Nat} {v:Value} {y:DataW H × List MemPlace} (h:DataW.trod enc Tryz.prog w base spare held n 27 [v]=some y):∃s:Sl DoneM,v=s.v/\jk w w.heap.size s:=by
 obtain ⟨s,hv,h1,h2,h3,h4⟩:=dz DoneM.cs (DoneM.ok w w.heap.size) (q:=6) (by omega) Tryz.underlying27 (by kernel_rfl) (fun _=>rfl) (fun _ _ _ hl h=>BD hl h) h
 exact ⟨s,hv,h1,h2,h3,h4⟩

theorem DF {n:Nat} {xs:List Value} {y:DataW H × List MemPlace} (hl:xs.length=8) (h:DataW.trod enc Tryz.prog w base spare held n 31 xs=some y):∃t,xs=RegM.cs t/\RegM.ok w w.heap.size t:=by
 match xs,hl with
 | [c0,c1,c2,c3,c4,c5,c6,c7],_ =>
  obtain ⟨_,_,h0⟩:=ay Tryz.underlying31 h 0 rfl rfl rfl (by kernel_rfl) rfl
  obtain ⟨_,_,h1⟩:=ay Tryz.underlying31 h 1 rfl rfl rfl (by kernel_rfl) rfl
  obtain ⟨_,_,h2⟩:=ay Tryz.underlying31 h 2 rfl rfl rfl (by kernel_rfl) rfl
  obtain ⟨_,_,h3⟩:=ay Tryz.underlying31 h 3 rfl rfl rfl (by kernel_rfl) rfl
  obtain ⟨_,_,h4⟩:=ay Tryz.underlying31 h 4 rfl rfl rfl (by kernel_rfl) rfl
  obtain ⟨_,_,h5⟩:=ay Tryz.underlying31 h 5 rfl rfl rfl (by kernel_rfl) rfl
  obtain ⟨_,_,h6⟩:=ay Tryz.underlying31 h 6 rfl rfl rfl (by kernel_rfl) rfl
  obtain ⟨_,_,h7⟩:=ay Tryz.underlying31 h 7 rfl rfl rfl (by kernel_rfl) rfl
  obtain ⟨a,rfl,ha⟩:=dp Tryz.underlying5 h0
  obtain ⟨b,rfl,hb⟩:=db Tryz.underlying25 h1
  obtain ⟨c,rfl,hc⟩:=bo Tryz.underlying3 h2
  obtain ⟨d,rfl,hd⟩:=om h3
  obtain ⟨e,rfl,he⟩:=tu h4
  obtain ⟨f,rfl,hf⟩:=vS h5
  obtain ⟨g,rfl,hg⟩:=db Tryz.underlying25 h6
  obtain ⟨i,rfl,hi⟩:=vT h7
  exact ⟨⟨a,b,c,d,e,f,g,i⟩,rfl,⟨ha,hb,hc,hg⟩,hd,he,hf,hi⟩


theorem Ep {r:Reach} {b0:Nat} {v:Value} {d:DataW H} {p:List MemPlace} (hv:Value.okWide Tryz.prog w r b0 38 v) (h:DataW.Trod enc Tryz.prog w base spare held 38 v d p) :
  ∃s:RepM,v=s.v/\RepM.ok w w.heap.size s:=by
 obtain ⟨cs,rfl,hsz⟩:=okWide_struct Tryz.underlying38 hv
 obtain ⟨fuel,hf⟩:=h
 obtain ⟨l⟩:=cs
 have h8:Tryz.prog.cellsOf 38=4:=by kernel_rfl
 have hl:l.length=4:=hsz.trans h8
 obtain ⟨s,e,hs⟩:=An (by simpa [Value.cells] using hl) hf
 refine ⟨s,?_,hs⟩
 have e2:l=RepM.cs s:=by simpa [Value.cells] using e
 rw [e2]
 rfl
end

theorem Er {w:World} {B:Nat} {r:RegM} (hr:RegM.ok w B r) (hm:mayG r.p=true) {k:Nat} (hk:k<(regB r.p).length):getS ((regB r.p).take k,0)=(zeroP,([],2)):=by
 have h:=wv (mY hr hm) k hk
 unfold getS
 rw [h]
 rfl
theorem Es {w:World} {B:Nat} {r:RegM} (hr:RegM.ok w B r) (hm:mayG r.p=true):getS (regB r.p,0)=(r.p,([],0)):=by
 have hk:=hr.1.1
 unfold U8 at hk
 by_cases h0:r.p.ki=0
 ·have hz:r.p=zeroP:=by
   unfold mayG at hm
   rw [if_pos h0] at hm
   exact of_decide_eq_true hm
  have e:regS (regB r.p,0)=(zeroP,([],0)):=by
   have hx:regB r.p=natB r.p.ki++[]:=by unfold regB;rw [if_pos h0]
   have h1:=bm (n:=r.p.ki) (most:=255) [] hk.1 (by show r.ki<=_;omega) (by omega)
   rw [hx]
   unfold regS
   rw [h1]
   simp only
   rw [if_pos (by rw [h0];rfl)]
  unfold getS
  rw [e]
  rw [hz]
  decide
 ·have h1:=rG (mY hr hm) h0 []
  rw [List.append_nil] at h1
  unfold getS
  rw [h1]
  simp [hm]
end Go.Proofs.YtnkjdijbfnmnhaaGreat
