/-
  Texts of this claim put together: Rec1, Rec2, RefMay14.
-/
import Derived.Test.YtnkjdijbfnmnhaaGreatJ33
import Derived.Test.YtnkjdijbfnmnhaaGreatJ28
import Derived.Test.YtnkjdijbfnmnhaaGreatJ27
import Derived.Test.YtnkjdijbfnmnhaaGreatJ25
import Derived.Test.YtnkjdijbfnmnhaaGreatJ04
import Derived.BigGuard
import Derived.Test.YtnkjdijbfnmnhaaGreatJ03
import Derived.Deep.RegionHeld
import Derived.Test.YtnkjdijbfnmnhaaGreatJ31
import Derived.Deep.DeepCutAuto

namespace Go.Proofs.YtnkjdijbfnmnhaaGreat
set_option maxRecDepth 100000
set_option maxHeartbeats 12800000
open Go.RowKit

structure RecM where
 ki:Nat
 ke:Nat
 pc:Nat
 pn:Nat
 pl:Nat
 ac:Nat
 an:Nat
 al:Nat
 r:RegM
 fe:Nat
 li:Nat
 cf:CfM

structure RecP where
 ki:Nat
 ke:Nat
 pc:Nat
 pn:Nat
 pl:Nat
 ac:Nat
 an:Nat
 al:Nat
 r:RegP
 fe:Nat
 li:Nat
 cf:CfP
deriving DecidableEq
def RecM.p (m:RecM):RecP:=⟨m.ki,m.ke,m.pc,m.pn,m.pl,m.ac,m.an,m.al,m.r.p,m.fe,m.li,m.cf.p⟩
def RecM.box (m:RecM):Array Value := #[.int .u8 m.ki, .int .u8 m.ke, .int .u64 m.pc, .int .u8 m.pn, .int .u32 m.pl, .int .u64 m.ac, .int .u8 m.an, .int .u32 m.al, .int .u8 m.r.ki, .int .u64 m.r.inc, .int .i64 m.r.st, .slice m.r.va.A m.r.va.l.length m.r.va.c, .slice m.r.dn.A m.r.dn.l.length m.r.dn.c, .slice m.r.ou.A m.r.ou.l.length m.r.ou.c, .int .u64 m.r.la, .slice m.r.ma.A m.r.ma.l.length m.r.ma.c, .int .u64 m.fe, .int .u32 m.li, .int .u64 m.cf.C, .slice m.cf.o.A m.cf.o.l.length m.cf.o.c, .slice m.cf.n.A m.cf.n.l.length m.cf.n.c]
def RecM.v (m:RecM):Value := .agg m.box
def N32 (n:Nat):Prop:=n<=4294967295
def RecM.ok' (m:RecM):Prop:=(m.ki<=255/\m.ke<=255)/\BalIn m.pc m.pn m.pl/\BalIn m.ac m.an m.al/\N64 m.fe/\N32 m.li
def RecM.good (w:World) (B:Nat) (m:RecM):Prop:=m.ok'/\RegM.ok w B m.r/\CfM.ok w B m.cf
theorem RecM.good.below {w w':World} {B:Nat} {m:RecM} (h:RecM.good w B m) (hb:Below B w w'):RecM.good w' B m:=⟨h.1,reg_stable.below h.2.1 hb,h.2.2.below hb⟩
theorem RecM.good.more {w:World} {B B':Nat} {m:RecM} (h:RecM.good w B m) (hb:B<=B'):RecM.good w B' m:=⟨h.1,reg_stable.more h.2.1 hb,h.2.2.more hb⟩
theorem aH:∃d,Tryz.prog.underlying 54=some d/\d.isRow=true:=⟨_,Tryz.underlying54,rfl⟩
theorem au:(Tryz.prog.info? 54).map (·.size)=some 21:=by kernel_rfl
theorem eU:(Tryz.prog.info? 54).map (fun i=>(i.zero,i.size))=some (some (.agg #[.int .u8 0, .int .u8 0, .int .u64 0, .int .u8 0, .int .u32 0, .int .u64 0, .int .u8 0, .int .u32 0, .int .u8 0, .int .u64 0, .int .i64 0, .slice none 0 0, .slice none 0 0, .slice none 0 0, .int .u64 0, .slice none 0 0, .int .u64 0, .int .u32 0, .int .u64 0, .slice none 0 0, .slice none 0 0]),21):=by kernel_rfl

theorem BJ (a b:RecP):decide (a=b)=(decide (a.ki=b.ki) && (decide (a.ke=b.ke) && (decide (a.pc=b.pc) && (decide (a.pn=b.pn) && (decide (a.pl=b.pl) && (decide (a.ac=b.ac) && (decide (a.an=b.an) && (decide (a.al=b.al) && (decide (a.r=b.r) && (decide (a.fe=b.fe) && (decide (a.li=b.li) && (decide (a.cf=b.cf))))))))))))):=by
 obtain ⟨a0,a1,a2,a3,a4,a5,a6,a7,a8,a9,a10,a11⟩:=a
 obtain ⟨b0,b1,b2,b3,b4,b5,b6,b7,b8,b9,b10,b11⟩:=b
 rw [Bool.eq_iff_iff]
 simp only [decide_eq_true_eq,Bool.and_eq_true,RecP.mk.injEq]

theorem qo (x y:RecM) (B:Nat) (w:World) (hx:RecM.good w B x) (hy:RecM.good w B y) (hB:B<=w.heap.size):Calls Tryz.prog 58 #[x.v,y.v] w fun e w'=>e = .returned (.bool (decide (x.p=y.p)))/\Below w.heap.size w w':=by
 have Hr:=aa (fun (u:World) (hb:Below w.heap.size w u)=>kj x.r y.r w.heap.size u (reg_stable.below (reg_stable.more hx.2.1 hB) hb) (reg_stable.below (reg_stable.more hy.2.1 hB) hb) hb.size)
 have Hcf:=aa (fun (u:World) (hb:Below w.heap.size w u)=>s9 x.cf y.cf w.heap.size u ((hx.2.2.more hB).below hb) ((hy.2.2.more hB).below hb) hb.size)
 have HP:=aa (BJ x.p y.p)
 rw [HP.out]
 clear HP
 unfold RecM.p
 simp only
 obtain ⟨qr,hr⟩:∃q,decide (x.r.p=y.r.p)=q:=⟨_,rfl⟩
 simp only [hr] at Hr ⊢
 obtain ⟨qcf,hcf⟩:∃q,decide (x.cf.p=y.cf.p)=q:=⟨_,rfl⟩
 simp only [hcf] at Hcf ⊢
 clear hr hcf hx hy
 obtain ⟨VX,hVX⟩:∃V,x.v=V:=⟨_,rfl⟩
 obtain ⟨VY,hVY⟩:∃V,y.v=V:=⟨_,rfl⟩
 rw [hVX,hVY]
 obtain ⟨ki,ke,pc,pn,pl,ac,an,al,⟨rk,inc,st,⟨vA,vc,vl⟩,⟨dA,dc,dl⟩,⟨oA,oc,ol⟩,la,⟨mA,mc,ml⟩⟩,fe,li,⟨C,⟨xA,xc,xl⟩,⟨yA,yc,yl⟩⟩⟩:=x
 obtain ⟨ki2,ke2,pc2,pn2,pl2,ac2,an2,al2,⟨rk2,inc2,st2,⟨vA2,vc2,vl2⟩,⟨dA2,dc2,dl2⟩,⟨oA2,oc2,ol2⟩,la2,⟨mA2,mc2,ml2⟩⟩,fe2,li2,⟨C2,⟨xA2,xc2,xl2⟩,⟨yA2,yc2,yl2⟩⟩⟩:=y
 have HVX:=aa (show VX = .agg #[.int .u8 ki, .int .u8 ke, .int .u64 pc, .int .u8 pn, .int .u32 pl, .int .u64 ac, .int .u8 an, .int .u32 al, .int .u8 rk, .int .u64 inc, .int .i64 st, .slice vA vl.length vc, .slice dA dl.length dc, .slice oA ol.length oc, .int .u64 la, .slice mA ml.length mc, .int .u64 fe, .int .u32 li, .int .u64 C, .slice xA xl.length xc, .slice yA yl.length yc] from hVX.symm)
 have HVY:=aa (show VY = .agg #[.int .u8 ki2, .int .u8 ke2, .int .u64 pc2, .int .u8 pn2, .int .u32 pl2, .int .u64 ac2, .int .u8 an2, .int .u32 al2, .int .u8 rk2, .int .u64 inc2, .int .i64 st2, .slice vA2 vl2.length vc2, .slice dA2 dl2.length dc2, .slice oA2 ol2.length oc2, .int .u64 la2, .slice mA2 ml2.length mc2, .int .u64 fe2, .int .u32 li2, .int .u64 C2, .slice xA2 xl2.length xc2, .slice yA2 yl2.length yc2] from hVY.symm)
 clear hVX hVY
 simp only [RegM.v,Sl.v,CfM.v,cfV,NdM.v] at Hr Hcf ⊢
 go_enter Tryz.func58,Tryz.ntmps58
 go_upto_region 0 with fail
 refine wp_region_lit ?_
 refine aw 54 rfl _ rfl rfl HVX.out ?_
 intro W0 HX0 HB0 HZ0
 simp only [Act.put,List.setIfInBounds_toArray,List.set_cons_zero,List.set_cons_succ]
 refine aw 54 rfl _ rfl rfl HVY.out ?_
 intro W1 HY1 HB1 HZ1
 simp only [Act.put,List.setIfInBounds_toArray,List.set_cons_zero,List.set_cons_succ]
 have HX1:=aa (HX0.out.below HB1.out)
 have HW1:=aa (HB0.out.trans (HB1.out.mono (by have:=HZ0.out;omega)))
 clear HX0 HB0 HB1
 have hcx:=HX1.out.cell
 have hcy:=HY1.out.cell
 go_upto_region 1 with fail
 refine wp_region_lit ?_
 try simp only [List.append_eq,List.cons_append,List.nil_append]
 by_cases c_ki:ki=ki2
 case neg =>
  have hd:((ki:Int) == ki2)=false:=beq_eq_false_iff_ne.2 (by omega)
  have HE:=aa (decide_eq_false c_ki)
  have HNE:=aa c_ki
  clear c_ki
  refine ax 5 ?_
  intro L HL
  simp only [List.take_succ_cons,List.take_zero,List.cons_append,List.nil_append]
  go_wp2_with fail
  all_goals first
   | (exact absurd ‹ki=ki2› HNE.out)
   | (rw [<- HL.out];exact aY (by assumption) 4 (by rfl) (.bool false) (by kernel_rfl) (by kernel_rfl) (by kernel_rfl) ⟨by rw [HE.out];simp,HW1.out⟩)
 subst c_ki
 refine ax 5 ?_
 intro L HL
 simp only [List.take_succ_cons,List.take_zero,List.cons_append,List.nil_append]
 go_wp2_with fail
 rw [<- HL.out]
 simp only [List.drop_succ_cons,List.drop_zero]
 clear HL
 by_cases c_ke:ke=ke2
 case neg =>
  have hd:((ke:Int) == ke2)=false:=beq_eq_false_iff_ne.2 (by omega)
  have HE:=aa (decide_eq_false c_ke)
  have HNE:=aa c_ke
  clear c_ke
  refine ax 7 ?_
  intro L HL
  simp only [List.take_succ_cons,List.take_zero,List.cons_append,List.nil_append]
  go_wp2_with fail
  all_goals first
   | (exact absurd ‹ke=ke2› HNE.out)
   | (rw [<- HL.out];exact aY (by assumption) 4 (by rfl) (.bool false) (by kernel_rfl) (by kernel_rfl) (by kernel_rfl) ⟨by rw [HE.out];simp,HW1.out⟩)
 subst c_ke
 refine ax 7 ?_
 intro L HL
 simp only [List.take_succ_cons,List.take_zero,List.cons_append,List.nil_append]
 go_wp2_with fail
 rw [<- HL.out]
 simp only [List.drop_succ_cons,List.drop_zero]
 clear HL
 by_cases c_pc:pc=pc2
 case neg =>
  have hd:((pc:Int) == pc2)=false:=beq_eq_false_iff_ne.2 (by omega)
  have HE:=aa (decide_eq_false c_pc)
  have HNE:=aa c_pc
  clear c_pc
  refine ax 7 ?_
  intro L HL
  simp only [List.take_succ_cons,List.take_zero,List.cons_append,List.nil_append]
  go_wp2_with fail
  all_goals first
   | (exact absurd ‹pc=pc2› HNE.out)
   | (rw [<- HL.out];exact aY (by assumption) 4 (by rfl) (.bool false) (by kernel_rfl) (by kernel_rfl) (by kernel_rfl) ⟨by rw [HE.out];simp,HW1.out⟩)
 subst c_pc
 by_cases c_pn:pn=pn2
 case neg =>
  have hd:((pn:Int) == pn2)=false:=beq_eq_false_iff_ne.2 (by omega)
  have HE:=aa (decide_eq_false c_pn)
  have HNE:=aa c_pn
  clear c_pn
  refine ax 7 ?_
  intro L HL
  simp only [List.take_succ_cons,List.take_zero,List.cons_append,List.nil_append]
  go_wp2_with fail
  all_goals first
   | (exact absurd ‹pn=pn2› HNE.out)
   | (rw [<- HL.out];exact aY (by assumption) 4 (by rfl) (.bool false) (by kernel_rfl) (by kernel_rfl) (by kernel_rfl) ⟨by rw [HE.out];simp,HW1.out⟩)
 subst c_pn
 by_cases c_pl:pl=pl2
 case neg =>
  have hd:((pl:Int) == pl2)=false:=beq_eq_false_iff_ne.2 (by omega)
  have HE:=aa (decide_eq_false c_pl)
  have HNE:=aa c_pl
  clear c_pl
  refine ax 7 ?_
  intro L HL
  simp only [List.take_succ_cons,List.take_zero,List.cons_append,List.nil_append]
  go_wp2_with fail
  all_goals first
   | (exact absurd ‹pl=pl2› HNE.out)
   | (rw [<- HL.out];exact aY (by assumption) 4 (by rfl) (.bool false) (by kernel_rfl) (by kernel_rfl) (by kernel_rfl) ⟨by rw [HE.out];simp,HW1.out⟩)
 subst c_pl
 refine ax 7 ?_
 intro L HL
 simp only [List.take_succ_cons,List.take_zero,List.cons_append,List.nil_append]
 go_wp2_with fail
 rw [<- HL.out]
 simp only [List.drop_succ_cons,List.drop_zero]
 clear HL
 by_cases c_ac:ac=ac2
 case neg =>
  have hd:((ac:Int) == ac2)=false:=beq_eq_false_iff_ne.2 (by omega)
  have HE:=aa (decide_eq_false c_ac)
  have HNE:=aa c_ac
  clear c_ac
  refine ax 7 ?_
  intro L HL
  simp only [List.take_succ_cons,List.take_zero,List.cons_append,List.nil_append]
  go_wp2_with fail
  all_goals first
   | (exact absurd ‹ac=ac2› HNE.out)
   | (rw [<- HL.out];exact aY (by assumption) 4 (by rfl) (.bool false) (by kernel_rfl) (by kernel_rfl) (by kernel_rfl) ⟨by rw [HE.out];simp,HW1.out⟩)
 subst c_ac
 by_cases c_an:an=an2
 case neg =>
  have hd:((an:Int) == an2)=false:=beq_eq_false_iff_ne.2 (by omega)
  have HE:=aa (decide_eq_false c_an)
  have HNE:=aa c_an
  clear c_an
  refine ax 7 ?_
  intro L HL
  simp only [List.take_succ_cons,List.take_zero,List.cons_append,List.nil_append]
  go_wp2_with fail
  all_goals first
   | (exact absurd ‹an=an2› HNE.out)
   | (rw [<- HL.out];exact aY (by assumption) 4 (by rfl) (.bool false) (by kernel_rfl) (by kernel_rfl) (by kernel_rfl) ⟨by rw [HE.out];simp,HW1.out⟩)
 subst c_an
 by_cases c_al:al=al2
 case neg =>
  have hd:((al:Int) == al2)=false:=beq_eq_false_iff_ne.2 (by omega)
  have HE:=aa (decide_eq_false c_al)
  have HNE:=aa c_al
  clear c_al
  refine ax 7 ?_
  intro L HL
  simp only [List.take_succ_cons,List.take_zero,List.cons_append,List.nil_append]
  go_wp2_with fail
  all_goals first
   | (exact absurd ‹al=al2› HNE.out)
   | (rw [<- HL.out];exact aY (by assumption) 4 (by rfl) (.bool false) (by kernel_rfl) (by kernel_rfl) (by kernel_rfl) ⟨by rw [HE.out];simp,HW1.out⟩)
 subst c_al
 refine ax 7 ?_
 intro L HL
 simp only [List.take_succ_cons,List.take_zero,List.cons_append,List.nil_append]
 go_wp2_with fail
 rw [<- HL.out]
 simp only [List.drop_succ_cons,List.drop_zero]
 clear HL
 have HRR:=aa (Hr.out _ HW1.out)
 refine ax 7 ?_
 intro L HL
 simp only [List.take_succ_cons,List.take_zero,List.cons_append,List.nil_append]
 go_wp2_with fail
 refine HRR.out.mono ?_
 rintro en w2 ⟨rfl,hb1⟩
 have HW2:=aa (HW1.out.trans (hb1.mono HW1.out.size))
 have HX2:=aa (HX1.out.below hb1)
 have HY2:=aa (HY1.out.below hb1)
 clear hb1 hcx hcy HRR
 have hcx:=HX2.out.cell
 have hcy:=HY2.out.cell
 go_wp2_with fail
 cases qr with
 | false =>
  rw [<- HL.out]
  exact aY (by assumption) 4 (by rfl) (.bool false) (by kernel_rfl) (by kernel_rfl) (by kernel_rfl) ⟨by simp,HW2.out⟩
 | true =>
 rw [<- HL.out]
 simp only [List.drop_succ_cons,List.drop_zero]
 clear HL
 by_cases c_fe:fe=fe2
 case neg =>
  have hd:((fe:Int) == fe2)=false:=beq_eq_false_iff_ne.2 (by omega)
  have HE:=aa (decide_eq_false c_fe)
  have HNE:=aa c_fe
  clear c_fe
  refine ax 7 ?_
  intro L HL
  simp only [List.take_succ_cons,List.take_zero,List.cons_append,List.nil_append]
  go_wp2_with fail
  all_goals first
   | (exact absurd ‹fe=fe2› HNE.out)
   | (rw [<- HL.out];exact aY (by assumption) 4 (by rfl) (.bool false) (by kernel_rfl) (by kernel_rfl) (by kernel_rfl) ⟨by rw [HE.out];simp,HW2.out⟩)
 subst c_fe
 refine ax 7 ?_
 intro L HL
 simp only [List.take_succ_cons,List.take_zero,List.cons_append,List.nil_append]
 go_wp2_with fail
 rw [<- HL.out]
 simp only [List.drop_succ_cons,List.drop_zero]
 clear HL
 by_cases c_li:li=li2
 case neg =>
  have hd:((li:Int) == li2)=false:=beq_eq_false_iff_ne.2 (by omega)
  have HE:=aa (decide_eq_false c_li)
  have HNE:=aa c_li
  clear c_li
  refine ax 7 ?_
  intro L HL
  simp only [List.take_succ_cons,List.take_zero,List.cons_append,List.nil_append]
  go_wp2_with fail
  all_goals first
   | (exact absurd ‹li=li2› HNE.out)
   | (rw [<- HL.out];exact aY (by assumption) 4 (by rfl) (.bool false) (by kernel_rfl) (by kernel_rfl) (by kernel_rfl) ⟨by rw [HE.out];simp,HW2.out⟩)
 subst c_li
 refine ax 7 ?_
 intro L HL
 simp only [List.take_succ_cons,List.take_zero,List.cons_append,List.nil_append]
 go_wp2_with fail
 rw [<- HL.out]
 simp only [List.drop_succ_cons,List.drop_zero]
 clear HL
 have HRR:=aa (Hcf.out _ HW2.out)
 refine ax 7 ?_
 intro L HL
 simp only [List.take_succ_cons,List.take_zero,List.cons_append,List.nil_append]
 go_wp2_with fail
 refine HRR.out.mono ?_
 rintro en w3 ⟨rfl,hb1⟩
 have HW3:=aa (HW2.out.trans (hb1.mono HW2.out.size))
 have HX3:=aa (HX2.out.below hb1)
 have HY3:=aa (HY2.out.below hb1)
 clear hb1 hcx hcy HRR
 have hcx:=HX3.out.cell
 have hcy:=HY3.out.cell
 go_wp2_with fail
 cases qcf with
 | false =>
  rw [<- HL.out]
  exact aY (by assumption) 4 (by rfl) (.bool false) (by kernel_rfl) (by kernel_rfl) (by kernel_rfl) ⟨by simp,HW3.out⟩
 | true =>
 rw [<- HL.out]
 simp only [List.drop_succ_cons,List.drop_zero]
 clear HL
 go_wp2
 go_ret
 exact ⟨by simp,HW3.out⟩

def zeroRec:RecM:=⟨0,0,0,0,0,0,0,0,zeroM,0,0,zeroCf⟩
def gT (m:RecM):RecM :=
 if m.ki=1 then { m with fe:=0,li:=0,cf:=zeroCf }
 else if m.ki=2 then { zeroRec with ki:=m.ki,ke:=m.ke }
 else if m.ki=3 then { zeroRec with ki:=m.ki,fe:=m.fe }
 else if m.ki=4 then { zeroRec with ki:=m.ki,li:=m.li }
 else if m.ki=5 then { zeroRec with ki:=m.ki,cf:=m.cf }
 else zeroRec
def i8:RecP:=⟨0,0,0,0,0,0,0,0,zeroP,0,0,(0,[],[])⟩
def fo (p:RecP):RecP :=
 if p.ki=1 then { p with fe:=0,li:=0,cf:=(0,[],[]) }
 else if p.ki=2 then { i8 with ki:=p.ki,ke:=p.ke }
 else if p.ki=3 then { i8 with ki:=p.ki,fe:=p.fe }
 else if p.ki=4 then { i8 with ki:=p.ki,li:=p.li }
 else if p.ki=5 then { i8 with ki:=p.ki,cf:=p.cf }
 else i8
theorem zz (m:RecM):(gT m).p=fo m.p:=by
 unfold gT fo
 show _=if m.ki=1 then _ else if m.ki=2 then _ else if m.ki=3 then _ else if m.ki=4 then _ else if m.ki=5 then _ else _
 split
 ·rfl
 split
 ·rfl
 split
 ·rfl
 split
 ·rfl
 split <;> rfl
theorem qq {w:World} {B:Nat} {m:RecM} (h:RecM.good w B m):RecM.good w B (gT m):=by
 obtain ⟨⟨h1,h2,h3,h4,h5⟩,hr,hc⟩:=h
 have hz:=bA w B
 have hzc:=gO w B
 have hb0:BalIn 0 0 0:=by simp [BalIn,N64]
 have h0:N64 0:=by simp [N64]
 have h00:N32 0:=by simp [N32]
 have hk:=h1.1
 unfold gT
 split
 ·exact ⟨⟨h1,h2,h3,h0,h00⟩,hr,hzc⟩
 split
 ·exact ⟨⟨h1,hb0,hb0,h0,h00⟩,hz,hzc⟩
 split
 ·exact ⟨⟨⟨hk,Nat.zero_le _⟩,hb0,hb0,h4,h00⟩,hz,hzc⟩
 split
 ·exact ⟨⟨⟨hk,Nat.zero_le _⟩,hb0,hb0,h0,h5⟩,hz,hzc⟩
 split
 ·exact ⟨⟨⟨hk,Nat.zero_le _⟩,hb0,hb0,h0,h00⟩,hz,hc⟩
 ·exact ⟨⟨⟨Nat.zero_le _,Nat.zero_le _⟩,hb0,hb0,h0,h00⟩,hz,hzc⟩

theorem oI (m:RecM) (w:World):Calls Tryz.prog 59 #[m.v] w fun e w'=>e = .returned (gT m).v/\Below w.heap.size w w':=by
 obtain ⟨V,hV⟩:∃V,m.v=V:=⟨_,rfl⟩
 rw [hV]
 obtain ⟨R,hR⟩:∃R,(gT m).v=R:=⟨_,rfl⟩
 rw [hR]
 have HRR:=aa hR.symm
 clear hR
 obtain ⟨ki,ke,pc,pn,pl,ac,an,al,⟨rk,inc,st,⟨vA,vc,vl⟩,⟨dA,dc,dl⟩,⟨oA,oc,ol⟩,la,⟨mA,mc,ml⟩⟩,fe,li,⟨C,⟨xA,xc,xl⟩,⟨yA,yc,yl⟩⟩⟩:=m
 have HV:=aa (show V = .agg #[.int .u8 ki, .int .u8 ke, .int .u64 pc, .int .u8 pn, .int .u32 pl, .int .u64 ac, .int .u8 an, .int .u32 al, .int .u8 rk, .int .u64 inc, .int .i64 st, .slice vA vl.length vc, .slice dA dl.length dc, .slice oA ol.length oc, .int .u64 la, .slice mA ml.length mc, .int .u64 fe, .int .u32 li, .int .u64 C, .slice xA xl.length xc, .slice yA yl.length yc] from hV.symm)
 clear hV
 by_cases k1:ki=1
 case pos =>
  subst k1
  have HRE:=aa (show R = .agg #[.int .u8 1, .int .u8 ke, .int .u64 pc, .int .u8 pn, .int .u32 pl, .int .u64 ac, .int .u8 an, .int .u32 al, .int .u8 rk, .int .u64 inc, .int .i64 st, .slice vA vl.length vc, .slice dA dl.length dc, .slice oA ol.length oc, .int .u64 la, .slice mA ml.length mc, .int .u64 0, .int .u32 0, .int .u64 0, .slice none 0 0, .slice none 0 0] from HRR.out.trans (rfl))
  clear HRR
  go_enter Tryz.func59,Tryz.ntmps59
  go_upto_region 0 with fail
  refine wp_region_lit ?_
  refine aw 54 rfl _ rfl rfl HV.out ?_
  intro W0 HX0 HB0 HZ0
  simp only [Act.put,List.setIfInBounds_toArray,List.set_cons_zero,List.set_cons_succ]
  refine aq 54 rfl rfl eU ?_
  intro W1 HY1 HB1 HZ1
  simp only [Act.put,List.setIfInBounds_toArray,List.set_cons_zero,List.set_cons_succ]
  have HX1:=aa (HX0.out.below HB1.out)
  have HW1:=aa (HB0.out.trans (HB1.out.mono (by have:=HZ0.out;omega)))
  have HZZ:=aa (show w.heap.size<=W0.heap.size from HB0.out.size)
  clear HX0 HB0 HB1 HZ0 HZ1
  have hcx:=HX1.out.cell
  go_wp2_with (first|(refine br 54 _ (by rfl) (by rfl) (V := .agg #[.int .u8 1, .int .u8 ke, .int .u64 pc, .int .u8 pn, .int .u32 pl, .int .u64 ac, .int .u8 an, .int .u32 al, .int .u8 rk, .int .u64 inc, .int .i64 st, .slice vA vl.length vc, .slice dA dl.length dc, .slice oA ol.length oc, .int .u64 la, .slice mA ml.length mc, .int .u64 0, .int .u32 0, .int .u64 0, .slice none 0 0, .slice none 0 0]) (by kernel_rfl) ?_)|(refine ai 54 (by rfl) _ _ (by rfl) au (by rfl) (by rfl) (cs := #[.int .u8 1, .int .u8 ke, .int .u64 pc, .int .u8 pn, .int .u32 pl, .int .u64 ac, .int .u8 an, .int .u32 al, .int .u8 rk, .int .u64 inc, .int .i64 st, .slice vA vl.length vc, .slice dA dl.length dc, .slice oA ol.length oc, .int .u64 la, .slice mA ml.length mc, .int .u64 0, .int .u32 0, .int .u64 0, .slice none 0 0, .slice none 0 0]) (by rfl) (by rfl) (by simp [Value.oneCell']) HY1.out (by rfl) ?_;intro W2 HY2 HG2 HZ2))
  refine bodyPost_ret (aD au aH (by rfl) (by rfl) HY2.out (by rfl)) rfl ?_
  exact ⟨by rw [HRE.out],HW1.out.grown HG2.out HW1.out.size (fun k hk=>by injection hk with hk;have:=HZZ.out;omega)⟩
 have d1:((ki:Int) == 1)=false:=beq_eq_false_iff_ne.2 (by omega)
 by_cases k2:ki=2
 case pos =>
  subst k2
  clear k1 d1
  have HRE:=aa (show R = .agg #[.int .u8 2, .int .u8 ke, .int .u64 0, .int .u8 0, .int .u32 0, .int .u64 0, .int .u8 0, .int .u32 0, .int .u8 0, .int .u64 0, .int .i64 0, .slice none 0 0, .slice none 0 0, .slice none 0 0, .int .u64 0, .slice none 0 0, .int .u64 0, .int .u32 0, .int .u64 0, .slice none 0 0, .slice none 0 0] from HRR.out.trans (rfl))
  clear HRR
  go_enter Tryz.func59,Tryz.ntmps59
  go_upto_region 0 with fail
  refine wp_region_lit ?_
  refine aw 54 rfl _ rfl rfl HV.out ?_
  intro W0 HX0 HB0 HZ0
  simp only [Act.put,List.setIfInBounds_toArray,List.set_cons_zero,List.set_cons_succ]
  refine aq 54 rfl rfl eU ?_
  intro W1 HY1 HB1 HZ1
  simp only [Act.put,List.setIfInBounds_toArray,List.set_cons_zero,List.set_cons_succ]
  have HX1:=aa (HX0.out.below HB1.out)
  have HW1:=aa (HB0.out.trans (HB1.out.mono (by have:=HZ0.out;omega)))
  have HZZ:=aa (show w.heap.size<=W0.heap.size from HB0.out.size)
  clear HX0 HB0 HB1 HZ0 HZ1
  have hcx:=HX1.out.cell
  go_wp2_with (first|(refine br 54 _ (by rfl) (by rfl) (V := .agg #[.int .u8 2, .int .u8 ke, .int .u64 0, .int .u8 0, .int .u32 0, .int .u64 0, .int .u8 0, .int .u32 0, .int .u8 0, .int .u64 0, .int .i64 0, .slice none 0 0, .slice none 0 0, .slice none 0 0, .int .u64 0, .slice none 0 0, .int .u64 0, .int .u32 0, .int .u64 0, .slice none 0 0, .slice none 0 0]) (by kernel_rfl) ?_)|(refine ai 54 (by rfl) _ _ (by rfl) au (by rfl) (by rfl) (cs := #[.int .u8 2, .int .u8 ke, .int .u64 0, .int .u8 0, .int .u32 0, .int .u64 0, .int .u8 0, .int .u32 0, .int .u8 0, .int .u64 0, .int .i64 0, .slice none 0 0, .slice none 0 0, .slice none 0 0, .int .u64 0, .slice none 0 0, .int .u64 0, .int .u32 0, .int .u64 0, .slice none 0 0, .slice none 0 0]) (by rfl) (by rfl) (by simp [Value.oneCell']) HY1.out (by rfl) ?_;intro W2 HY2 HG2 HZ2))
  refine bodyPost_ret (aD au aH (by rfl) (by rfl) HY2.out (by rfl)) rfl ?_
  exact ⟨by rw [HRE.out],HW1.out.grown HG2.out HW1.out.size (fun k hk=>by injection hk with hk;have:=HZZ.out;omega)⟩
 have d2:((ki:Int) == 2)=false:=beq_eq_false_iff_ne.2 (by omega)
 by_cases k3:ki=3
 case pos =>
  subst k3
  clear k1 d1 k2 d2
  have HRE:=aa (show R = .agg #[.int .u8 3, .int .u8 0, .int .u64 0, .int .u8 0, .int .u32 0, .int .u64 0, .int .u8 0, .int .u32 0, .int .u8 0, .int .u64 0, .int .i64 0, .slice none 0 0, .slice none 0 0, .slice none 0 0, .int .u64 0, .slice none 0 0, .int .u64 fe, .int .u32 0, .int .u64 0, .slice none 0 0, .slice none 0 0] from HRR.out.trans (rfl))
  clear HRR
  go_enter Tryz.func59,Tryz.ntmps59
  go_upto_region 0 with fail
  refine wp_region_lit ?_
  refine aw 54 rfl _ rfl rfl HV.out ?_
  intro W0 HX0 HB0 HZ0
  simp only [Act.put,List.setIfInBounds_toArray,List.set_cons_zero,List.set_cons_succ]
  refine aq 54 rfl rfl eU ?_
  intro W1 HY1 HB1 HZ1
  simp only [Act.put,List.setIfInBounds_toArray,List.set_cons_zero,List.set_cons_succ]
  have HX1:=aa (HX0.out.below HB1.out)
  have HW1:=aa (HB0.out.trans (HB1.out.mono (by have:=HZ0.out;omega)))
  have HZZ:=aa (show w.heap.size<=W0.heap.size from HB0.out.size)
  clear HX0 HB0 HB1 HZ0 HZ1
  have hcx:=HX1.out.cell
  go_wp2_with (first|(refine br 54 _ (by rfl) (by rfl) (V := .agg #[.int .u8 3, .int .u8 0, .int .u64 0, .int .u8 0, .int .u32 0, .int .u64 0, .int .u8 0, .int .u32 0, .int .u8 0, .int .u64 0, .int .i64 0, .slice none 0 0, .slice none 0 0, .slice none 0 0, .int .u64 0, .slice none 0 0, .int .u64 fe, .int .u32 0, .int .u64 0, .slice none 0 0, .slice none 0 0]) (by kernel_rfl) ?_)|(refine ai 54 (by rfl) _ _ (by rfl) au (by rfl) (by rfl) (cs := #[.int .u8 3, .int .u8 0, .int .u64 0, .int .u8 0, .int .u32 0, .int .u64 0, .int .u8 0, .int .u32 0, .int .u8 0, .int .u64 0, .int .i64 0, .slice none 0 0, .slice none 0 0, .slice none 0 0, .int .u64 0, .slice none 0 0, .int .u64 fe, .int .u32 0, .int .u64 0, .slice none 0 0, .slice none 0 0]) (by rfl) (by rfl) (by simp [Value.oneCell']) HY1.out (by rfl) ?_;intro W2 HY2 HG2 HZ2))
  refine bodyPost_ret (aD au aH (by rfl) (by rfl) HY2.out (by rfl)) rfl ?_
  exact ⟨by rw [HRE.out],HW1.out.grown HG2.out HW1.out.size (fun k hk=>by injection hk with hk;have:=HZZ.out;omega)⟩
 have d3:((ki:Int) == 3)=false:=beq_eq_false_iff_ne.2 (by omega)
 by_cases k4:ki=4
 case pos =>
  subst k4
  clear k1 d1 k2 d2 k3 d3
  have HRE:=aa (show R = .agg #[.int .u8 4, .int .u8 0, .int .u64 0, .int .u8 0, .int .u32 0, .int .u64 0, .int .u8 0, .int .u32 0, .int .u8 0, .int .u64 0, .int .i64 0, .slice none 0 0, .slice none 0 0, .slice none 0 0, .int .u64 0, .slice none 0 0, .int .u64 0, .int .u32 li, .int .u64 0, .slice none 0 0, .slice none 0 0] from HRR.out.trans (rfl))
  clear HRR
  go_enter Tryz.func59,Tryz.ntmps59
  go_upto_region 0 with fail
  refine wp_region_lit ?_
  refine aw 54 rfl _ rfl rfl HV.out ?_
  intro W0 HX0 HB0 HZ0
  simp only [Act.put,List.setIfInBounds_toArray,List.set_cons_zero,List.set_cons_succ]
  refine aq 54 rfl rfl eU ?_
  intro W1 HY1 HB1 HZ1
  simp only [Act.put,List.setIfInBounds_toArray,List.set_cons_zero,List.set_cons_succ]
  have HX1:=aa (HX0.out.below HB1.out)
  have HW1:=aa (HB0.out.trans (HB1.out.mono (by have:=HZ0.out;omega)))
  have HZZ:=aa (show w.heap.size<=W0.heap.size from HB0.out.size)
  clear HX0 HB0 HB1 HZ0 HZ1
  have hcx:=HX1.out.cell
  go_wp2_with (first|(refine br 54 _ (by rfl) (by rfl) (V := .agg #[.int .u8 4, .int .u8 0, .int .u64 0, .int .u8 0, .int .u32 0, .int .u64 0, .int .u8 0, .int .u32 0, .int .u8 0, .int .u64 0, .int .i64 0, .slice none 0 0, .slice none 0 0, .slice none 0 0, .int .u64 0, .slice none 0 0, .int .u64 0, .int .u32 li, .int .u64 0, .slice none 0 0, .slice none 0 0]) (by kernel_rfl) ?_)|(refine ai 54 (by rfl) _ _ (by rfl) au (by rfl) (by rfl) (cs := #[.int .u8 4, .int .u8 0, .int .u64 0, .int .u8 0, .int .u32 0, .int .u64 0, .int .u8 0, .int .u32 0, .int .u8 0, .int .u64 0, .int .i64 0, .slice none 0 0, .slice none 0 0, .slice none 0 0, .int .u64 0, .slice none 0 0, .int .u64 0, .int .u32 li, .int .u64 0, .slice none 0 0, .slice none 0 0]) (by rfl) (by rfl) (by simp [Value.oneCell']) HY1.out (by rfl) ?_;intro W2 HY2 HG2 HZ2))
  refine bodyPost_ret (aD au aH (by rfl) (by rfl) HY2.out (by rfl)) rfl ?_
  exact ⟨by rw [HRE.out],HW1.out.grown HG2.out HW1.out.size (fun k hk=>by injection hk with hk;have:=HZZ.out;omega)⟩
 have d4:((ki:Int) == 4)=false:=beq_eq_false_iff_ne.2 (by omega)
 by_cases k5:ki=5
 case pos =>
  subst k5
  clear k1 d1 k2 d2 k3 d3 k4 d4
  have HRE:=aa (show R = .agg #[.int .u8 5, .int .u8 0, .int .u64 0, .int .u8 0, .int .u32 0, .int .u64 0, .int .u8 0, .int .u32 0, .int .u8 0, .int .u64 0, .int .i64 0, .slice none 0 0, .slice none 0 0, .slice none 0 0, .int .u64 0, .slice none 0 0, .int .u64 0, .int .u32 0, .int .u64 C, .slice xA xl.length xc, .slice yA yl.length yc] from HRR.out.trans (rfl))
  clear HRR
  go_enter Tryz.func59,Tryz.ntmps59
  go_upto_region 0 with fail
  refine wp_region_lit ?_
  refine aw 54 rfl _ rfl rfl HV.out ?_
  intro W0 HX0 HB0 HZ0
  simp only [Act.put,List.setIfInBounds_toArray,List.set_cons_zero,List.set_cons_succ]
  refine aq 54 rfl rfl eU ?_
  intro W1 HY1 HB1 HZ1
  simp only [Act.put,List.setIfInBounds_toArray,List.set_cons_zero,List.set_cons_succ]
  have HX1:=aa (HX0.out.below HB1.out)
  have HW1:=aa (HB0.out.trans (HB1.out.mono (by have:=HZ0.out;omega)))
  have HZZ:=aa (show w.heap.size<=W0.heap.size from HB0.out.size)
  clear HX0 HB0 HB1 HZ0 HZ1
  have hcx:=HX1.out.cell
  go_wp2_with (first|(refine br 54 _ (by rfl) (by rfl) (V := .agg #[.int .u8 5, .int .u8 0, .int .u64 0, .int .u8 0, .int .u32 0, .int .u64 0, .int .u8 0, .int .u32 0, .int .u8 0, .int .u64 0, .int .i64 0, .slice none 0 0, .slice none 0 0, .slice none 0 0, .int .u64 0, .slice none 0 0, .int .u64 0, .int .u32 0, .int .u64 C, .slice xA xl.length xc, .slice yA yl.length yc]) (by kernel_rfl) ?_)|(refine ai 54 (by rfl) _ _ (by rfl) au (by rfl) (by rfl) (cs := #[.int .u8 5, .int .u8 0, .int .u64 0, .int .u8 0, .int .u32 0, .int .u64 0, .int .u8 0, .int .u32 0, .int .u8 0, .int .u64 0, .int .i64 0, .slice none 0 0, .slice none 0 0, .slice none 0 0, .int .u64 0, .slice none 0 0, .int .u64 0, .int .u32 0, .int .u64 C, .slice xA xl.length xc, .slice yA yl.length yc]) (by rfl) (by rfl) (by simp [Value.oneCell']) HY1.out (by rfl) ?_;intro W2 HY2 HG2 HZ2))
  refine bodyPost_ret (aD au aH (by rfl) (by rfl) HY2.out (by rfl)) rfl ?_
  exact ⟨by rw [HRE.out],HW1.out.grown HG2.out HW1.out.size (fun k hk=>by injection hk with hk;have:=HZZ.out;omega)⟩
 have d5:((ki:Int) == 5)=false:=beq_eq_false_iff_ne.2 (by omega)
 have HRE:=aa (show R = .agg #[.int .u8 0, .int .u8 0, .int .u64 0, .int .u8 0, .int .u32 0, .int .u64 0, .int .u8 0, .int .u32 0, .int .u8 0, .int .u64 0, .int .i64 0, .slice none 0 0, .slice none 0 0, .slice none 0 0, .int .u64 0, .slice none 0 0, .int .u64 0, .int .u32 0, .int .u64 0, .slice none 0 0, .slice none 0 0] from HRR.out.trans (by unfold gT;rw [if_neg k1,if_neg k2,if_neg k3,if_neg k4,if_neg k5];rfl))
 clear HRR
 clear k1 k2 k3 k4 k5
 go_enter Tryz.func59,Tryz.ntmps59
 go_upto_region 0 with fail
 refine wp_region_lit ?_
 refine aw 54 rfl _ rfl rfl HV.out ?_
 intro W0 HX0 HB0 HZ0
 simp only [Act.put,List.setIfInBounds_toArray,List.set_cons_zero,List.set_cons_succ]
 refine aq 54 rfl rfl eU ?_
 intro W1 HY1 HB1 HZ1
 simp only [Act.put,List.setIfInBounds_toArray,List.set_cons_zero,List.set_cons_succ]
 have HX1:=aa (HX0.out.below HB1.out)
 have HW1:=aa (HB0.out.trans (HB1.out.mono (by have:=HZ0.out;omega)))
 have HZZ:=aa (show w.heap.size<=W0.heap.size from HB0.out.size)
 clear HX0 HB0 HB1 HZ0 HZ1
 have hcx:=HX1.out.cell
 go_wp2_with (first|(refine br 54 _ (by rfl) (by rfl) (V := .agg #[.int .u8 0, .int .u8 0, .int .u64 0, .int .u8 0, .int .u32 0, .int .u64 0, .int .u8 0, .int .u32 0, .int .u8 0, .int .u64 0, .int .i64 0, .slice none 0 0, .slice none 0 0, .slice none 0 0, .int .u64 0, .slice none 0 0, .int .u64 0, .int .u32 0, .int .u64 0, .slice none 0 0, .slice none 0 0]) (by kernel_rfl) ?_)|(refine ai 54 (by rfl) _ _ (by rfl) au (by rfl) (by rfl) (cs := #[.int .u8 0, .int .u8 0, .int .u64 0, .int .u8 0, .int .u32 0, .int .u64 0, .int .u8 0, .int .u32 0, .int .u8 0, .int .u64 0, .int .i64 0, .slice none 0 0, .slice none 0 0, .slice none 0 0, .int .u64 0, .slice none 0 0, .int .u64 0, .int .u32 0, .int .u64 0, .slice none 0 0, .slice none 0 0]) (by rfl) (by rfl) (by simp [Value.oneCell']) HY1.out (by rfl) ?_;intro W2 HY2 HG2 HZ2))
 refine bodyPost_ret (aD au aH (by rfl) (by rfl) HY2.out (by rfl)) rfl ?_
 exact ⟨by rw [HRE.out],HW1.out.grown HG2.out HW1.out.size (fun k hk=>by injection hk with hk;have:=HZZ.out;omega)⟩

def tB (p:RecP):Bool := !fb p.pc p.pn p.pl && (decide (cmpB p.ac p.an p.al p.pc p.pn p.pl<=0) && ((decide (p.r.ki=0) || !fb p.ac p.an p.al) && mayG p.r))
def iJ (p:RecP):Bool :=
 if p.ki=1 then decide (p.ke<16) && tB p
 else if p.ki=2 then decide (p.ke<16)
 else if p.ki=3 then decide (0<p.fe)
 else if p.ki=4 then decide (0<p.li)
 else if p.ki=5 then mayC p.cf.1 p.cf.2.1 p.cf.2.2
 else false
def mayR (p:RecP):Bool:=decide (p=fo p) && iJ p


theorem qt (m:RecM) (B:Nat) (w:World) (hm:RecM.good w B m) (hB:B<=w.heap.size):Calls Tryz.prog 129 #[m.v] w fun e w'=>e = .returned (.bool (tB m.p))/\Below w.heap.size w w':=by
 have HP:=aa (fun (u:World)=>rH m.pc m.pn m.pl u)
 have HA:=aa (fun (u:World)=>rH m.ac m.an m.al u)
 have HC:=aa (fun (u:World)=>pJ m.ac m.an m.al m.pc m.pn m.pl u)
 have HM:=aa (fun (u:World) (h:Below w.heap.size w u)=>iE m.r w.heap.size u (reg_stable.below (reg_stable.more hm.2.1 hB) h) h.size)
 rw [show tB m.p=(!fb m.pc m.pn m.pl && (decide (cmpB m.ac m.an m.al m.pc m.pn m.pl<=0) && ((decide (m.r.ki=0) || !fb m.ac m.an m.al) && mayG m.r.p))) from rfl]
 obtain ⟨qp,hqp⟩:∃q,fb m.pc m.pn m.pl=q:=⟨_,rfl⟩
 simp only [hqp] at HP ⊢
 obtain ⟨qa,hqa⟩:∃q,fb m.ac m.an m.al=q:=⟨_,rfl⟩
 simp only [hqa] at HA ⊢
 obtain ⟨cq,hcq⟩:∃q,cmpB m.ac m.an m.al m.pc m.pn m.pl=q:=⟨_,rfl⟩
 simp only [hcq] at HC ⊢
 obtain ⟨qm,hqm⟩:∃q,mayG m.r.p=q:=⟨_,rfl⟩
 simp only [hqm] at HM ⊢
 clear hqp hqa hcq hqm hm
 obtain ⟨V,hV⟩:∃V,m.v=V:=⟨_,rfl⟩
 rw [hV]
 obtain ⟨ki,ke,pc,pn,pl,ac,an,al,⟨rk,inc,st,⟨vA,vc,vl⟩,⟨dA,dc,dl⟩,⟨oA,oc,ol⟩,la,⟨mA,mc,ml⟩⟩,fe,li,⟨C,⟨xA,xc,xl⟩,⟨yA,yc,yl⟩⟩⟩:=m
 have HV:=aa (show V = .agg #[.int .u8 ki, .int .u8 ke, .int .u64 pc, .int .u8 pn, .int .u32 pl, .int .u64 ac, .int .u8 an, .int .u32 al, .int .u8 rk, .int .u64 inc, .int .i64 st, .slice vA vl.length vc, .slice dA dl.length dc, .slice oA ol.length oc, .int .u64 la, .slice mA ml.length mc, .int .u64 fe, .int .u32 li, .int .u64 C, .slice xA xl.length xc, .slice yA yl.length yc] from hV.symm)
 clear hV
 simp only [RegM.v,Sl.v] at HP HA HC HM ⊢
 by_cases c0:rk=0
 case pos =>
  have HRK:=aa (decide_eq_true c0)
  subst c0
  go_enter Tryz.func129,Tryz.ntmps129
  go_wp2_with (first|(refine aw 54 (by rfl) _ (by rfl) (by rfl) HV.out ?_;intro W0 HX0 HB0 HZ0;have hcx:=HX0.out.cell;have hz0:w.heap.size<W0.heap.size:=HX0.out.lt))
  refine (HP.out _).mono ?_
  rintro en w1 ⟨rfl,hb1⟩
  have HB1:=aa (HB0.out.trans (hb1.mono HB0.out.size))
  have HX1:=aa (HX0.out.below hb1)
  clear hb1 hcx hz0
  have hcx:=HX1.out.cell
  have hz0:w.heap.size<w1.heap.size:=HX1.out.lt
  cases qp with
  | true =>
   go_wp2
   go_ret
   exact ⟨by simp,HB1.out⟩
  | false =>
  go_wp2_with fail
  refine (HC.out _).mono ?_
  rintro en w2 ⟨rfl,hb1⟩
  have HB2:=aa (HB1.out.trans (hb1.mono HB1.out.size))
  have HX2:=aa (HX1.out.below hb1)
  clear hb1 hcx hz0
  have hcx:=HX2.out.cell
  have hz0:w.heap.size<w2.heap.size:=HX2.out.lt
  by_cases hcq:cq<=0
  case neg =>
   have HD:=aa (decide_eq_false hcq)
   have hd:decide (cq<=0)=false:=decide_eq_false hcq
   clear hcq
   go_wp2
   go_ret
   exact ⟨by rw [HD.out];simp,HB2.out⟩
  have HD:=aa (decide_eq_true hcq)
  have hd:decide (cq<=0)=true:=decide_eq_true hcq
  clear hcq
  go_wp2_with fail
  refine (HM.out _ HB2.out).mono ?_
  rintro en w3 ⟨rfl,hb1⟩
  have HB3:=aa (HB2.out.trans (hb1.mono HB2.out.size))
  clear hb1 hcx hz0
  go_wp2
  go_ret
  exact ⟨by rw [HD.out,HRK.out];simp,HB3.out⟩
 have hrk:((rk == 0)=false):=beq_eq_false_iff_ne.2 c0
 have HRK:=aa (decide_eq_false c0)
 clear c0
 go_enter Tryz.func129,Tryz.ntmps129
 go_wp2_with (first|(refine aw 54 (by rfl) _ (by rfl) (by rfl) HV.out ?_;intro W0 HX0 HB0 HZ0;have hcx:=HX0.out.cell;have hz0:w.heap.size<W0.heap.size:=HX0.out.lt))
 refine (HA.out _).mono ?_
 rintro en w1 ⟨rfl,hb1⟩
 have HB1:=aa (HB0.out.trans (hb1.mono HB0.out.size))
 have HX1:=aa (HX0.out.below hb1)
 clear hb1 hcx hz0
 have hcx:=HX1.out.cell
 have hz0:w.heap.size<w1.heap.size:=HX1.out.lt
 cases qa with
 | true =>
  go_wp2_with fail
  refine (HP.out _).mono ?_
  rintro en w2 ⟨rfl,hb1⟩
  have HB2:=aa (HB1.out.trans (hb1.mono HB1.out.size))
  have HX2:=aa (HX1.out.below hb1)
  clear hb1 hcx hz0
  have hcx:=HX2.out.cell
  have hz0:w.heap.size<w2.heap.size:=HX2.out.lt
  cases qp with
  | true =>
   go_wp2
   go_ret
   exact ⟨by simp,HB2.out⟩
  | false =>
  go_wp2_with fail
  refine (HC.out _).mono ?_
  rintro en w3 ⟨rfl,hb1⟩
  have HB3:=aa (HB2.out.trans (hb1.mono HB2.out.size))
  have HX3:=aa (HX2.out.below hb1)
  clear hb1 hcx hz0
  have hcx:=HX3.out.cell
  have hz0:w.heap.size<w3.heap.size:=HX3.out.lt
  by_cases hcq:cq<=0
  case neg =>
   have HD:=aa (decide_eq_false hcq)
   have hd:decide (cq<=0)=false:=decide_eq_false hcq
   clear hcq
   go_wp2
   go_ret
   exact ⟨by rw [HD.out];simp,HB3.out⟩
  have HD:=aa (decide_eq_true hcq)
  have hd:decide (cq<=0)=true:=decide_eq_true hcq
  clear hcq
  go_wp2
  go_ret
  exact ⟨by rw [HRK.out];simp,HB3.out⟩
 | false =>
  go_wp2_with fail
  refine (HP.out _).mono ?_
  rintro en w2 ⟨rfl,hb1⟩
  have HB2:=aa (HB1.out.trans (hb1.mono HB1.out.size))
  have HX2:=aa (HX1.out.below hb1)
  clear hb1 hcx hz0
  have hcx:=HX2.out.cell
  have hz0:w.heap.size<w2.heap.size:=HX2.out.lt
  cases qp with
  | true =>
   go_wp2
   go_ret
   exact ⟨by simp,HB2.out⟩
  | false =>
  go_wp2_with fail
  refine (HC.out _).mono ?_
  rintro en w3 ⟨rfl,hb1⟩
  have HB3:=aa (HB2.out.trans (hb1.mono HB2.out.size))
  have HX3:=aa (HX2.out.below hb1)
  clear hb1 hcx hz0
  have hcx:=HX3.out.cell
  have hz0:w.heap.size<w3.heap.size:=HX3.out.lt
  by_cases hcq:cq<=0
  case neg =>
   have HD:=aa (decide_eq_false hcq)
   have hd:decide (cq<=0)=false:=decide_eq_false hcq
   clear hcq
   go_wp2
   go_ret
   exact ⟨by rw [HD.out];simp,HB3.out⟩
  have HD:=aa (decide_eq_true hcq)
  have hd:decide (cq<=0)=true:=decide_eq_true hcq
  clear hcq
  go_wp2_with fail
  refine (HM.out _ HB3.out).mono ?_
  rintro en w4 ⟨rfl,hb1⟩
  have HB4:=aa (HB3.out.trans (hb1.mono HB3.out.size))
  clear hb1 hcx hz0
  go_wp2
  go_ret
  exact ⟨by rw [HD.out,HRK.out];simp,HB4.out⟩

theorem oJ (m:RecM) (B:Nat) (w:World) (hm:RecM.good w B m) (hB:B<=w.heap.size):Calls Tryz.prog 60 #[m.v] w fun e w'=>e = .returned (.bool (iJ m.p))/\Below w.heap.size w w':=by
 have HS:=aa (fun (u:World) (h:Below w.heap.size w u)=>qt m w.heap.size u ((hm.more hB).below h) h.size)
 have HC:=aa (fun (u:World) (h:Below w.heap.size w u)=>mC m.cf.C m.cf.o m.cf.n w.heap.size u ((hm.2.2.2.1.more hB).below h) ((hm.2.2.2.2.more hB).below h) h.size)
 rw [show iJ m.p=(if m.ki=1 then decide (m.ke<16) && tB m.p else if m.ki=2 then decide (m.ke<16) else if m.ki=3 then decide (0<m.fe) else if m.ki=4 then decide (0<m.li) else if m.ki=5 then mayC m.cf.C m.cf.o.l m.cf.n.l else false) from rfl]
 obtain ⟨qs,hqs⟩:∃q,tB m.p=q:=⟨_,rfl⟩
 simp only [hqs] at HS ⊢
 obtain ⟨qc,hqc⟩:∃q,mayC m.cf.C m.cf.o.l m.cf.n.l=q:=⟨_,rfl⟩
 simp only [hqc] at HC ⊢
 clear hqs hqc hm
 obtain ⟨V,hV⟩:∃V,m.v=V:=⟨_,rfl⟩
 rw [hV]
 rw [hV] at HS
 obtain ⟨ki,ke,pc,pn,pl,ac,an,al,⟨rk,inc,st,⟨vA,vc,vl⟩,⟨dA,dc,dl⟩,⟨oA,oc,ol⟩,la,⟨mA,mc,ml⟩⟩,fe,li,⟨C,⟨xA,xc,xl⟩,⟨yA,yc,yl⟩⟩⟩:=m
 have HV:=aa (show V = .agg #[.int .u8 ki, .int .u8 ke, .int .u64 pc, .int .u8 pn, .int .u32 pl, .int .u64 ac, .int .u8 an, .int .u32 al, .int .u8 rk, .int .u64 inc, .int .i64 st, .slice vA vl.length vc, .slice dA dl.length dc, .slice oA ol.length oc, .int .u64 la, .slice mA ml.length mc, .int .u64 fe, .int .u32 li, .int .u64 C, .slice xA xl.length xc, .slice yA yl.length yc] from hV.symm)
 clear hV
 simp only [cfV,NdM.v] at HC ⊢
 by_cases k1:ki=1
 case pos =>
  subst k1
  rw [if_pos rfl]
  by_cases hk:ke<16
  case neg =>
   have HD:=aa (decide_eq_false hk)
   have hd:decide ((ke:Int)<16)=false:=decide_eq_false (by omega)
   clear hk
   go_enter Tryz.func60,Tryz.ntmps60
   go_wp2_with (refine aw 54 (by rfl) _ (by rfl) (by rfl) HV.out ?_;intro W0 HX0 HB0 HZ0;have hcx:=HX0.out.cell;have hz0:w.heap.size<W0.heap.size:=HX0.out.lt)
   go_ret
   exact ⟨by rw [HD.out];first|rfl|(simp [*];done),HB0.out⟩
  have HD:=aa (decide_eq_true hk)
  have hd:decide ((ke:Int)<16)=true:=decide_eq_true (by omega)
  clear hk
  go_enter Tryz.func60,Tryz.ntmps60
  go_wp2_with (first|(refine aw 54 (by rfl) _ (by rfl) (by rfl) HV.out ?_;intro W0 HX0 HB0 HZ0;have hcx:=HX0.out.cell;have hz0:w.heap.size<W0.heap.size:=HX0.out.lt)|(refine ak 54 (by rfl) _ (by rfl) au aH HX0.out (by rfl) (by rfl) ?_;rw [<- HV.out]))
  refine (HS.out _ HB0.out).mono ?_
  rintro en w1 ⟨rfl,hb1⟩
  have HB1:=aa (HB0.out.trans (hb1.mono HB0.out.size))
  clear hb1 hcx hz0
  go_wp2
  go_ret
  exact ⟨by rw [HD.out];first|rfl|(simp [*];done),HB1.out⟩
 have d1:((ki:Int) == 1)=false:=beq_eq_false_iff_ne.2 (by omega)
 by_cases k2:ki=2
 case pos =>
  subst k2
  clear k1 d1
  rw [if_neg (by decide)]
  rw [if_pos rfl]
  by_cases hk:ke<16
  case neg =>
   have HD:=aa (decide_eq_false hk)
   have hd:decide ((ke:Int)<16)=false:=decide_eq_false (by omega)
   clear hk
   go_enter Tryz.func60,Tryz.ntmps60
   go_wp2_with (refine aw 54 (by rfl) _ (by rfl) (by rfl) HV.out ?_;intro W0 HX0 HB0 HZ0;have hcx:=HX0.out.cell;have hz0:w.heap.size<W0.heap.size:=HX0.out.lt)
   go_ret
   exact ⟨by rw [HD.out];first|rfl|(simp [*];done),HB0.out⟩
  have HD:=aa (decide_eq_true hk)
  have hd:decide ((ke:Int)<16)=true:=decide_eq_true (by omega)
  clear hk
  go_enter Tryz.func60,Tryz.ntmps60
  go_wp2_with (refine aw 54 (by rfl) _ (by rfl) (by rfl) HV.out ?_;intro W0 HX0 HB0 HZ0;have hcx:=HX0.out.cell;have hz0:w.heap.size<W0.heap.size:=HX0.out.lt)
  go_ret
  exact ⟨by rw [HD.out];first|rfl|(simp [*];done),HB0.out⟩
 have d2:((ki:Int) == 2)=false:=beq_eq_false_iff_ne.2 (by omega)
 by_cases k3:ki=3
 case pos =>
  subst k3
  clear k1 d1 k2 d2
  rw [if_neg (by decide)]
  rw [if_neg (by decide)]
  rw [if_pos rfl]
  by_cases hk:0<fe
  case neg =>
   have HD:=aa (decide_eq_false hk)
   have hd:decide ((0:Int)<(fe:Int))=false:=decide_eq_false (by omega)
   have hd2:decide (0<fe)=false:=decide_eq_false hk
   clear hk
   go_enter Tryz.func60,Tryz.ntmps60
   go_wp2_with (refine aw 54 (by rfl) _ (by rfl) (by rfl) HV.out ?_;intro W0 HX0 HB0 HZ0;have hcx:=HX0.out.cell;have hz0:w.heap.size<W0.heap.size:=HX0.out.lt)
   go_ret
   exact ⟨by rw [HD.out];first|rfl|(simp [*];done),HB0.out⟩
  have HD:=aa (decide_eq_true hk)
  have hd:decide ((0:Int)<(fe:Int))=true:=decide_eq_true (by omega)
  have hd2:decide (0<fe)=true:=decide_eq_true hk
  go_enter Tryz.func60,Tryz.ntmps60
  go_wp2_with (refine aw 54 (by rfl) _ (by rfl) (by rfl) HV.out ?_;intro W0 HX0 HB0 HZ0;have hcx:=HX0.out.cell;have hz0:w.heap.size<W0.heap.size:=HX0.out.lt)
  go_ret
  exact ⟨by rw [HD.out];first|rfl|(simp [*];done),HB0.out⟩
 have d3:((ki:Int) == 3)=false:=beq_eq_false_iff_ne.2 (by omega)
 by_cases k4:ki=4
 case pos =>
  subst k4
  clear k1 d1 k2 d2 k3 d3
  rw [if_neg (by decide)]
  rw [if_neg (by decide)]
  rw [if_neg (by decide)]
  rw [if_pos rfl]
  by_cases hk:0<li
  case neg =>
   have HD:=aa (decide_eq_false hk)
   have hd:decide ((0:Int)<(li:Int))=false:=decide_eq_false (by omega)
   have hd2:decide (0<li)=false:=decide_eq_false hk
   clear hk
   go_enter Tryz.func60,Tryz.ntmps60
   go_wp2_with (refine aw 54 (by rfl) _ (by rfl) (by rfl) HV.out ?_;intro W0 HX0 HB0 HZ0;have hcx:=HX0.out.cell;have hz0:w.heap.size<W0.heap.size:=HX0.out.lt)
   go_ret
   exact ⟨by rw [HD.out];first|rfl|(simp [*];done),HB0.out⟩
  have HD:=aa (decide_eq_true hk)
  have hd:decide ((0:Int)<(li:Int))=true:=decide_eq_true (by omega)
  have hd2:decide (0<li)=true:=decide_eq_true hk
  go_enter Tryz.func60,Tryz.ntmps60
  go_wp2_with (refine aw 54 (by rfl) _ (by rfl) (by rfl) HV.out ?_;intro W0 HX0 HB0 HZ0;have hcx:=HX0.out.cell;have hz0:w.heap.size<W0.heap.size:=HX0.out.lt)
  go_ret
  exact ⟨by rw [HD.out];first|rfl|(simp [*];done),HB0.out⟩
 have d4:((ki:Int) == 4)=false:=beq_eq_false_iff_ne.2 (by omega)
 by_cases k5:ki=5
 case pos =>
  subst k5
  clear k1 d1 k2 d2 k3 d3 k4 d4
  rw [if_neg (by decide)]
  rw [if_neg (by decide)]
  rw [if_neg (by decide)]
  rw [if_neg (by decide)]
  rw [if_pos rfl]
  go_enter Tryz.func60,Tryz.ntmps60
  go_wp2_with (refine aw 54 (by rfl) _ (by rfl) (by rfl) HV.out ?_;intro W0 HX0 HB0 HZ0;have hcx:=HX0.out.cell;have hz0:w.heap.size<W0.heap.size:=HX0.out.lt)
  refine (HC.out _ HB0.out).mono ?_
  rintro en w1 ⟨rfl,hb1⟩
  have HB1:=aa (HB0.out.trans (hb1.mono HB0.out.size))
  clear hb1 hcx hz0
  go_wp2
  go_ret
  exact ⟨rfl,HB1.out⟩
 have d5:((ki:Int) == 5)=false:=beq_eq_false_iff_ne.2 (by omega)
 rw [if_neg k1,if_neg k2,if_neg k3,if_neg k4,if_neg k5]
 clear k1 k2 k3 k4 k5
 go_enter Tryz.func60,Tryz.ntmps60
 go_wp2_with (refine aw 54 (by rfl) _ (by rfl) (by rfl) HV.out ?_;intro W0 HX0 HB0 HZ0;have hcx:=HX0.out.cell;have hz0:w.heap.size<W0.heap.size:=HX0.out.lt)
 go_ret
 exact ⟨rfl,HB0.out⟩

theorem cJ (m:RecM) (B:Nat) (w:World) (hm:RecM.good w B m) (hB:B<=w.heap.size):Calls Tryz.prog 20 #[m.v] w fun e w'=>e = .returned (.bool (mayR m.p))/\Below w.heap.size w w':=by
 have HN:=aa (fun (u:World)=>oI m u)
 have HS:=aa (fun (u:World) (h:Below w.heap.size w u)=>qo m (gT m) w.heap.size u ((hm.more hB).below h) (qq ((hm.more hB).below h)) h.size)
 have HT:=aa (fun (u:World) (h:Below w.heap.size w u)=>oJ m w.heap.size u ((hm.more hB).below h) h.size)
 rw [zz] at HS
 rw [show mayR m.p=(decide (m.p=fo m.p) && iJ m.p) from rfl]
 obtain ⟨q1,h1⟩:∃q,decide (m.p=fo m.p)=q:=⟨_,rfl⟩
 obtain ⟨q2,h2⟩:∃q,iJ m.p=q:=⟨_,rfl⟩
 simp only [h1] at HS ⊢
 simp only [h2] at HT ⊢
 clear hm h1 h2
 have HSZ:=aa (show m.box.size=21 from rfl)
 have HV:=aa (show m.v = .agg m.box from rfl)
 obtain ⟨X,hX⟩:∃X,m.box=X:=⟨_,rfl⟩
 rw [hX] at HV HSZ
 clear hX
 obtain ⟨V,hV⟩:∃V,m.v=V:=⟨_,rfl⟩
 rw [hV] at HV HN HS HT ⊢
 obtain ⟨V2,hV2⟩:∃V,(gT m).v=V:=⟨_,rfl⟩
 rw [hV2] at HN HS
 clear hV hV2
 go_enter Tryz.func20,Tryz.ntmps20
 go_upto_region 1 with (refine aw 54 (by rfl) _ (by rfl) (by rfl) HV.out ?_;intro W0 HX0 HB0 HZ0;have hz0:w.heap.size<W0.heap.size:=HX0.out.lt)
 have HD:=aa (show Below W0.heap.size W0 W0.drew from (Below.refl _ _).drew)
 have HBD:=aa (HB0.out.drew)
 have HXS:=aa (fun (u:World) (h:Below W0.heap.size W0 u)=>HX0.out.below h)
 clear hz0
 refine wp_region_held_drew (S:=fun u=>BoxAt u w.heap.size X 54) (by kernel_rfl) (HXS.out _ HD.out) (fun hHeld => ?_)
 refine wpAnyH_take (i:=0) (oi:=⟨some 3,_,_,_,_,_⟩) (v:=V) rfl (by kernel_rfl) (by kernel_rfl) (by kernel_rfl) (fun _ _ _ h=>h) (gL 54 (by rfl) _ (by rfl) au aH HV.out (fun _ h=>h) HSZ.out (by rfl)) (by assumption) ?_
 simp only [Act.put,List.setIfInBounds_toArray,List.set_cons_zero,List.set_cons_succ]
 refine wpAnyH_take (i:=1) (oi:=⟨some 4,_,_,_,_,_⟩) (v:=V) rfl (by kernel_rfl) (by kernel_rfl) (by kernel_rfl) (fun _ _ _ h=>h) (gL 54 (by rfl) _ (by rfl) au aH HV.out (fun _ h=>h) HSZ.out (by rfl)) (by assumption) ?_
 simp only [Act.put,List.setIfInBounds_toArray,List.set_cons_zero,List.set_cons_succ]
 refine wpAnyH_ready (rs:=[2]) (by kernel_rfl) (by simp) ?_
 refine AllReadyH.cons rfl (fun K hK => ?_) AllReadyH.nil
 go_simp
 go_wp2_with fail
 refine (HN.out _).mono ?_
 rintro en u1 ⟨rfl,hbu⟩
 have HU1:=aa (HD.out.trans (hbu.mono HD.out.size))
 have HBU1:=aa (HB0.out.trans (HU1.out.mono HB0.out.size))
 clear hbu
 refine hK.out _ _ (HXS.out _ HU1.out) (fun hHeld => ?_)
 clear hK K
 refine wpAnyH_ready (rs:=[3]) (by kernel_rfl) (by simp) ?_
 refine AllReadyH.cons rfl (fun K hK => ?_) AllReadyH.nil
 go_simp
 go_wp2_with fail
 refine (HS.out _ HBU1.out).mono ?_
 rintro en u2 ⟨rfl,hbu⟩
 have HU2:=aa (HU1.out.trans (hbu.mono HU1.out.size))
 have HBU2:=aa (HB0.out.trans (HU2.out.mono HB0.out.size))
 clear hbu
 refine hK.out _ _ (HXS.out _ HU2.out) (fun hHeld => ?_)
 clear hK K
 cases q1 with
 | false =>
  refine tkY 4 7 (.bool false) rfl ?hy1 (by assumption) ?rest1
  case hy1=>intro w hSw;(try dsimp only at hSw);go_simp <;> with_reducible rfl
  simp only [Act.put,sTI,sT0,sT1]
  refine tkU 5 8 rfl (by assumption) ?_
  simp only [Act.put,sTI,sT0,sT1]
  refine tkU 6 9 rfl (by assumption) ?_
  simp only [Act.put,sTI,sT0,sT1]
  refine tkY 7 10 (.bool false) rfl ?hy2 (by assumption) ?rest2
  case hy2=>intro w hSw;(try dsimp only at hSw);go_simp <;> with_reducible rfl
  simp only [Act.put,sTI,sT0,sT1]
  refine tkY 8 2 (.bool false) rfl ?hy3 (by assumption) ?rest3
  case hy3=>intro w hSw;(try dsimp only at hSw);go_simp <;> with_reducible rfl
  simp only [Act.put,sTI,sT0,sT1]
  refine wpAnyH_done (by kernel_rfl) ?_ _
  clear hHeld
  go_wp2
  go_ret
  exact ⟨by simp,HBU2.out⟩
 | true =>
 refine tkY 4 7 (.bool true) rfl ?hy4 (by assumption) ?rest4
 case hy4=>intro w hSw;(try dsimp only at hSw);go_simp <;> with_reducible rfl
 simp only [Act.put,sTI,sT0,sT1]
 refine wpAnyH_take (i:=5) (oi:=⟨some 8,_,_,_,_,_⟩) (v:=V) rfl (by kernel_rfl) (by kernel_rfl) (by kernel_rfl) (fun _ _ _ h=>h) (gL 54 (by rfl) _ (by rfl) au aH HV.out (fun _ h=>h) HSZ.out (by rfl)) (by assumption) ?_
 simp only [Act.put,List.setIfInBounds_toArray,List.set_cons_zero,List.set_cons_succ]
 refine wpAnyH_ready (rs:=[6]) (by kernel_rfl) (by simp) ?_
 refine AllReadyH.cons rfl (fun K hK => ?_) AllReadyH.nil
 go_simp
 go_wp2_with fail
 refine (HT.out _ HBU2.out).mono ?_
 rintro en u3 ⟨rfl,hbu⟩
 have HU3:=aa (HU2.out.trans (hbu.mono HU2.out.size))
 have HBU3:=aa (HB0.out.trans (HU3.out.mono HB0.out.size))
 clear hbu
 refine hK.out _ _ (HXS.out _ HU3.out) (fun hHeld => ?_)
 clear hK K
 refine tkY 7 10 (.bool q2) rfl ?hy5 (by assumption) ?rest5
 case hy5=>intro w hSw;(try dsimp only at hSw);go_simp <;> with_reducible rfl
 simp only [Act.put,sTI,sT0,sT1]
 refine tkY 8 2 (.bool q2) rfl ?hy6 (by assumption) ?rest6
 case hy6=>intro w hSw;(try dsimp only at hSw);go_simp <;> with_reducible rfl
 simp only [Act.put,sTI,sT0,sT1]
 refine wpAnyH_done (by kernel_rfl) ?_ _
 clear hHeld
 go_wp2
 go_ret
 exact ⟨by simp,HBU3.out⟩

end Go.Proofs.YtnkjdijbfnmnhaaGreat
