/-
  scrutineerlaw15.StoreAgain answers true for every input and leaves its input as it was; no condition.
-/
import Derived.Test.YtnkjdijbfnmnhaaGreatJ51
import Derived.Test.YtnkjdijbfnmnhaaGreatJ03
namespace Go.Proofs.YtnkjdijbfnmnhaaGreat.storeAgain
set_option maxRecDepth 100000
set_option maxHeartbeats 12800000
open Go.ChangeShapes Go.WideShapes Go.ChangeAt Go.RowKit

theorem walk (n c:Int) (s:Sl RecM) (y:Nat) (hy:y<=255) (w:World) (hs:oM w w.heap.size s) :
  Calls Tryz.prog 7 #[.int .i64 n, .int .i64 c,s.v, .int .u8 (y:Int)] w fun e w'=>e = .returned (.bool true)/\Below w.heap.size w w':=by
 have HG:=aa (qX n c s w hs)
 have HS:=aa hs
 obtain ⟨A,cp,l⟩:=s
 simp only [Sl.v] at HG HS ⊢
 unfold kN at HG
 obtain ⟨m,hm⟩:∃m,l.length=m:=⟨_,rfl⟩
 rw [hm] at HG ⊢
 have HM:=aa hm
 clear hs hm
 go_enter Tryz.func7,Tryz.ntmps7
 go_wp2_with fail
 refine HG.out.mono ?_
 rintro e wg ⟨b,rfl,hb,hg⟩
 have HBG:=aa hb
 have HGG:=aa hg
 clear hb hg HG
 cases b with
 | true =>
  go_wp2_with fail
  refine (kO _).mono ?_
  rintro e wz ⟨rfl,hbz⟩
  go_wp2
  go_ret
  exact ⟨rfl,HBG.out.trans (hbz.mono HBG.out.size)⟩
 | false =>
 obtain ⟨⟨h1,h2,h3,h4,h5⟩,h6⟩:=HGG.out (by first|trivial|rfl)
 have HT:=aa (BU HS.out.2.2.2 h6)
 have HSE:=aa HS.out.2.2.1
 obtain ⟨n,rfl⟩:∃k:Nat,n=k:=⟨n.toNat,by omega⟩
 obtain ⟨c,rfl⟩:∃k:Nat,c=k:=⟨c.toNat,by omega⟩
 clear HGG h6 HS
 have hn1:64<=n:=by omega
 have hn2:n<=512:=by omega
 have hcc1:6<=c:=by omega
 have hcc2:c<=200:=by omega
 clear h1 h2 h3 h4
 go_wp2_with fail
 refine (mw n c _ hn1 hn2 (by omega) (by omega)).mono ?_
 rintro e w1 ⟨Lc,rfl,hd1,hb1,hs1⟩
 have HD1:=aa hd1
 have HB1:=aa (HBG.out.trans (hb1.mono HBG.out.size))
 have HS1:=aa (fun g hg=>Nat.le_trans HBG.out.size (hs1 g hg))
 clear hd1 hb1 hs1 HBG
 obtain ⟨bc,hbc⟩:∃bc,Lc.b=bc:=⟨_,rfl⟩
 rw [hbc]
 have HBC:=aa hbc
 clear hbc
 go_wp2_with fail
 refine (mw n c _ hn1 hn2 (by omega) (by omega)).mono ?_
 rintro e w2 ⟨Ld,rfl,hd2,hb2,hs2⟩
 obtain ⟨bd,hbd⟩:∃bd,Ld.b=bd:=⟨_,rfl⟩
 rw [hbd]
 have HBD:=aa hbd
 have HD2:=aa hd2
 have HDC2:=aa (HD1.out.below hb2)
 have HB2:=aa (HB1.out.trans (hb2.mono HB1.out.size))
 have HAP:=aa (show (∀g,Lc.has g->w.heap.size<=g/\g<w1.heap.size)/\∀g,Ld.has g->w1.heap.size<=g from ⟨fun g hg=>⟨HS1.out g hg,HD1.out.lt hg⟩,hs2⟩)
 have HW12:=aa (show w.heap.size<=w1.heap.size/\w1.heap.size<=w2.heap.size from ⟨HB1.out.size,hb2.size⟩)
 have HOP:=aa (dr (ps:=[]) HDC2.out (Fits13.make (n:=n) (c:=c) hcc1) rfl (fun p hp=>by cases hp))
 rw [HBC.out] at HOP
 clear hd2 hb2 hs2 hbd HS1 HD1 HB1
 go_wp2_with fail
 refine HOP.out.mono ?_
 rintro e w3 ⟨jb,sb,y0,rfl,⟨hj3,hs3⟩,hst3,hf3,hb3⟩
 have HJ3:=aa hst3
 have HF3:=aa hf3
 have HB3:=aa hb3
 have HLJ:=aa (And.intro hj3 hs3)
 have HOQ:=aa (dr (ps:=[]) (HD2.out.below hb3) (Fits13.make (n:=n) (c:=c) hcc1) rfl (fun p hp=>by cases hp))
 rw [HBD.out] at HOQ
 clear hj3 hs3 hst3 hf3 hb3 HOP
 go_wp2_with fail
 refine HOQ.out.mono ?_
 rintro e w4 ⟨kb,tb,z0,rfl,⟨hj4,hs4⟩,hst4,hf4,hb4⟩
 have HP:=aa (show TwoG w n c bc bd sb tb ⟨0,0,[]⟩ ⟨0,0,[]⟩ [] [] w4 from by
  obtain ⟨ha1,ha2⟩:=HAP.out
  obtain ⟨hw1,hw2⟩:=HW12.out
  obtain ⟨hj,hs⟩:=HLJ.out
  have hs3:=HB3.out.size
  have hdl:∀g,Ld.has g->g<w2.heap.size:=fun g hg=>HD2.out.lt hg
  have hcl:∀g,stB Lc jb sb g->w.heap.size<=g/\g<w3.heap.size/\(g<w1.heap.size∨w2.heap.size<=g):=fun g hg=>⟨by
   rcases hg with e|e|e
   ·exact (ha1 g e).1
   ·omega
   ·omega,HJ3.out.lt hg,by
   rcases hg with e|e|e
   ·exact .inl (ha1 g e).2
   ·omega
   ·omega⟩
  have hkl:∀g,stB Ld kb tb g->(w1.heap.size<=g/\g<w2.heap.size/\Ld.has g)∨w3.heap.size<=g:=fun g hg=>by
   rcases hg with e|e|e
   ·exact .inl ⟨ha2 g e,hdl g e,e⟩
   ·omega
   ·omega
  refine ⟨Lc,Ld,ip n c,ip n c,jb,kb,y0,z0,HBC.out,HBD.out,rfl,rfl,rfl,rfl,HJ3.out.below hb4,hst4,fun g e1 e2 => ?_,(HF3.out (fun q=>Ld.has q) (fun q hq=>hdl q hq)).step (Chg.of_below hb4) (fun q e hlt => ?_),hf4 _ (fun q hq=>(hcl q hq).2.1),(HB2.out.trans (HB3.out.mono (by omega))).trans (hb4.mono (by omega)),fun g e=>(hcl g e).1,fun g e => ?_⟩
  ·have h1:=hcl g e1
   rcases hkl g e2 with h2|h2 <;> omega
  ·rcases e with e|e
   ·exact .inl e
   ·rcases hkl q e with e|e
    ·exact .inr e.2.2
    ·omega
  ·rcases hkl g e with h2|h2 <;> omega)
 clear hj4 hs4 hst4 hf4 hb4 HAP HW12 HOQ HD2 HDC2 HB2 HJ3 HF3 HB3 HLJ HBC HBD
 go_wp2
 go_loopw [15,16,17] (fun s15 s16 s17 wr=>∃(k tb:Nat) (S:JS) (ps:List RecP),k<=m/\s17 = .int .i64 (k:Int)/\s16 = .int .i64 0/\s15 = .pointer (some ⟨tb,0,none⟩)/\Hid (S.m<=k/\S.gen<=k)/\Hid (TwoG w n c bc bd sb tb S S ps ps wr)) (fun _ _ s17 _=>m - (intOf s17).toNat)
 case atStart=>exact ⟨0,tb,⟨0,0,[]⟩,[],Nat.zero_le _,rfl,rfl,rfl,aa ⟨Nat.le_refl _,Nat.le_refl _⟩,HP⟩
 case round =>
  obtain ⟨k,tb,S,ps,hk,rfl,rfl,rfl,HSM,HP⟩:=hrel
  by_cases hlt:k<m
  case neg =>
   have hkm:m=k:=by omega
   subst hkm
   have HBX:=aa HP.out.b
   go_wp2_with fail
   refine (kO _).mono ?_
   rintro e wz ⟨rfl,hbz⟩
   go_wp2
   go_ret
   exact ⟨rfl,HBX.out.trans (hbz.mono HBX.out.size)⟩
  obtain ⟨x,hx⟩:∃x,l[k]?=some x:=⟨_,List.getElem?_eq_getElem (by rw [HM.out];exact hlt)⟩
  obtain ⟨b,off,rfl,hb,hrg⟩:=HSE.out.rec14 hx
  have htm:=HT.out x (List.mem_of_getElem? hx)
  have HRG:=aa (fun (u:World) (h:Below w.heap.size w u)=>hrg u (fun q hq=>h.cell hq))
  have HTM:=aa (fun (u:World) (h:Below w.heap.size w u)=>(htm.below h).more h.size)
  have HXV:=aa (show x.v = .agg x.cs.toArray from rfl)
  have HXL:=aa x.cs_len
  have HBL:=aa (fun (u:World) (h:Below w.heap.size w u)=>Nat.lt_of_lt_of_le hb h.size)
  have hk21:(k:Int) * 21=((k * 21:Nat):Int):=by omega
  have hlt2:((k:Int)<(m:Int)):=by omega
  have hmod:(wrap64 (y:Int)).tmod (m:Int)=((y % m:Nat):Int):=by rw [show wrap64 (y:Int)=(y:Int) from by unfold wrap64;omega,Int.tmod_eq_emod_of_nonneg (by omega)];rfl
  obtain ⟨ym,hym⟩:∃x,y % m=x:=⟨_,rfl⟩
  have hmod2:(y:Int) % (m:Int)=((ym:Nat):Int):=by rw [<- hym];rfl
  rw [hym] at hmod
  have hm0:((m:Int) == 0)=false:=by rw [beq_eq_false_iff_ne];omega
  clear hx hrg htm hym hb
  go_upto_if 71 with fail
  go_cut [15,16] (fun p q wx=>∃t2:Nat,p = .pointer (some ⟨t2,0,none⟩)/\q = .int .i64 0/\Hid (TwoG w n c bc bd sb t2 S S ps ps wx))
  case first =>
   by_cases hat:k=ym
   case pos =>
    subst hat
    have HO:=aa HP.out.reopen
    go_wp2_with fail
    refine HO.out.mono ?_
    rintro e W5 ⟨t5,rfl,hp5⟩
    have HP5:=aa hp5
    clear hp5
    go_wp2_with fail
    go_meet
    exact ⟨t5,rfl,rfl,HP5⟩
   case neg =>
    have hat2:¬((k:Int)=(ym:Int)):=by omega
    go_wp2_with fail
    go_meet
    exact ⟨tb,rfl,rfl,HP⟩
  case rest =>
  obtain ⟨tb,rfl,rfl,HP⟩:=hcut
  clear hmod hmod2 hm0
  have HD:=aa (show Below wc.heap.size wc wc.drew from (Below.refl _ _).drew)
  have HPD:=aa (HP.out.below HD.out)
  have hm1:S.m+1<=1000:=by have:=HSM.out;omega
  have hg1:S.gen+1<=1000:=by have:=HSM.out;omega
  have HP1:=aa (HPD.out.put x (HTM.out _ HPD.out.b) hm1 hg1)
  have HP2:=aa (fun (S2:JS) (ps2:List RecP) (u:World) (h:TwoG w n c bd bc tb sb S S2 ps ps2 u)=>h.put x (HTM.out _ h.b) hm1 hg1)
  have HSM2:=aa (show (eZ S n c (foldsP ps) x.p).m<=k+1/\(eZ S n c (foldsP ps) x.p).gen<=k+1 from by have:=pj S n c (foldsP ps) x.p;have:=HSM.out;omega)
  obtain ⟨q,hq⟩:∃q,gg S n c (foldsP ps) x.p=q:=⟨_,rfl⟩
  obtain ⟨S2,hS2⟩:∃q,eZ S n c (foldsP ps) x.p=q:=⟨_,rfl⟩
  obtain ⟨p2,hp2⟩:∃q,kM S n c (foldsP ps) x.p ps=q:=⟨_,rfl⟩
  rw [hS2] at HSM2
  simp only [hq,hS2,hp2] at HP1 HP2
  obtain ⟨VX,hVX⟩:∃V,x.v=V:=⟨_,rfl⟩
  simp only [hVX] at HP1 HP2
  rw [hVX] at HXV
  clear hq hS2 hp2 hVX hm1 hg1
  go_upto_region 16 with fail
  refine wp_region_held_drew (S:=fun u=>u.rangeAt b (off+k * 21) x.cs) (by kernel_rfl) (HRG.out _ HPD.out.b) (fun hHeld => ?_)
  refine tkY 0 83 ?v1 rfl ?hy1 (by assumption) ?rest1
  case hy1=>intro w hSw;clear hSw;go_simp <;> with_reducible rfl
  simp only [Act.put,sTI,sT0,sT1]
  refine tkY 1 84 ?v2 rfl ?hy2 (by assumption) ?rest2
  case hy2=>intro w hSw;clear hSw;go_simp <;> with_reducible rfl
  simp only [Act.put,sTI,sT0,sT1]
  refine tkY 2 85 ?v3 rfl ?hy3 (by assumption) ?rest3
  case hy3=>intro w hSw;clear hSw;go_simp <;> with_reducible rfl
  simp only [Act.put,sTI,sT0,sT1]
  refine tkY 3 86 ?v4 rfl ?hy4 (by assumption) ?rest4
  case hy4=>intro w hSw;clear hSw;go_simp <;> with_reducible rfl
  simp only [Act.put,sTI,sT0,sT1]
  refine wpAnyH_take (i:=4) (oi:=⟨some 87,_,_,_,_,_⟩) (v:=VX) rfl (by kernel_rfl) (by kernel_rfl) (by kernel_rfl) (fun _ _ _ h=>h) (rJ 54 (by rfl) _ (by rfl) au aH HXV.out (fun _ h=>h) HXL.out (by rfl)) (by assumption) ?_
  simp only [Act.put,sTI,sT0,sT1]
  refine tkY 6 89 ?v5 rfl ?hy5 (by assumption) ?rest5
  case hy5=>intro w hSw;clear hSw;go_simp <;> with_reducible rfl
  simp only [Act.put,sTI,sT0,sT1]
  refine tkY 7 90 ?v6 rfl ?hy6 (by assumption) ?rest6
  case hy6=>intro w hSw;clear hSw;go_simp <;> with_reducible rfl
  simp only [Act.put,sTI,sT0,sT1]
  refine tkY 8 91 ?v7 rfl ?hy7 (by assumption) ?rest7
  case hy7=>intro w hSw;clear hSw;go_simp <;> with_reducible rfl
  simp only [Act.put,sTI,sT0,sT1]
  refine tkY 9 92 ?v8 rfl ?hy8 (by assumption) ?rest8
  case hy8=>intro w hSw;clear hSw;go_simp <;> with_reducible rfl
  simp only [Act.put,sTI,sT0,sT1]
  refine wpAnyH_take (i:=10) (oi:=⟨some 93,_,_,_,_,_⟩) (v:=VX) rfl (by kernel_rfl) (by kernel_rfl) (by kernel_rfl) (fun _ _ _ h=>h) (rJ 54 (by rfl) _ (by rfl) au aH HXV.out (fun _ h=>h) HXL.out (by rfl)) (by assumption) ?_
  simp only [Act.put,sTI,sT0,sT1]
  refine wpAnyH_ready (rs:=[5]) (by kernel_rfl) (by simp) ?_
  refine AllReadyH.cons rfl (fun K hK => ?_) AllReadyH.nil
  go_simp
  go_wp2_with fail
  refine (HP1.out).mono ?_
  rintro en u1 ⟨rfl,hp1⟩
  have HQ1:=aa hp1.turn
  clear hp1
  refine hK.out _ _ (HRG.out _ HQ1.out.b) (fun hHeld => ?_)
  clear hK K
  refine wpAnyH_ready (rs:=[11]) (by kernel_rfl) (by simp) ?_
  refine AllReadyH.cons rfl (fun K hK => ?_) AllReadyH.nil
  go_simp
  go_wp2_with fail
  refine (HP2.out _ _ _ HQ1.out).mono ?_
  rintro en u2 ⟨rfl,hp2⟩
  have HQ2:=aa hp2.turn
  have HT1:=aa HQ2.out.state
  clear hp2 HQ1
  refine hK.out _ _ (HRG.out _ HQ2.out.b) (fun hHeld => ?_)
  clear hK K
  refine tkY 12 95 (.bool false) rfl ?hy9 (by assumption) ?rest9
  case hy9=>intro w hSw;clear hSw;go_simp <;> with_reducible rfl
  simp only [Act.put,sTI,sT0,sT1]
  refine tkY 13 96 (.bool false) rfl ?hy10 (by assumption) ?rest10
  case hy10=>intro w hSw;clear hSw;go_simp <;> with_reducible rfl
  simp only [Act.put,sTI,sT0,sT1]
  refine tkY 14 97 ?v11 rfl ?hy11 (by assumption) ?rest11
  case hy11=>intro w hSw;clear hSw;go_simp <;> with_reducible rfl
  simp only [Act.put,sTI,sT0,sT1]
  refine tkY 16 99 ?v12 rfl ?hy12 (by assumption) ?rest12
  case hy12=>intro w hSw;clear hSw;go_simp <;> with_reducible rfl
  simp only [Act.put,sTI,sT0,sT1]
  refine wpAnyH_ready (rs:=[15]) (by kernel_rfl) (by simp) ?_
  refine AllReadyH.cons rfl (fun K hK => ?_) AllReadyH.nil
  go_simp
  go_wp2_with fail
  refine (HT1.out).mono ?_
  rintro en u3 ⟨xa,rfl,hxe,hxf,hb3⟩
  have HQ3:=aa (HQ2.out.below hb3)
  have HT2:=aa HQ3.out.turn.state
  have HXE:=aa hxe
  have HXF:=aa hxf
  obtain ⟨VA,hVA⟩:∃V,xa.v=V:=⟨_,rfl⟩
  rw [hVA]
  have HVA:=aa hVA
  clear hxe hxf hb3 hVA
  refine hK.out _ _ (HRG.out _ HQ3.out.b) (fun hHeld => ?_)
  clear hK K
  refine wpAnyH_ready (rs:=[17]) (by kernel_rfl) (by simp) ?_
  refine AllReadyH.cons rfl (fun K hK => ?_) AllReadyH.nil
  go_simp
  go_wp2_with fail
  refine (HT2.out).mono ?_
  rintro en u4 ⟨xb,rfl,hye,hyf,hb4⟩
  have HQ4:=aa (HQ3.out.below hb4)
  have HSA:=aa (jq xa xb u4.heap.size u4 (HXF.out.below hb4).good hyf.good (Nat.le_refl _))
  rw [(HXE.out.trans hye.symm).same,HVA.out] at HSA
  obtain ⟨VB,hVB⟩:∃V,xb.v=V:=⟨_,rfl⟩
  rw [hVB] at HSA ⊢
  clear hye hyf hb4 hVB
  refine hK.out _ _ (HRG.out _ HQ4.out.b) (fun hHeld => ?_)
  clear hK K
  refine wpAnyH_ready (rs:=[18]) (by kernel_rfl) (by simp) ?_
  refine AllReadyH.cons rfl (fun K hK => ?_) AllReadyH.nil
  go_simp
  go_wp2_with fail
  refine (HSA.out).mono ?_
  rintro en u5 ⟨rfl,hb5⟩
  have HQ5:=aa (HQ4.out.below hb5)
  clear hb5
  refine hK.out _ _ (HRG.out _ HQ5.out.b) (fun hHeld => ?_)
  clear hK K
  refine tkY 19 102 (.bool false) rfl ?hy13 (by assumption) ?rest13
  case hy13=>intro w hSw;clear hSw;go_simp <;> with_reducible rfl
  simp only [Act.put,sTI,sT0,sT1]
  refine tkY 20 103 (.bool false) rfl ?hy14 (by assumption) ?rest14
  case hy14=>intro w hSw;clear hSw;go_simp <;> with_reducible rfl
  simp only [Act.put,sTI,sT0,sT1]
  refine wpAnyH_done (by kernel_rfl) ?_ _
  clear hHeld
  go_wp2
  go_roundw
  case rel=>exact ⟨k+1,tb,S2,p2,by omega,by go_num,rfl,rfl,HSM2,HQ5⟩
  case measure=>simp [intOf];omega

theorem own:ownKnob Tryz.prog.godebug=none:=by kernel_rfl
theorem laid:laidOutB Tryz.prog=true:=by kernel_rfl

theorem contract (H:Type) (enc:TypeId × Value->H) (W:World) (base:Nat) (args:Array Value) (ds gs:List (DataW H)) (before:List MemPlace)
  (hval:∀(j:Nat) t v,Tryz.f7.params[j]?=some t->args[j]?=some v->Value.okWide Tryz.prog W .any base t v)
  (hW:DataW.Whole enc Tryz.prog Tryz.f7.params.toList Rows.storeAgainSpec.vars false W args.toList ds gs before) :
  Calls Tryz.prog 7 args W fun e W'=>∃v,e = .returned v/\Rows.storeAgainSpec.post enc Tryz.prog Tryz.f7 false true false false W args v W':=by
 have hW':=hW
 obtain ⟨p,q,hA0,hV,rfl,hfz,hnd⟩:=hW
 have hA:DataW.TrodAll enc Tryz.prog W 0 (fun _=>true) true Tryz.f7.params.toList args.toList ds p:=hA0
 rw [Tryz.params7] at hA hval
 obtain ⟨v0,vs0,d0,ds0,p0,q0,hargs,rfl,rfl,h0,r0⟩:=trodAll_cons hA
 obtain ⟨v1,vs1,d1,ds1,p1,q1,rfl,rfl,rfl,h1,r1⟩:=trodAll_cons r0
 obtain ⟨v2,vs2,d2,ds2,p2,q2,rfl,rfl,rfl,h2,r2⟩:=trodAll_cons r1
 obtain ⟨v3,vs3,d3,ds3,p3,q3,rfl,rfl,rfl,h3,r3⟩:=trodAll_cons r2
 obtain ⟨rfl,rfl,rfl⟩:=trodAll_nil r3
 obtain rfl:args = #[v0,v1,v2,v3]:=by cases args;simp_all
 obtain ⟨rfl,rfl⟩:=trodVars_none hV
 obtain ⟨a0,rfl,rfl,rfl,w0⟩:=open_int Tryz.underlying3 (hval 0 3 v0 rfl rfl) h0
 have b0 : -9223372036854775808<=a0/\a0<=9223372036854775807:=by simpa [Lit.wf,IntKind.min,IntKind.max,IntKind.signed,IntKind.bits] using w0
 obtain ⟨a1,rfl,rfl,rfl,w1⟩:=open_int Tryz.underlying3 (hval 1 3 v1 rfl rfl) h1
 have b1 : -9223372036854775808<=a1/\a1<=9223372036854775807:=by simpa [Lit.wf,IntKind.min,IntKind.max,IntKind.signed,IntKind.bits] using w1
 obtain ⟨u2,rfl,bu2⟩:=wF (hval 2 56 v2 rfl rfl) h2
 obtain ⟨a3,rfl,rfl,rfl,w3⟩:=open_int Tryz.underlying5 (hval 3 5 v3 rfl rfl) h3
 have b3:0<=a3/\a3<=255:=by simpa [Lit.wf,IntKind.min,IntKind.max,IntKind.signed,IntKind.bits] using w3
 have fin:∀(e:Ending) (W':World),e = .returned (.bool true)/\Below W.heap.size W W'->∃v,e = .returned v/\Rows.storeAgainSpec.post enc Tryz.prog Tryz.f7 false true false false W #[.int .i64 a0, .int .i64 a1,Sl.v u2, .int .u8 a3] v W' :=
  fun e W' ⟨he,hb⟩=>⟨_,he,yH laid (by kernel_rfl) rfl rfl rfl Tryz.underlying4 hW' hb⟩
 obtain ⟨y,rfl⟩:=Int.eq_ofNat_of_zero_le b3.1
 exact (walk a0 a1 u2 y (by omega) W bu2).mono fin

theorem lifted (os:Os) (started:os.Started) (H:Type) (enc:TypeId × Value->H) :
  ReturnsInHanded {} Tryz.checked os 7 .any (Rows.storeAgainSpec.pre6 enc Tryz.prog Tryz.f7 Rows.storeAgainRow.domain false) (Rows.storeAgainSpec.post enc Tryz.prog Tryz.f7 false true false false):=by
 refine returnsInHanded_of_change (C:=Tryz.checked) (s:=Rows.storeAgainSpec) own started (by kernel_rfl) Tryz.func7
  (ChangeSpec.witness6 (enc:=enc) (C:=Tryz.checked) false ⟨#[],#[.int .i64 0, .int .i64 0, .slice none 0 0, .int .u8 0],[]⟩ 8 (by kernel_rfl) (by kernel_rfl) (by kernel_rfl) (by kernel_rfl)) ?_
 intro W base args ds gs before hval hW _ _
 exact contract H enc W base args ds gs before hval hW

theorem proved:Rows.StoreAgainSaid :=
 OpenClaim.holds_of_wide 7 Tryz.f7 rfl rfl rfl rfl rfl rfl rfl ⟨rfl,rfl,rfl,rfl,rfl⟩ rfl rfl rfl rfl rfl (by kernel_rfl) Tryz.func7 closed
  (of_decide_eq_true (by kernel_rfl)) (by unfold Func.isWrapper;first|(rw [if_pos (by decide +kernel)];kernel_rfl)|(rw [if_neg (by decide +kernel)];exact ⟨rfl,rfl⟩))
  (fun os started H enc _=>lifted os started H enc)

end Go.Proofs.YtnkjdijbfnmnhaaGreat.storeAgain
