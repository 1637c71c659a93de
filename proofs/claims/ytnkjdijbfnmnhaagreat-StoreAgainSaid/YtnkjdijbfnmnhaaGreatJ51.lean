/-
  Texts of this claim put together: St15, Co15, Al15, Pu15, Op15, Ag15, Gr15, Aw15.
-/
import Derived.Test.YtnkjdijbfnmnhaaGreatJ50
import Derived.Test.YtnkjdijbfnmnhaaGreatJ37
import Derived.Deep.DeepCutAuto
import Derived.Deep.RegionHeld
import Derived.Test.YtnkjdijbfnmnhaaGreatJ03
import Derived.Test.YtnkjdijbfnmnhaaGreatJ24

namespace Go.Proofs.YtnkjdijbfnmnhaaGreat
set_option maxRecDepth 100000
set_option maxHeartbeats 12800000
open Go.RowKit

theorem iW {w u:World} {P:Nat->Prop} {base:Nat} {e:TypeId} {size n:Nat} {v:Value} {xs:List Value} (h:w.ownsRow base e size v n xs) (hc:Chg P w u) (hP:∀k,base<=k->k<w.heap.size->¬P k):u.ownsRow base e size v n xs:=by
 refine ⟨h.1,?_⟩
 rcases h.2 with h0 | ⟨g,cap,cur,rfl,h1,hg,h2⟩
 ·exact .inl h0
 ·have hl:=(Array.getElem?_eq_some_iff.1 hg).1
  exact .inr ⟨g,cap,cur,rfl,h1,(hc.block g hl (hP g h1 hl)).trans hg,h2⟩
section
variable {w u : World} {P : Nat -> Prop} {lo : Nat}
theorem OwnVars.chg {s:IntS} (h:OwnVars w lo s) (hc:Chg P w u) (hP:∀k,lo<=k->k<w.heap.size->¬P k):OwnVars u lo s:=⟨iW h.1 hc hP,h.2⟩
theorem Fresh.chg {x:RegM} (h:Fresh w lo x) (hc:Chg P w u) (hP:∀k,lo<=k->k<w.heap.size->¬P k):Fresh u lo x :=
 ⟨h.num,h.va.chg hc hP,iW h.dn hc hP,fun d hd=>⟨(h.di d hd).1,(h.di d hd).2.chg hc hP⟩,iW h.ou hc hP,h.oi,iW h.ma hc hP,h.mi⟩
theorem CFresh.chg {x:CfM} (h:CFresh w lo x) (hc:Chg P w u) (hP:∀k,lo<=k->k<w.heap.size->¬P k):CFresh u lo x :=
 ⟨h.1,⟨iW h.2.1.1 hc hP,h.2.1.2⟩,⟨iW h.2.2.1 hc hP,h.2.2.2⟩⟩
theorem StaM.fresh.chg {s:StaM} (h:StaM.fresh w lo s) (hc:Chg P w u) (hP:∀k,lo<=k->k<w.heap.size->¬P k):StaM.fresh u lo s :=
 ⟨fun i hi=>⟨(h.sl i hi).1,(h.sl i hi).2.1.chg hc hP,(h.sl i hi).2.2⟩,h.fe,h.li,h.cf.chg hc hP⟩
end

def SApart (P:Nat->Prop) (w:World) (s:StaM):Prop:=∀u,Chg P w u->StaM.good u u.heap.size s
theorem SApart.good {P:Nat->Prop} {w:World} {s:StaM} (h:SApart P w s):StaM.good w w.heap.size s:=h w (Chg.refl P w)
theorem SApart.step {P P':Nat->Prop} {w w':World} {s:StaM} (h:SApart P w s) (hc:Chg P w w') (hs:∀q,P' q->q<w.heap.size->P q):SApart P' w' s:=fun u hu=>h u (hc.trans hu hs)
theorem SApart.zero (P:Nat->Prop) (w:World):SApart P w zeroSt:=fun _ _=>gw _ _
theorem SApart.fresh {P:Nat->Prop} {w:World} {lo:Nat} {s:StaM} (h:StaM.fresh w lo s) (hP:∀k,lo<=k->k<w.heap.size->¬P k):SApart P w s:=fun _ hu=>(h.chg hu hP).good

def stL (jb:Nat) (y:StaM):List Value := .pointer (some ⟨jb,0,none⟩)::y.L
def stC (jb:Nat) (y:StaM):Array Value:=(stL jb y).toArray
theorem z7 (jb:Nat) (y:StaM):(stC jb y).size=246:=by
 unfold stC stL
 rw [List.size_toArray,List.length_cons,y.L_len]
theorem qT (jb:Nat) (y:StaM):(stC jb y)[0]?=some (.pointer (some ⟨jb,0,none⟩)):=rfl
theorem xO (jb:Nat) (y:StaM):(stC jb y).extract 1 (1+245)=y.box:=by
 unfold stC stL StaM.box
 have:=iK [.pointer (some ⟨jb,0,none⟩)] y.L [] 1 245 rfl y.L_len
 simpa using this
theorem Ck (jb:Nat) (y x:StaM):splice (stC jb y) 1 x.L=stC jb x:=by
 unfold splice stC stL
 simp [y.L_len,x.L_len]
theorem CL:(Tryz.prog.info? 143).map (·.size)=some 246:=by kernel_rfl
theorem Ex (y:StaM):y.box.all (·.oneCell')=true:=y.one

theorem jh {w:World} {sb jb:Nat} {y:StaM} (h:BoxAt w sb (stC jb y) 143):Calls Tryz.prog 82 #[.pointer (some ⟨sb,0,none⟩)] w fun e w'=>e = .returned (.bool false)/\w=w':=by
 have c0:=(h.cell 0).trans (qT jb y)
 have hl:=h.lt
 clear h
 go_enter Tryz.func82,Tryz.ntmps82
 go_wp2
 go_ret
 exact ⟨rfl,rfl⟩
theorem qU (w:World):Calls Tryz.prog 82 #[.pointer none] w fun e w'=>e = .returned (.bool true)/\w=w':=by
 go_enter Tryz.func82,Tryz.ntmps82
 go_wp2
 go_ret
 exact ⟨rfl,rfl⟩

theorem tX {w:World} {sb jb:Nat} {y:StaM} (h:BoxAt w sb (stC jb y) 143):Calls Tryz.prog 139 #[.pointer (some ⟨sb,0,none⟩)] w fun e w'=>e = .returned y.v/\Below w.heap.size w w':=by
 have H:=aa h
 have HG:=aa (xO jb y)
 have HN:=aa y.box_size
 have HO:=aa y.one
 have HV:=aa (show y.v = .agg y.box from rfl)
 have HZB:=aa zeroSt.box_size
 obtain ⟨yb,hyb⟩:∃b,y.box=b:=⟨_,rfl⟩
 rw [hyb] at HG HN HO HV
 rw [HV.out]
 clear h hyb
 go_enter Tryz.func139,Tryz.ntmps139
 go_wp2_with (refine aq 75 (by rfl) (by rfl) bC ?_;intro W0 HX0 HB0 HZ0)
 have HX1:=aa (H.out.below HB0.out)
 refine (jh HX1.out).mono ?_
 rintro en w1 ⟨rfl,rfl⟩
 have hs:sb<W0.heap.size:=HX1.out.lt
 have hw:w.heap.size<W0.heap.size:=HX0.out.lt
 go_wp2_with (first|(refine bi 75 (by rfl) _ (by rfl) am aJ HX1.out (i:=1) (by rfl) HG.out HN.out ?_)|(refine ai 75 (by rfl) _ _ (by rfl) am (by rfl) (by rfl) (cs:=yb) (by rfl) HN.out HO.out HX0.out HZB.out ?_;intro W2 HX2 HG2 HZ2))
 refine bodyPost_ret (aD am aJ (by rfl) (by rfl) HX2.out HN.out) rfl ?_
 exact ⟨rfl,HB0.out.grown HG2.out HB0.out.size (fun k hk=>by injection hk with hk;omega)⟩

theorem xP (w:World):Calls Tryz.prog 139 #[.pointer none] w fun e w'=>e = .returned zeroSt.v/\Below w.heap.size w w':=by
 have HZB:=aa zeroSt.box_size
 have HZO:=aa zeroSt.one
 have HZV:=aa (show zeroSt.v = .agg zeroSt.box from rfl)
 have HNN:=aa (fun u=>qU u)
 rw [HZV.out]
 go_enter Tryz.func139,Tryz.ntmps139
 go_wp2_with (refine aq 75 (by rfl) (by rfl) bC ?_;intro W0 HX0 HB0 HZ0)
 refine (HNN.out _).mono ?_
 rintro en w1 ⟨rfl,rfl⟩
 have hw:w.heap.size<W0.heap.size:=HX0.out.lt
 go_wp2_with (first|(refine br 75 _ (by rfl) (by rfl) (V := .agg zeroSt.box) (by kernel_rfl) ?_)|(refine ai 75 (by rfl) _ _ (by rfl) am (by rfl) (by rfl) (cs:=zeroSt.box) (by rfl) HZB.out HZO.out HX0.out HZB.out ?_;intro W2 HX2 HG2 HZ2))
 refine bodyPost_ret (aD am aJ (by rfl) (by rfl) HX2.out HZB.out) rfl ?_
 exact ⟨rfl,HB0.out.grown HG2.out HB0.out.size (fun k hk=>by injection hk with hk;omega)⟩

def KnowsAt (v:Value) (y:StaM) (w:World):Prop:=∀u,Below w.heap.size w u->Calls Tryz.prog 139 #[v] u fun e w'=>e = .returned y.v/\Below u.heap.size u w'
theorem KnowsAt.below {v:Value} {y:StaM} {w w':World} (h:KnowsAt v y w) (hb:Below w.heap.size w w'):KnowsAt v y w':=fun u hu=>h u (hb.trans (hu.mono hb.size))
theorem KnowsAt.live {w:World} {sb jb:Nat} {y:StaM} (h:BoxAt w sb (stC jb y) 143):KnowsAt (.pointer (some ⟨sb,0,none⟩)) y w:=fun _ hu=>tX (h.below hu)
theorem KnowsAt.nil (w:World):KnowsAt (.pointer none) zeroSt w:=fun u _=>xP u

theorem iX {v:Value} {y:StaM} {w:World} (h:KnowsAt v y w):Calls Tryz.prog 68 #[v] w fun e w'=>e = .returned (.int .u64 y.fe)/\Below w.heap.size w w':=by
 have HK:=aa (h w (Below.refl _ _))
 have HV:=aa (show y.v = .agg y.box from rfl)
 have HF:=aa (fun u=>zI y u)
 obtain ⟨yb,hyb⟩:∃b,y.box=b:=⟨_,rfl⟩
 rw [hyb] at HV
 simp only [hyb] at HF
 rw [HV.out] at HK
 clear h hyb
 go_enter Tryz.func68,Tryz.ntmps68
 go_wp2_with fail
 refine HK.out.mono ?_
 rintro en w1 ⟨rfl,hb⟩
 have HB:=aa hb
 clear hb
 go_wp2_with (refine jE 75 _ 1 (by rfl) (by rfl) (by rfl) (HF.out _) ?_)
 go_ret
 exact ⟨rfl,HB.out⟩
theorem xQ {v:Value} {y:StaM} {w:World} (h:KnowsAt v y w):Calls Tryz.prog 92 #[v] w fun e w'=>e = .returned (.int .u32 y.li)/\Below w.heap.size w w':=by
 have HK:=aa (h w (Below.refl _ _))
 have HV:=aa (show y.v = .agg y.box from rfl)
 have HF:=aa (fun u=>zJ y u)
 obtain ⟨yb,hyb⟩:∃b,y.box=b:=⟨_,rfl⟩
 rw [hyb] at HV
 simp only [hyb] at HF
 rw [HV.out] at HK
 clear h hyb
 go_enter Tryz.func92,Tryz.ntmps92
 go_wp2_with fail
 refine HK.out.mono ?_
 rintro en w1 ⟨rfl,hb⟩
 have HB:=aa hb
 clear hb
 go_wp2_with (refine jE 75 _ 2 (by rfl) (by rfl) (by rfl) (HF.out _) ?_)
 go_ret
 exact ⟨rfl,HB.out⟩


theorem xR {v:Value} {y:StaM} {w:World} (h:KnowsAt v y w) (hy:StaM.good w w.heap.size y) :
  Calls Tryz.prog 93 #[v] w fun e w'=>∃c:CfM,e = .returned c.v/\c.p=y.cf.p/\CFresh w' w.heap.size c/\Below w.heap.size w w':=by
 have HK:=aa h
 have HV:=aa (show y.v = .agg y.box from rfl)
 have HF:=aa (fun u=>zK y u)
 have hcf:=hy.cf
 obtain ⟨B,hB⟩:∃B,B=w.heap.size:=⟨_,rfl⟩
 rw [<- hB] at hcf
 have HBE:=aa hB
 obtain ⟨x,hx0⟩:∃x,y.cf=x:=⟨_,rfl⟩
 simp only [hx0] at HF hcf ⊢
 obtain ⟨yb,hyb⟩:∃b,y.box=b:=⟨_,rfl⟩
 rw [hyb] at HV
 simp only [hyb] at HF
 have hx:=hcf
 have hB:B<=w.heap.size:=by omega
 clear h hyb hy hx0 hcf
 obtain ⟨C,⟨oA,oc,ol⟩,⟨nA,nc,nl⟩⟩:=x
 have HLO:=aa (fun (u:World) (hb:Below w.heap.size w u)=>(hx.2.1.2.below (hb.mono hB):Sees u B oA (bv ol)))
 have HLN:=aa (fun (u:World) (hb:Below w.heap.size w u)=>(hx.2.2.2.below (hb.mono hB):Sees u B nA (bv nl)))
 have HNUM:=aa (show C<18446744073709551616/\ol.length<=100/\nl.length<=100 from ⟨hx.1,hx.2.1.1,hx.2.2.1⟩)
 simp only [CfM.cs,NdM.v] at HF
 obtain ⟨n1,hn1⟩:∃n,ol.length=n:=⟨_,rfl⟩
 obtain ⟨n2,hn2⟩:∃n,nl.length=n:=⟨_,rfl⟩
 have HN1:=aa hn1
 have HN2:=aa hn2
 simp only [hn1,hn2] at HF
 clear hx hn1 hn2
 go_enter Tryz.func93,Tryz.ntmps93
 go_wp2_with (refine aq 52 (by rfl) (by rfl) fO ?_;intro W0 HX0 HB0 HZ0)
 refine (HK.out _ HB0.out).mono ?_
 rintro en w1 ⟨rfl,hb1⟩
 rw [HV.out]
 have HB1:=aa (HB0.out.trans (hb1.mono HB0.out.size))
 have HX1:=aa (HX0.out.below hb1)
 clear hb1 HX0 HB0 HZ0 HK
 go_upto_region 2 with (first|(refine jE 75 _ 3 (by rfl) (by rfl) (by rfl) (HF.out _) ?_)|(refine aq 52 (by rfl) (by rfl) fO ?_;intro W2 HX2 HB2 HZ2)|(refine ai 52 (by rfl) _ _ (by rfl) aW (by rfl) (by rfl) (cs := #[.int .u64 C, .slice oA n1 oc, .slice nA n2 nc]) (by rfl) (by rfl) (by simp [Value.oneCell']) HX2.out (by rfl) ?_;intro W HX HG3 HZ3))
 obtain ⟨z3,hz3⟩:∃z,w1.heap.size=z:=⟨_,rfl⟩
 have HZ:=aa (show w.heap.size<z3 from by rw [<- hz3];exact HX1.out.lt)
 have HBW:=aa (show Below w1.heap.size w1 W from HB2.out.grown HG3.out HB2.out.size (fun k hk=>by injection hk with hk;omega))
 have HW:=aa (HB1.out.trans (HBW.out.mono HB1.out.size))
 have HY:=aa (HX1.out.below HBW.out)
 have HSZ:=aa (show z3<W.heap.size from by rw [<- hz3];exact HX.out.lt)
 rw [hz3] at HX ⊢
 clear hz3 HX2 HB2 HZ2 HG3 HZ3 HBW HX1 HB1
 have HSS:=aa (fun (u:World) (h:Below W.heap.size W u)=>(show ∀i:Nat,u.cell? ⟨z3,i,none⟩=(#[.int .u64 C, .slice oA n1 oc, .slice nA n2 nc] : Array Value)[i]? from (HX.out.below h).cell))
 have HD:=aa (show Below W.heap.size W W.drew from (Below.refl _ _).drew)
 refine wp_region_held_drew (S:=fun u=>∀i:Nat,u.cell? ⟨z3,i,none⟩=(#[.int .u64 C, .slice oA n1 oc, .slice nA n2 nc] : Array Value)[i]?) (by kernel_rfl) (HSS.out _ HD.out) (fun hHeld => ?_)
 refine tkY 0 7 ?v1 rfl ?hy1 (by assumption) ?rest1
 case hy1=>intro w hSw;(try dsimp only at hSw);go_simp <;> with_reducible rfl
 simp only [Act.put,sTI,sT0,sT1]
 refine tkY 1 8 ?v2 rfl ?hy2 (by assumption) ?rest2
 case hy2=>intro w hSw;(try dsimp only at hSw);go_simp <;> with_reducible rfl
 simp only [Act.put,sTI,sT0,sT1]
 refine tkY 2 9 ?v3 rfl ?hy3 (by assumption) ?rest3
 case hy3=>intro w hSw;(try dsimp only at hSw);go_simp <;> with_reducible rfl
 simp only [Act.put,sTI,sT0,sT1]
 refine tkY 3 10 ?v4 rfl ?hy4 (by assumption) ?rest4
 case hy4=>intro w hSw;(try dsimp only at hSw);go_simp <;> with_reducible rfl
 simp only [Act.put,sTI,sT0,sT1]
 refine tkY 5 12 ?v5 rfl ?hy5 (by assumption) ?rest5
 case hy5=>intro w hSw;(try dsimp only at hSw);go_simp <;> with_reducible rfl
 simp only [Act.put,sTI,sT0,sT1]
 refine tkY 6 13 ?v6 rfl ?hy6 (by assumption) ?rest6
 case hy6=>intro w hSw;(try dsimp only at hSw);go_simp <;> with_reducible rfl
 simp only [Act.put,sTI,sT0,sT1]
 refine wpAnyH_ready (rs:=[4]) (by kernel_rfl) (by simp) ?_
 refine AllReadyH.cons rfl (fun K hK => ?_) AllReadyH.nil
 go_simp
 go_wp2_with fail
 refine (fF ol B oA n1 oc _ HN1.out (by have:=HNUM.out;have:=HN1.out;omega) (HLO.out _ (HW.out.trans (HD.out.mono HW.out.size))) (Nat.le_trans hB (HW.out.trans (HD.out.mono HW.out.size)).size)).mono ?_
 rintro en u1 ⟨A1,c1,rfl,ho1,hb1⟩
 have HU1:=aa (HD.out.trans (hb1.mono HD.out.size))
 have HO1:=aa (az ho1 HD.out.size)
 clear ho1 hb1
 refine hK.out _ _ (HSS.out _ HU1.out) (fun hHeld => ?_)
 clear hK K
 refine wpAnyH_ready (rs:=[7]) (by kernel_rfl) (by simp) ?_
 refine AllReadyH.cons rfl (fun K hK => ?_) AllReadyH.nil
 go_simp
 go_wp2_with fail
 refine (fF nl B nA n2 nc _ HN2.out (by have:=HNUM.out;have:=HN2.out;omega) (HLN.out _ (HW.out.trans (HU1.out.mono HW.out.size))) (Nat.le_trans hB (HW.out.trans (HU1.out.mono HW.out.size)).size)).mono ?_
 rintro en u2 ⟨A2,c2,rfl,ho2,hb2⟩
 have HU2:=aa (HU1.out.trans (hb2.mono HU1.out.size))
 have HO2:=aa (az ho2 HU1.out.size)
 have HO12:=aa (ao HO1.out hb2)
 clear ho2 hb2
 refine hK.out _ _ (HSS.out _ HU2.out) (fun hHeld => ?_)
 clear hK K
 refine tkY 8 15 (.agg #[.int .u64 C, .slice A1 n1 c1, .slice A2 n2 c2]) rfl ?hy7 (by assumption) ?rest7
 case hy7=>intro w hSw;first|kernel_rfl|(go_simp <;> with_reducible rfl)
 simp only [Act.put,sTI,sT0,sT1]
 refine wpAnyH_ready (rs:=[9]) (by kernel_rfl) (by simp) ?_
 refine AllReadyH.cons rfl (fun K hK => ?_) AllReadyH.nil
 have HY2:=aa (HY.out.below HU2.out)
 have HX2:=aa (HX.out.below HU2.out)
 refine cC 52 (by rfl) _ _ (by rfl) aW (by rfl) (by rfl) (cs := #[.int .u64 C, .slice A1 n1 c1, .slice A2 n2 c2]) (by rfl) (by rfl) (by simp [Value.oneCell']) HY2.out (by rfl) ?_ (by rfl)
 intro W6 HB6 HG6 HZ6
 have HX6:=aa (show BoxAt W6 z3 #[.int .u64 C, .slice oA n1 oc, .slice nA n2 nc] 52 from (HG6.out.block _ HX2.out.lt (fun e=>by injection e with e;have:=HZ.out;omega)).trans HX2.out)
 refine hK.out _ _ HX6.out.cell (fun hHeld => ?_)
 clear hK K
 refine wpAnyH_done (by kernel_rfl) ?_ _
 clear hHeld
 go_wp2
 refine bodyPost_ret (aD aW da (by rfl) (by rfl) HB6.out (by rfl)) rfl ?_
 have hs:=HSZ.out
 have hzz:=HZ.out
 have far:∀ {n c:Nat} {A:Option Addr} {xs:List Value},u2.ownsRow W.heap.size 5 1 (.slice A n c) n xs->W6.ownsRow w.heap.size 5 1 (.slice A n c) n xs:=fun ho=>az (aM ho (fun e=>kl ho (by omega) e.symm) HG6.out) (by omega)
 obtain ⟨h1,h2,h3⟩:=HNUM.out
 refine ⟨⟨C,⟨A1,c1,ol⟩,⟨A2,c2,nl⟩⟩,by simp only [CfM.v,cfV,NdM.v,HN1.out,HN2.out],rfl,⟨h1,⟨?_,h2⟩,⟨?_,h3⟩⟩,?_⟩
 ·simp only [HN1.out]
  exact far HO12.out
 ·simp only [HN2.out]
  exact far HO2.out
 ·have hb:=HW.out.trans (HU2.out.mono HW.out.size)
  exact hb.grown HG6.out hb.size (fun k hk=>by injection hk with hk;omega)

theorem kJ:(Tryz.prog.info? 72).map (fun i=>(i.zero,i.size))=some (some (.agg zeroSl.box),15):=by kernel_rfl
theorem kL:∃d,Tryz.prog.underlying 72=some d/\d.isRow=true:=⟨_,Tryz.underlying72,rfl⟩
theorem SlotM.one' (x:SlotM):x.box.all (·.oneCell')=true:=by simp [SlotM.box,Value.oneCell']
theorem SlotM.ex_r (x:SlotM):x.box.extract 7 (7+8)=x.r.cs.toArray:=rfl
theorem SlotM.set_r (x:SlotM) (r:RegM):splice x.box 7 r.cs.toArray.toList=({ x with r:=r }:SlotM).box:=rfl
def lL (y:StaM) (k:Nat):SlotM:=if k<16 then y.f k else zeroSl

def D5 (x0:SlotM) (w:World) (e:Ending) (w':World):Prop:=∃x:SlotM,e = .returned x.v/\x.p=x0.p/\(x.num/\Fresh w' w.heap.size x.r/\x.r.few)/\Below w.heap.size w w'

theorem xS {v:Value} {y:StaM} {w:World} (h:KnowsAt v y w) (hy:StaM.good w w.heap.size y) (key:Nat) (hk:key<=255) :
  Calls Tryz.prog 91 #[v, .int .u8 key] w (D5 (lL y key) w):=by
 obtain ⟨R,hR⟩:∃R,D5 (lL y key) w=R:=⟨_,rfl⟩
 rw [hR]
 have HFD:=aa (fun (e:Ending) (w':World) (x:SlotM) (h1:e = .returned x.v) (h2:x.p=(lL y key).p) (h3:x.num/\Fresh w' w.heap.size x.r/\x.r.few) (h4:Below w.heap.size w w')=>show R e w' from by rw [<- hR];exact ⟨x,h1,h2,h3,h4⟩)
 clear hR
 have HK:=aa h
 by_cases hlt:key<16
 case neg =>
  have HZN:=aa (show zeroSl.box.size=15 from rfl)
  have HZO:=aa zeroSl.one'
  have HSO:=aa (show lL y key=zeroSl from if_neg hlt)
  have hge:(16:Int)<=key:=by omega
  go_enter Tryz.func91,Tryz.ntmps91
  go_wp2_with (first|(refine aq 72 (by rfl) (by rfl) kJ ?_;intro W0 HX0 HB0 HZ0)|(refine br 72 _ (by rfl) (by rfl) (V := .agg zeroSl.box) (by kernel_rfl) ?_)|(refine ai 72 (by rfl) _ _ (by rfl) bN (by rfl) (by rfl) (cs:=zeroSl.box) (by rfl) HZN.out HZO.out HX0.out HZN.out ?_;intro W2 HX2 HG2 HZ2))
  refine bodyPost_ret (aD bN kL (by rfl) (by rfl) HX2.out HZN.out) rfl ?_
  exact HFD.out _ _ zeroSl rfl (by rw [HSO.out]) ⟨by simp [SlotM.num,zeroSl,BalIn,N64],iO _ _,by simp [RegM.few,zeroSl,zeroM]⟩ (HB0.out.grown HG2.out HB0.out.size (fun k hk=>by injection hk with hk;omega))
 have HSO:=aa (show lL y key=y.f key from if_pos hlt)
 have hg:=(hy.sl key hlt).1
 have hfw:=(hy.sl key hlt).2
 have HNUM:=aa hg.1
 have HFEW:=aa hfw
 have HCL:=aa (fun (u:World) (hb:Below w.heap.size w u)=>iG (y.f key).r w.heap.size u (reg_stable.below hg.2 hb) hb.size hfw.1.1 hfw.1.2.1 hfw.1.2.2.1 hfw.1.2.2.2 hfw.2)
 have HV:=aa (show y.v = .agg y.box from rfl)
 have HF:=aa (fun u=>zL y u)
 have HIX:=aa (fun u=>zM y hlt u)
 obtain ⟨yb,hyb⟩:∃b,y.box=b:=⟨_,rfl⟩
 rw [hyb] at HV
 simp only [hyb] at HF
 obtain ⟨sb,hsb⟩:∃b,y.sb=b:=⟨_,rfl⟩
 simp only [hsb] at HF HIX
 obtain ⟨s0,hs0⟩:∃s,y.f key=s:=⟨_,rfl⟩
 simp only [hs0] at HIX HCL HNUM HFEW
 rw [hs0] at HSO
 have HSZ:=aa (show s0.box.size=15 from rfl)
 have HON:=aa s0.one'
 have HER:=aa s0.ex_r
 have HRN:=aa (show s0.r.cs.toArray.size=8 from rfl)
 have HRV:=aa (show s0.r.v = .agg s0.r.cs.toArray from rfl)
 obtain ⟨rc,hrc⟩:∃c,s0.r.cs.toArray=c:=⟨_,rfl⟩
 rw [hrc] at HER HRN HRV
 simp only [HRV.out] at HCL
 clear h hg hfw hyb hsb hs0 hrc hy
 go_enter Tryz.func91,Tryz.ntmps91
 go_wp2_with (refine aq 72 (by rfl) (by rfl) kJ ?_;intro W0 HX0 HB0 HZ0)
 refine (HK.out _ HB0.out).mono ?_
 rintro en w1 ⟨rfl,hb1⟩
 rw [HV.out]
 have HB1:=aa (HB0.out.trans (hb1.mono HB0.out.size))
 have HX1:=aa (HX0.out.below hb1)
 clear hb1 HX0 HB0 HZ0 HK
 go_upto_region 4 with (first|(refine jE 75 _ 0 (by rfl) (by rfl) (by rfl) (HF.out _) ?_)|(refine rY 73 _ _ (by rfl) (by rfl) (by rfl) (by rfl) (HIX.out _) ?_)|(refine aq 72 (by rfl) (by rfl) kJ ?_;intro W2 HX2 HB2 HZ2)|(refine ai 72 (by rfl) _ _ (by rfl) bN (by rfl) (by rfl) (cs:=s0.box) (by rfl) HSZ.out HON.out HX2.out (by rfl) ?_;intro W3 HX3 HG3 HZ3))
 obtain ⟨z,hz⟩:∃z,w1.heap.size=z:=⟨_,rfl⟩
 have HZ:=aa (show w.heap.size<z from by rw [<- hz];exact HX1.out.lt)
 have HBW:=aa (show Below w1.heap.size w1 W3 from HB2.out.grown HG3.out HB2.out.size (fun k hk=>by injection hk with hk;omega))
 have HB3:=aa (HB1.out.trans (HBW.out.mono HB1.out.size))
 have HY3:=aa (HX1.out.below HBW.out)
 rw [hz] at HX3 ⊢
 clear hz HX2 HB2 HZ2 HG3 HZ3 HBW HX1 HB1
 have hzl:z<W3.heap.size:=HX3.out.lt
 go_wp2_with (refine bi 31 (by rfl) _ (by rfl) gX rO HX3.out (i:=7) (by rfl) HER.out HRN.out ?_)
 refine (HCL.out _ HB3.out).mono ?_
 rintro en w4 ⟨r,rfl,hrp,hfr,hb4⟩
 have HB4:=aa (HB3.out.trans (hb4.mono HB3.out.size))
 have HX4:=aa (HX3.out.below hb4)
 have HY4:=aa (HY3.out.below hb4)
 have HFR:=aa (show Fresh w4 (z+1) r from Aside14.less hfr (by omega))
 have HRP:=aa hrp
 have HFW:=aa (Aq hrp HFEW.out)
 clear hb4 hfr hrp HX3 HY3 HB3 hzl
 have hzl:z<w4.heap.size:=HX4.out.lt
 have HRV2:=aa (show r.v = .agg r.cs.toArray from rfl)
 have HRN2:=aa (show r.cs.toArray.size=8 from rfl)
 have HRO2:=aa (show r.cs.toArray.all (·.oneCell')=true from by simp [RegM.cs,Sl.v,Value.oneCell'])
 have HST:=aa (s0.set_r r)
 obtain ⟨rc2,hrc2⟩:∃c,r.cs.toArray=c:=⟨_,rfl⟩
 rw [hrc2] at HRV2 HRN2 HRO2 HST
 rw [HRV2.out]
 clear hrc2
 go_upto_region 5 with (refine bu 31 (by rfl) _ _ (by rfl) gX (i:=7) (by rfl) (by rfl) (cells:=rc2) (by rfl) HRN2.out HRO2.out HX4.out (by rw [HSZ.out];omega) ?_;intro W5 HX5 HG5 HZ5)
 have HX6:=aa HX5.out
 rw [HST.out] at HX6
 have HY6:=aa (show BoxAt W5 w.heap.size zeroSl.box 72 from aB HG5.out HY4.out (by have:=HZ.out;omega))
 have HF6:=aa (HFR.out.other14 HG5.out (by omega))
 have HB6:=aa (HB4.out.grown HG5.out HB4.out.size (fun k hk=>by injection hk with hk;have:=HZ.out;omega))
 obtain ⟨x,hx⟩:∃x:SlotM,{ s0 with r:=r }=x:=⟨_,rfl⟩
 have HXP:=aa (show x.p=s0.p from by rw [<- hx];unfold SlotM.p;simp only [HRP.out])
 have HXF:=aa (show x.num/\Fresh W5 (z+1) x.r/\x.r.few from by rw [<- hx];exact ⟨HNUM.out,HF6.out,HFW.out⟩)
 rw [hx] at HX6
 have HXV:=aa (show x.v = .agg x.box from rfl)
 have HXS:=aa (show x.box.size=15 from rfl)
 have HXO:=aa x.one'
 obtain ⟨xb,hxb⟩:∃b,x.box=b:=⟨_,rfl⟩
 rw [hxb] at HX6 HXV HXS HXO
 clear hx hxb HX5 HG5 HZ5 HX4 HY4 HB4 HFR hzl HF6
 have hzl:z<W5.heap.size:=HX6.out.lt
 have hzw:w.heap.size<W5.heap.size:=HY6.out.lt
 go_wp2_with (first|(refine ak 72 (by rfl) _ (by rfl) bN kL HX6.out (by rfl) HXS.out ?_)|(refine ai 72 (by rfl) _ _ (by rfl) bN (by rfl) (by rfl) (cs:=xb) (by rfl) HXS.out HXO.out HY6.out (by rfl) ?_;intro W7 HX7 HG7 HZ7))
 refine bodyPost_ret (aD bN kL (by rfl) (by rfl) HX7.out HXS.out) rfl ?_
 have hz:=HZ.out
 exact HFD.out _ _ x (by rw [HXV.out]) (by rw [HSO.out];exact HXP.out) ⟨HXF.out.1,Aside14.less (HXF.out.2.1.other14 HG7.out (by omega)) (by omega),HXF.out.2.2⟩ (HB6.out.grown HG7.out HB6.out.size (fun k hk=>by injection hk with hk;omega))

theorem xT (fe li:Nat) (c:CfM) (u:World):(Instr.build 75 #[(1, .int .u64 fe),(2, .int .u32 li),(3, .agg c.cs.toArray)]).run Tryz.prog u = .ok (.agg ({ zeroSt with fe:=fe,li:=li,cf:=c }:StaM).box) u:=by
 obtain ⟨C,⟨xA,xc,xl⟩,⟨yA,yc,yl⟩⟩:=c
 kernel_rfl

structure StaEq (a b:StaP):Prop where
 sl:∀i,i<16->a.f i=b.f i
 fe:a.fe=b.fe
 li:a.li=b.li
 cf:a.cf=b.cf
theorem StaEq.refl (a:StaP):StaEq a a:=⟨fun _ _=>rfl,rfl,rfl,rfl⟩
theorem StaEq.symm {a b:StaP} (h:StaEq a b):StaEq b a:=⟨fun i hi=>(h.sl i hi).symm,h.fe.symm,h.li.symm,h.cf.symm⟩
theorem StaEq.trans {a b c:StaP} (h:StaEq a b) (k:StaEq b c):StaEq a c:=⟨fun i hi=>(h.sl i hi).trans (k.sl i hi),h.fe.trans k.fe,h.li.trans k.li,h.cf.trans k.cf⟩
theorem StaEq.same {a b:StaP} (h:StaEq a b):gU a b=true:=by
 unfold gU
 rw [iM (fun i hi=>decide_eq_true (h.sl i (by omega))),h.fe,h.li,h.cf]
 simp

theorem tY {v:Value} {y:StaM} {w:World} (h:KnowsAt v y w) (hy:StaM.good w w.heap.size y) :
  Calls Tryz.prog 37 #[v] w fun e w'=>∃x:StaM,e = .returned x.v/\StaEq x.p y.p/\StaM.fresh w' w.heap.size x/\Below w.heap.size w w':=by
 obtain ⟨R,hR⟩:∃R:Ending->World->Prop,(fun e w'=>∃x:StaM,e = .returned x.v/\StaEq x.p y.p/\StaM.fresh w' w.heap.size x/\Below w.heap.size w w')=R:=⟨_,rfl⟩
 rw [hR]
 have HFD:=aa (fun (e:Ending) (w':World) (x:StaM) (h1:e = .returned x.v) (h2:StaEq x.p y.p) (h3:StaM.fresh w' w.heap.size x) (h4:Below w.heap.size w w')=>show R e w' from by rw [<- hR];exact ⟨x,h1,h2,h3,h4⟩)
 clear hR
 have HK:=aa h
 have HY:=aa (fun (u:World) (hb:Below w.heap.size w u)=>(hy.below hb).more hb.size)
 have HYN:=aa (show N64 y.fe/\N32 y.li from ⟨hy.fe,hy.li⟩)
 have HZB:=aa zeroSt.box_size
 clear h hy
 go_enter Tryz.func37,Tryz.ntmps37
 go_wp2_with (refine aq 75 (by rfl) (by rfl) bC ?_;intro W0 HX0 HB0 HZ0)
 refine (iX (HK.out.below HB0.out)).mono ?_
 rintro en w1 ⟨rfl,hb1⟩
 have HB1:=aa (HB0.out.trans (hb1.mono HB0.out.size))
 have HX1:=aa (HX0.out.below hb1)
 clear hb1 HX0 HB0
 go_wp2_with fail
 refine (xQ (HK.out.below HB1.out)).mono ?_
 rintro en w2 ⟨rfl,hb2⟩
 have HB2:=aa (HB1.out.trans (hb2.mono HB1.out.size))
 have HX2:=aa (HX1.out.below hb2)
 clear hb2 HX1 HB1
 go_wp2_with fail
 refine (xR (HK.out.below HB2.out) (HY.out _ HB2.out)).mono ?_
 rintro en w3 ⟨c,rfl,hcp,hcf,hb3⟩
 have HB3:=aa (HB2.out.trans (hb3.mono HB2.out.size))
 have HX3:=aa (HX2.out.below hb3)
 have HCP:=aa hcp
 have HCF:=aa (hcf.less HB2.out.size)
 have HCV:=aa (show c.v = .agg c.cs.toArray from rfl)
 have HBF:=aa (fun u=>xT y.fe y.li c u)
 obtain ⟨s0,hs0⟩:∃s:StaM,{ zeroSt with fe:=y.fe,li:=y.li,cf:=c }=s:=⟨_,rfl⟩
 have HS0:=aa (show s0.fe=y.fe/\s0.li=y.li/\s0.cf=c/\∀j,s0.f j=zeroSl from by rw [<- hs0];exact ⟨rfl,rfl,rfl,fun _=>rfl⟩)
 simp only [hs0] at HBF
 obtain ⟨cc,hcc⟩:∃x,c.cs.toArray=x:=⟨_,rfl⟩
 rw [hcc] at HCV
 simp only [hcc] at HBF
 rw [HCV.out]
 obtain ⟨fe,hfe⟩:∃x,y.fe=x:=⟨_,rfl⟩
 obtain ⟨li,hli⟩:∃x,y.li=x:=⟨_,rfl⟩
 simp only [hfe,hli] at HBF
 rw [hfe,hli]
 have HSN:=aa s0.box_size
 have HSO:=aa s0.one
 clear hb3 hcp hcf hs0 hcc HX2 HB2 hfe hli
 go_upto_region 2 with (first|(refine fN 75 _ (by rfl) (by rfl) #[(1, .int .u64 fe),(2, .int .u32 li),(3, .agg cc)] (by kernel_rfl) (HBF.out _) ?_)|(refine aq 75 (by rfl) (by rfl) bC ?_;intro W4 HX4 HB4 HZ4)|(refine ai 75 (by rfl) _ _ (by rfl) am (by rfl) (by rfl) (cs:=s0.box) (by rfl) HSN.out HSO.out HX4.out HZB.out ?_;intro W5 HX5 HG5 HZ5))
 obtain ⟨z,hz⟩:∃z,w3.heap.size=z:=⟨_,rfl⟩
 have HZ:=aa (show w.heap.size<z from by rw [<- hz];exact HX3.out.lt)
 have HBW:=aa (show Below w3.heap.size w3 W5 from HB4.out.grown HG5.out HB4.out.size (fun k hk=>by injection hk with hk;omega))
 have HB5:=aa (HB3.out.trans (HBW.out.mono HB3.out.size))
 have HY5:=aa (HX3.out.below HBW.out)
 have HC5:=aa (HCF.out.below HBW.out)
 rw [hz] at HX5 ⊢
 clear hz HX4 HB4 HZ4 HG5 HZ5 HBW HX3 HB3 HCF
 go_wp2
 go_loopw [4,12] (fun _ i wr=>∃(k:Nat) (s:StaM),k<=16/\i = .int .i64 k/\Hid ((∀j,j<k->(s.f j).p=(y.f j).p/\(s.f j).num/\Fresh wr (z+1) (s.f j).r/\(s.f j).r.few)/\s.fe=y.fe/\s.li=y.li/\s.cf=c)/\Hid (CFresh wr w.heap.size c)/\Hid (BoxAt wr z s.box 75)/\Hid (BoxAt wr w.heap.size zeroSt.box 75)/\Hid (Below w.heap.size w wr)) (fun _ i _=>16 - (intOf i).toNat)
 case atStart=>exact ⟨0,s0,by omega,rfl,aa ⟨fun j hj=>absurd hj (by omega),HS0.out.1,HS0.out.2.1,HS0.out.2.2.1⟩,HC5,HX5,HY5,HB5⟩
 case round =>
  obtain ⟨k,s,hk,rfl,HI,HC,HX,HYY,HB⟩:=hrel
  by_cases hlt:k<16
  ·have hzl:z<wr.heap.size:=HX.out.lt
   have HSL:=aa (xS (HK.out.below HB.out) (HY.out _ HB.out) k (by omega))
   rw [show lL y k=y.f k from if_pos hlt] at HSL
   have HCV2:=aa (fun (u:World)=>rT hlt u)
   have hk15:(k:Int) * 15=((k * 15:Nat):Int):=by omega
   have HYS:=aa s.box_size
   go_upto_region 5 with fail
   go_wp2_with (refine rX 3 5 _ (by rfl) (by rfl) (by rfl) (HCV2.out _) ?_)
   refine HSL.out.mono ?_
   rintro en w6 ⟨x,rfl,hxp,hxf,hb6⟩
   have HXP:=aa hxp
   have HXF:=aa (show x.num/\Fresh w6 (z+1) x.r/\x.r.few from ⟨hxf.1,Aside14.less hxf.2.1 (by omega),hxf.2.2⟩)
   have HX6:=aa (HX.out.below hb6)
   have HY6:=aa (HYY.out.below hb6)
   have HB6:=aa (HB.out.trans (hb6.mono HB.out.size))
   have HC6:=aa (HC.out.below hb6)
   have HI6:=aa (show (∀j,j<k->(s.f j).p=(y.f j).p/\(s.f j).num/\Fresh w6 (z+1) (s.f j).r/\(s.f j).r.few)/\s.fe=y.fe/\s.li=y.li/\s.cf=c from ⟨fun j hj=>⟨(HI.out.1 j hj).1,(HI.out.1 j hj).2.1,(HI.out.1 j hj).2.2.1.below hb6,(HI.out.1 j hj).2.2.2⟩,HI.out.2⟩)
   have HXV:=aa (show x.v = .agg x.box from rfl)
   have HXS:=aa (show x.box.size=15 from rfl)
   have HXO:=aa x.one'
   have HST:=aa (show splice s.box (k * 15) x.box.toList=(s.setF k x).box from s.slot_set hlt x)
   obtain ⟨xb,hxb⟩:∃b,x.box=b:=⟨_,rfl⟩
   rw [hxb] at HXV HXS HXO HST
   rw [HXV.out]
   clear hb6 hxp hxf hzl hxb HX HYY HB HC HI HSL HCV2
   have hzl:z<w6.heap.size:=HX6.out.lt
   go_wp2_with (refine bu 72 (by rfl) _ _ (by rfl) bN (by rfl) (by rfl) (cells:=xb) (by rfl) HXS.out HXO.out HX6.out (by rw [HYS.out];omega) ?_;intro W7 HX7 HG7 HZ7)
   go_roundw
   case rel =>
    have hx7:=HX7.out
    rw [HST.out] at hx7
    have hzz:=HZ.out
    refine ⟨k+1,s.setF k x,by omega,by go_num,aa ⟨fun j hj => ?_,HI6.out.2⟩,aa (HC6.out.box HX6.out (by decide) HG7.out),aa hx7,aa (show BoxAt W7 w.heap.size zeroSt.box 75 from aB HG7.out HY6.out (by omega)),aa (HB6.out.grown HG7.out HB6.out.size (fun q hq=>by injection hq with hq;omega))⟩
    by_cases e:j=k
    ·subst e
     rw [show (s.setF j x).f j=x from if_pos rfl]
     exact ⟨HXP.out,HXF.out.1,HXF.out.2.1.other14 HG7.out (by omega),HXF.out.2.2⟩
    ·rw [show (s.setF k x).f j=s.f j from if_neg e]
     have g:=HI6.out.1 j (by omega)
     exact ⟨g.1,g.2.1,g.2.2.1.other14 HG7.out (by omega),g.2.2.2⟩
   case measure=>simp [intOf];omega
  ·obtain rfl:k=16:=by omega
   have hzl:z<wr.heap.size:=HX.out.lt
   have hzw:w.heap.size<wr.heap.size:=HYY.out.lt
   have HSS:=aa s.box_size
   have HSO2:=aa s.one
   have HSV:=aa (show s.v = .agg s.box from rfl)
   have HXX:=aa HX.out
   obtain ⟨xb,hxb⟩:∃b,s.box=b:=⟨_,rfl⟩
   rw [hxb] at HXX HSS HSO2 HSV
   clear hxb
   go_wp2_with (first|(refine ak 75 (by rfl) _ (by rfl) am aJ HXX.out (by rfl) HSS.out ?_)|(refine ai 75 (by rfl) _ _ (by rfl) am (by rfl) (by rfl) (cs:=xb) (by rfl) HSS.out HSO2.out HYY.out HZB.out ?_;intro W7 HX7 HG7 HZ7))
   refine bodyPost_ret (aD am aJ (by rfl) (by rfl) HX7.out HSS.out) rfl ?_
   have hzz:=HZ.out
   refine HFD.out _ _ s (by rw [HSV.out]) ⟨fun i hi=>(HI.out.1 i hi).1,HI.out.2.1,HI.out.2.2.1,?_⟩ ⟨fun i hi => ?_,?_,?_,?_⟩ (HB.out.grown HG7.out HB.out.size (fun k hk=>by injection hk with hk;omega))
   ·show s.cf.p=y.cf.p
    rw [HI.out.2.2.2]
    exact HCP.out
   ·have g:=HI.out.1 i hi
    exact ⟨g.2.1,Aside14.less (g.2.2.1.other14 HG7.out (by omega)) (by omega),g.2.2.2⟩
   ·rw [HI.out.2.1]
    exact HYN.out.1
   ·rw [HI.out.2.2.1]
    exact HYN.out.2
   ·rw [HI.out.2.2.2]
    exact HC.out.box HYY.out (by decide) HG7.out

theorem lM {w:World} {B:Nat} {y:StaM} (hy:StaM.good w B y) {k:Nat} (hk:k<=16):∀m∈upR y k,RecM.tame w B m:=by
 intro m hm
 have z1:=bA w B
 have z2:=gO w B
 have zf:=few_zero
 have n0:N64 0:=by simp [N64]
 have m0:N32 0:=by simp [N32]
 unfold upR hE flL at hm
 simp only [List.mem_append] at hm
 rcases hm with ((h|h)|h)|h
 ·unfold feL at h
  split at h
  ·cases h
  ·rw [List.mem_singleton.1 h]
   exact ⟨⟨⟨⟨show 3<=255 by decide,Nat.zero_le _⟩,⟨n0,Nat.zero_le _,Nat.zero_le _⟩,⟨n0,Nat.zero_le _,Nat.zero_le _⟩,hy.fe,m0⟩,z1,z2⟩,zf⟩
 ·unfold liL at h
  split at h
  ·cases h
  ·rw [List.mem_singleton.1 h]
   exact ⟨⟨⟨⟨show 4<=255 by decide,Nat.zero_le _⟩,⟨n0,Nat.zero_le _,Nat.zero_le _⟩,⟨n0,Nat.zero_le _,Nat.zero_le _⟩,n0,hy.li⟩,z1,z2⟩,zf⟩
 ·unfold cfL at h
  split at h
  ·rw [List.mem_singleton.1 h]
   exact ⟨⟨⟨⟨show 5<=255 by decide,Nat.zero_le _⟩,⟨n0,Nat.zero_le _,Nat.zero_le _⟩,⟨n0,Nat.zero_le _,Nat.zero_le _⟩,n0,m0⟩,z1,hy.cf⟩,zf⟩
  ·cases h
 ·unfold slL at h
  obtain ⟨i,hi,hm⟩:=List.mem_flatMap.1 h
  rw [List.mem_range] at hi
  have g:=hy.sl i (by omega)
  split at hm
  ·rw [List.mem_singleton.1 hm]
   exact ⟨⟨⟨⟨by show 1<=255;decide,by show i<=255;omega⟩,g.1.1.1,g.1.1.2,n0,m0⟩,g.1.2,z2⟩,g.2⟩
  ·cases hm

def allB (s:StaP):List (List UInt8):=(upP s 16).map recB

def AllB (s:StaP) (w:World) (e:Ending) (w':World):Prop :=
 ∃A c vs,e = .returned (.slice A (allB s).length c)/\w'.ownsRow w.heap.size 50 1 (.slice A (allB s).length c) (allB s).length vs/\RowsOf w' (allB s) vs/\Below w.heap.size w w'

theorem RowsOf.beside {W W':World} {rs:List (List UInt8)} {vs xs:List Value} {v:Value} {b n:Nat} (h:RowsOf W rs vs) (ho:W.ownsRow b 50 1 v n xs) (hg:W.grownBy W' v.ownBlock):RowsOf W' rs vs:=⟨h.1,fun i r e=>by
 obtain ⟨A,c,h1,h2⟩:=h.2 i r e
 exact ⟨A,c,h1,jL h2 ho (by decide) hg⟩⟩
theorem RowsOf.more {W:World} {rs:List (List UInt8)} {vs:List Value} {r:List UInt8} {A:Option Addr} {c:Nat} (h:RowsOf W rs vs) (ho:W.ownsRow 0 5 1 (.slice A r.length c) r.length (bv r)):RowsOf W (rs++[r]) (vs++[.slice A r.length c]):=by
 refine ⟨by simp [h.1],fun i r2 e => ?_⟩
 by_cases hi:i<rs.length
 ·rw [List.getElem?_append_left hi] at e
  obtain ⟨A2,c2,h1,h2⟩:=h.2 i r2 e
  exact ⟨A2,c2,by rw [List.getElem?_append_left (by rw [h.1];exact hi)];exact h1,h2⟩
 ·have hl:=(List.getElem?_eq_some_iff.1 e).1
  rw [List.length_append,List.length_singleton] at hl
  obtain rfl:i=rs.length:=by omega
  rw [List.getElem?_append_right (Nat.le_refl _),Nat.sub_self] at e
  have e2:r=r2:=by simpa using e
  subst e2
  exact ⟨A,c,by rw [List.getElem?_append_right (by rw [h.1];exact Nat.le_refl _),h.1,Nat.sub_self];rfl,ho⟩

theorem pi (s:StaM) (B:Nat) (w:World) (hs:StaM.good w B s) (hB:B<=w.heap.size) (hi:Inv14 s.p) :
  Calls Tryz.prog 86 #[s.v] w (AllB s.p w):=by
 obtain ⟨R,hR⟩:∃R,AllB s.p w=R:=⟨_,rfl⟩
 rw [hR]
 have HFD:=aa (fun (e:Ending) (w':World) (A:Option Addr) (c:Nat) (vs:List Value) (n:Nat) (hn:(allB s.p).length=n) (h1:e = .returned (.slice A n c)) (h2:w'.ownsRow w.heap.size 50 1 (.slice A n c) n vs) (h3:RowsOf w' (allB s.p) vs) (h4:Below w.heap.size w w')=>show R e w' from by subst hn;rw [<- hR];exact ⟨A,c,vs,h1,h2,h3,h4⟩)
 have HAL:=aa (fun (u:World) (h:Below w.heap.size w u)=>B4 s w.heap.size u ((hs.more hB).below h) h.size)
 have HI:=aa hi
 have HV:=aa (show s.v = .agg s.box from rfl)
 have HN:=aa s.box_size
 obtain ⟨V,hV⟩:∃V,s.v=V:=⟨_,rfl⟩
 rw [hV] at HV ⊢
 simp only [hV] at HAL
 obtain ⟨sb,hsb⟩:∃b,s.box=b:=⟨_,rfl⟩
 rw [hsb] at HV HN
 clear hR hs hi hV hsb
 go_enter Tryz.func86,Tryz.ntmps86
 go_wp2_with (first|(refine aw 75 (by rfl) _ (by rfl) (by rfl) HV.out ?_;intro W0 HX0 HB0 HZ0)|(refine ak 75 (by rfl) _ (by rfl) am aJ HX0.out (by rfl) HN.out ?_;rw [<- HV.out]))
 refine (HAL.out _ HB0.out).mono ?_
 rintro en w1 ⟨y,A,c,rfl,hyp,hyg,hsee,hb1⟩
 have HB1:=aa (HB0.out.trans (hb1.mono HB0.out.size))
 have HS1:=aa hsee
 have HTM:=aa (fun m hm=>lM hyg (Nat.le_refl 16) m hm)
 have HUP:=aa (show (allR y).map RecM.p=upP s.p 16 from by rw [<- hyp];exact wZ y 16)
 have HMY:=aa (show ∀m∈allR y,mayR m.p=true from fun m hm=>by
  have:=xd HI.out (Nat.le_refl 16) m.p (by rw [<- HUP.out];exact List.mem_map_of_mem hm)
  exact this)
 have HRS:=aa (show (allR y).map (fun m=>recB m.p)=allB s.p from by unfold allB;rw [<- HUP.out,List.map_map];rfl)
 have HTA:=aa (show ∀m∈allR y,RecM.tame w1 w1.heap.size m from HTM.out)
 have HLE:=aa (show (allR y).length<=19 from by have:=wX y 16;unfold allR;omega)
 obtain ⟨L,hL⟩:∃l,allR y=l:=⟨_,rfl⟩
 rw [hL] at HS1 HMY HRS HTA HLE ⊢
 clear hL HTM HUP HI hyp hyg hsee hb1 HX0 HB0 HZ0 HAL
 obtain ⟨n,hn⟩:∃n,L.length=n:=⟨_,rfl⟩
 have HLN:=aa hn
 rw [hn] at HLE ⊢
 have hn19:n<=19:=HLE.out
 clear hn
 obtain ⟨b0,hb0⟩:∃b,w1.heap.size=b:=⟨_,rfl⟩
 have HBE:=aa hb0
 clear hb0
 go_wp2
 go_loopw [3,11] (fun q i wr=>∃(k:Nat) (vs:List Value),k<=n/\i = .int .i64 k/\Hid (wr.ownsRow b0 50 1 q k vs)/\Hid (RowsOf wr ((L.take k).map (fun m=>recB m.p)) vs)/\Hid (Below w1.heap.size w1 wr)) (fun _ i _=>n - (intOf i).toNat)
 case atStart=>exact ⟨0,[],by omega,rfl,aa (World.ownsRow_nil _ _ _ _),aa ⟨rfl,fun i r e=>by simp at e⟩,aa (Below.refl _ _)⟩
 case round =>
  obtain ⟨k,vs,hk,rfl,HO,HR,HB⟩:=hrel
  obtain ⟨A2,c2,rfl⟩:=bg HO.out
  have hbs:=HB.out.size
  by_cases hlt:k<n
  ·obtain ⟨x,hx⟩:∃x,L[k]?=some x:=⟨_,List.getElem?_eq_getElem (by rw [HLN.out];exact hlt)⟩
   obtain ⟨b,off,rfl,hb,hrg⟩:=HS1.out.rec14 hx
   have HRG:=aa (fun (u:World) (h:Below w1.heap.size w1 u)=>hrg u (fun q hq=>h.cell hq))
   have HTX:=aa (HTA.out x (List.mem_of_getElem? hx))
   have HPT:=aa (fun (u:World) (h:Below w1.heap.size w1 u)=>show Calls Tryz.prog 18 #[x.v] u (yR (recB x.p,0) u) from by have g:=lC x w1.heap.size u (HTX.out.g.below h) h.size;rw [kq (HMY.out x (List.mem_of_getElem? hx))] at g;exact g)
   have HTK:=aa (show (L.take (k+1)).map (fun m=>recB m.p)=(L.take k).map (fun m=>recB m.p)++[recB x.p] from by
    obtain ⟨h1,h2⟩:=List.getElem?_eq_some_iff.1 hx
    rw [List.take_succ_eq_append_getElem h1,List.map_append,h2]
    rfl)
   have HXV:=aa (show x.v = .agg x.box from rfl)
   have HXC:=aa (show Value.agg x.cs.toArray = .agg x.box from by unfold RecM.cs;simp)
   have HXS:=aa x.size'
   have HXO:=aa x.one'
   have HXL:=aa x.cs_len
   obtain ⟨rb,hrb⟩:∃r,recB x.p=r:=⟨_,rfl⟩
   simp only [hrb] at HPT HTK
   obtain ⟨V2,hV2⟩:∃V,x.v=V:=⟨_,rfl⟩
   rw [hV2] at HXV
   simp only [hV2] at HPT
   have hbl:b<wr.heap.size:=by omega
   clear hx hrb hV2 hrg
   go_upto_region 5 with (first|(refine lv 54 (by rfl) _ (by rfl) au aH (HRG.out _ HB.out) HXL.out (HXV.out.trans HXC.out.symm) (by rfl) ?_)|(refine aq 54 (by rfl) (by rfl) fP ?_;intro W4 HX4 HB4 HZ4)|(refine ai 54 (by rfl) _ _ (by rfl) au (by rfl) (by rfl) (cs:=x.box) HXV.out HXS.out HXO.out HX4.out (by rfl) ?_;intro W5 HX5 HG5 HZ5))
   have HBW:=aa (show Below wr.heap.size wr W5 from HB4.out.grown HG5.out HB4.out.size (fun k hk=>by injection hk with hk;omega))
   have HB5:=aa (HB.out.trans (HBW.out.mono hbs))
   have HO5:=aa (ao HO.out HBW.out)
   have HR5:=aa (HR.out.below HBW.out)
   have hzx:wr.heap.size<W5.heap.size:=HX5.out.lt
   clear HX4 HB4 HZ4 HG5 HZ5 HBW HO HR HB
   go_wp2_with (refine ak 54 (by rfl) _ (by rfl) au aH HX5.out (by rfl) HXS.out ?_;rw [<- HXV.out])
   refine (HPT.out _ HB5.out).mono ?_
   rintro en w6 ⟨A6,c6,rfl,ho6,hb6⟩
   have HP6:=aa (az (base':=0) ho6 (Nat.zero_le _))
   have HB6:=aa (HB5.out.trans (hb6.mono HB5.out.size))
   have HO6:=aa (ao HO5.out hb6)
   have HR6:=aa (HR5.out.below hb6)
   clear ho6 hb6 hzx HX5 HB5 HO5 HR5
   simp only at HP6
   obtain ⟨m6,hm6⟩:∃m,rb.length=m:=⟨_,rfl⟩
   have HM6:=aa hm6
   rw [hm6] at HP6 ⊢
   have HBA:=aa ((Below.refl w6.heap.size w6).alloc (Nat.le_refl _) (.cells #[.slice A6 m6 c6] 50))
   have HSN:=aa (dm w6 #[.slice A6 m6 c6] 50 [.slice A6 m6 c6] rfl)
   have HOA:=aa (ao HO6.out HBA.out)
   have HRA:=aa (HR6.out.below HBA.out)
   have HPA:=aa (ao HP6.out HBA.out)
   have hb0w:b0<=w6.heap.size:=by have:=HB6.out.size;have:=HBE.out;omega
   clear hm6
   go_wp2_with (at_builtin;refine gj _ rfl _ _ 137 rfl b0 50 (.slice none 0 0) 1 24 sg rfl (by omega) Tryz.underlying137 _ k vs rfl HOA.out (w6.heap.size+1) (some ⟨w6.heap.size,0,none⟩) 1 1 [.slice A6 m6 c6] rfl rfl HSN.out (by simp [Value.oneCell']) (by omega) (by omega) (by simp;omega) (k+1) rfl _ rfl ?_;intro A7 c7 w7 hown hg7;(have HO7:=aa hown);(have HG7:=aa hg7);clear hown hg7)
   go_roundw
   case rel =>
    refine ⟨k+1,vs++[.slice A6 m6 c6],by omega,by go_num,HO7,aa ?_,aa (HB6.out.trans ?_)⟩
    ·rw [HTK.out]
     have hm:=HM6.out
     subst hm
     exact (HRA.out.beside HOA.out HG7.out).more (jL HPA.out HOA.out (by decide) HG7.out)
    ·refine (HBA.out.mono (by have:=HB6.out.size;omega)).grown HG7.out (by have:=HB6.out.size;simp;omega) fun q hq => ?_
     have:=(HOA.out.lt q hq).1
     have:=HBE.out
     omega
   case measure=>simp [intOf];omega
  ·obtain rfl:k=n:=by omega
   have HR2:=aa (show RowsOf wr (allB s.p) vs from by have h:=HR.out;rw [List.take_of_length_le (by rw [HLN.out];exact Nat.le_refl _),HRS.out] at h;exact h)
   have HLA:=aa (show (allB s.p).length=k from by rw [<- HRS.out,List.length_map];exact HLN.out)
   go_wp2
   refine HFD.out _ _ A2 c2 vs k HLA.out rfl (az HO.out (by have:=HB1.out.size;have:=HBE.out;omega)) HR2.out (HB1.out.trans (HB.out.mono HB1.out.size))

section
variable {P : Program} {ops : Array Oper} {o : Oper} {a : Act} {w : World} {Q : Exit -> Act -> World -> Prop}
theorem eY {K:Act->World->Prop} {E:Prop} (ty:TypeId) (hgd:Region.wanted o (yielded ops a.tmps)=true) (ho:o.op = .alloc ty) {cs:Array Value} {n:Nat} (hz:(P.info? ty).map (fun i=>(i.zero,i.size))=some (some (.agg cs),n)) (d:Nat) (hd:o.dst=some d)
  (hK:∀W,Hid (BoxAt W w.heap.size cs ty)->Hid (Below w.heap.size w W)->Hid (W.heap.size=w.heap.size+1)->K (a.put (some d) (.pointer (some ⟨w.heap.size,0,none⟩))) W):if Region.wanted o (yielded ops a.tmps)=true then Oper.wp P o a w K Q else E:=by
 rw [if_pos hgd]
 rw [<- hd] at hK
 have h1:=hK (w.alloc (.cells cs ty)) (aa (BoxAt.new _ _ _)) (aa ((Below.refl _ _).alloc (Nat.le_refl _) _)) (aa (by simp))
 unfold Oper.wp execOp
 simp only [ho,Instr.alloc,newVar,newRow,Sem.run_bind,(zero_of_info hz).1,run_newObj_alloc,Sem.run_pure,Result.andThen_ok,Value.cells]
 exact h1
end

def stB (L:Lay) (jb sb:Nat) (q:Nat):Prop:=L.has q∨q=jb∨q=sb

structure StoreAt (w:World) (L:Lay) (D:Dk) (jb sb:Nat) (S:JS) (ps:List RecP) (y:StaM):Prop where
 j:JAt w L D jb S
 box:BoxAt w sb (stC jb y) 143
 hb:¬L.has sb
 hj:sb≠jb
 far:SApart (stB L jb sb) w y
 recs:S.recs=ps.map recB
 snd:∀p∈ps,p.snd
 known:y.p=foldsP ps
theorem Below.chg {w w':World} {P:Nat->Prop} (h:Below w.heap.size w w'):Chg P w w':=Chg.of_below h
theorem StoreAt.below {w w':World} {L:Lay} {D:Dk} {jb sb:Nat} {S:JS} {ps:List RecP} {y:StaM} (h:StoreAt w L D jb sb S ps y) (hb:Below w.heap.size w w'):StoreAt w' L D jb sb S ps y :=
 ⟨h.j.below hb,h.box.below hb,h.hb,h.hj,h.far.step (Chg.of_below hb) (fun _ e _=>e),h.recs,h.snd,h.known⟩
theorem StoreAt.lt {w:World} {L:Lay} {D:Dk} {jb sb:Nat} {S:JS} {ps:List RecP} {y:StaM} (h:StoreAt w L D jb sb S ps y) {q:Nat} (hq:stB L jb sb q):q<w.heap.size:=by
 rcases hq with hq|rfl|rfl
 ·exact h.j.b.d.lt hq
 ·exact h.j.b.lt
 ·exact h.box.lt

def StoreTurn (w:World) (L:Lay) (D:Dk) (jb sb:Nat) (S':JS) (ps':List RecP) (y':StaM) (w':World):Prop :=
 ∃L' D',L'.b=L.b/\D'.n=D.n/\D'.c=D.c/\StoreAt w' L' D' jb sb S' ps' y'/\Chg (stB L jb sb) w w'/\∀q,L'.has q->L.has q∨w.heap.size<=q
theorem StoreTurn.stay {w w':World} {L:Lay} {D:Dk} {jb sb:Nat} {S:JS} {ps:List RecP} {y:StaM} (h:StoreAt w L D jb sb S ps y) (hb:Below w.heap.size w w'):StoreTurn w L D jb sb S ps y w' :=
 ⟨L,D,rfl,rfl,rfl,h.below hb,Chg.of_below hb,fun _ e => .inl e⟩
theorem StoreAt.turn {w w7 w8:World} {L:Lay} {D:Dk} {jb sb:Nat} {S S':JS} {ps ps':List RecP} {y y':StaM} (h:StoreAt w L D jb sb S ps y) (hy:SApart (stB L jb sb) w y') (ht:kD w L D jb S' w7)
  (hbx:BoxAt w8 sb (stC jb y') 143) (hg:w7.grownBy w8 (some sb)) (hr:S'.recs=ps'.map recB) (hs:∀p∈ps',p.snd) (hk:y'.p=foldsP ps'):StoreTurn w L D jb sb S' ps' y' w8:=by
 obtain ⟨D',e1,e2,hf,L',eb,hj,hc,hl⟩:=ht
 have hsb:¬L'.has sb:=fun e=>by
  rcases hl _ e with e|e
  ·exact h.hb e
  ·have:=h.lt (.inr (.inr rfl))
   omega
 have hj8:JBox w8 L' D' jb (2 * S'.m) S'.gen S'.recs.length (S'.used D'.n):=by
  rw [e1]
  refine ⟨hj.d.stay fun q hq=>hg.block q (hj.d.lt hq) (fun e => ?_),aB hg hj.x h.hj,hj.h⟩
  injection e with e
  subst e
  exact hsb hq
 have hcc:Chg (stB L jb sb) w w8:=(hc.mono (S':=stB L jb sb) (fun q e=>e.elim .inl (fun e => .inr (.inl e)))).trans (Chg.of_grown (S:=stB L jb sb) hg (.inl (.inr (.inr rfl)))) (fun _ e _=>e)
 refine ⟨L',D',eb,e1,e2,⟨⟨hj8,hf⟩,hbx,hsb,h.hj,hy.step hcc (fun q hq hlt => ?_),hr,hs,hk⟩,hcc,hl⟩
 rcases hq with hq|hq
 ·rcases hl _ hq with e|e
  ·exact .inl e
  ·omega
 ·exact .inr hq

def gg (S:JS) (n c:Nat) (s:StaP) (p:RecP):Nat:=if mayR p=true then (if S.used n+recN S.gen n (S.recs.length+1) (recB p)<=aI c then 0 else if usedN (S.gen+1) n 1 (allB (foldP s p))<=aI c then 0 else 7) else 3
def eZ (S:JS) (n c:Nat) (s:StaP) (p:RecP):JS:=if mayR p=true then (if S.used n+recN S.gen n (S.recs.length+1) (recB p)<=aI c then ⟨S.m+1,S.gen,S.recs++[recB p]⟩ else if usedN (S.gen+1) n 1 (allB (foldP s p))<=aI c then ⟨S.m+1,S.gen+1,allB (foldP s p)⟩ else S) else S
def kM (S:JS) (n c:Nat) (s:StaP) (p:RecP) (ps:List RecP):List RecP:=if mayR p=true then (if S.used n+recN S.gen n (S.recs.length+1) (recB p)<=aI c then ps++[p] else if usedN (S.gen+1) n 1 (allB (foldP s p))<=aI c then upP (foldP s p) 16 else ps) else ps
theorem pj (S:JS) (n c:Nat) (s:StaP) (p:RecP):(eZ S n c s p).m<=S.m+1/\(eZ S n c s p).gen<=S.gen+1:=by
 unfold eZ
 (repeat' split) <;> constructor <;> simp <;> omega

def FarQ (w:World) (L:Lay) (jb sb:Nat) (y:StaM) (w':World) (L':Lay) (y':StaM):Prop :=
 ∀Q:Nat->Prop,(∀q,Q q->q<w.heap.size)->SApart (fun q=>stB L jb sb q∨Q q) w y->SApart (fun q=>stB L' jb sb q∨Q q) w' y'
def PutTurn (w:World) (L:Lay) (D:Dk) (jb sb:Nat) (y:StaM) (S':JS) (ps':List RecP) (y':StaM) (w':World):Prop :=
 ∃L' D',L'.b=L.b/\D'.n=D.n/\D'.c=D.c/\StoreAt w' L' D' jb sb S' ps' y'/\Chg (stB L jb sb) w w'/\(∀q,L'.has q->L.has q∨w.heap.size<=q)/\FarQ w L jb sb y w' L' y'
theorem PutTurn.stay {w w':World} {L:Lay} {D:Dk} {jb sb:Nat} {S:JS} {ps:List RecP} {y:StaM} (h:StoreAt w L D jb sb S ps y) (hb:Below w.heap.size w w'):PutTurn w L D jb sb y S ps y w' :=
 ⟨L,D,rfl,rfl,rfl,h.below hb,Chg.of_below hb,fun _ e => .inl e,fun _ _ hs=>hs.step (Chg.of_below hb) (fun _ e _=>e)⟩
theorem PutTurn.far_fresh {w wc u:World} {L L':Lay} {jb sb lo:Nat} {y x:StaM} (hx:StaM.fresh wc lo x) (hlo:w.heap.size<=lo) (hB:∀k,stB L jb sb k->k<lo) (hc:Chg (stB L jb sb) wc u) (hl:∀q,L'.has q->L.has q∨wc.heap.size<=q):FarQ w L jb sb y u L' x:=by
 intro Q hQ _
 have h1:SApart (fun q=>stB L jb sb q∨Q q) wc x:=SApart.fresh hx (fun k h1 _ e=>by
  rcases e with e|e
  ·have:=hB k e
   omega
  ·have:=hQ k e
   omega)
 refine h1.step (hc.mono (S':=fun q=>stB L jb sb q∨Q q) fun q e => .inl e) (fun q e hlt => ?_)
 rcases e with e|e
 ·rcases e with e|e
  ·rcases hl q e with e|e
   ·exact .inl (.inl e)
   ·omega
  ·exact .inl (.inr e)
 ·exact .inr e

def pk (L:Lay) (D:Dk) (jb sb:Nat) (S:JS) (ps:List RecP) (y:StaM) (p:RecP) (w:World) (e:Ending) (w':World):Prop :=
 e = .returned (.int .i64 (gg S D.n D.c y.p p:Nat))/\∃y',(y'.p=if gg S D.n D.c y.p p=0 then foldP y.p p else y.p)/\PutTurn w L D jb sb y (eZ S D.n D.c y.p p) (kM S D.n D.c y.p p ps) y' w'
theorem Cl {w:World} {B:Nat} {y:StaM} (hy:StaM.good w B y) (hi:Inv14 y.p):∀p∈upP y.p 16,p.snd:=fun p hp=>by
 rw [<- wZ y 16] at hp
 obtain ⟨m,hm,rfl⟩:=List.mem_map.1 hp
 exact (lM hy (Nat.le_refl 16) m hm).g.snd (xd hi (Nat.le_refl 16) _ (by rw [<- wZ y 16];exact List.mem_map_of_mem hm))
theorem xU {s:StaP} (h:∀p∈upP s 16,p.snd):dJ (allB s)=false:=by
 unfold dJ allB
 rw [List.any_eq_false]
 intro r hr
 obtain ⟨p,hp,rfl⟩:=List.mem_map.1 hr
 have:=(h p hp).len
 simpa using this
theorem D6 (s:StaP):(upP s 16).length<=100:=by
 have h1:(feP s).length<=1:=by unfold feP;split <;> simp
 have h2:(liP s).length<=1:=by unfold liP;split <;> simp
 have h3:(qF s).length<=1:=by unfold qF;split <;> simp
 have h4:∀k,(slP s k).length<=k:=by
  intro k
  induction k with
  | zero=>simp [slP]
  | succ k ih =>
   unfold slP at ih ⊢
   rw [List.range_succ,List.flatMap_append,List.length_append,List.flatMap_singleton]
   split <;> simp only [List.length_singleton,List.length_nil] <;> omega
 have:=h4 16
 unfold upP
 simp only [List.length_append]
 omega

theorem sk {w:World} {L:Lay} {D:Dk} {jb sb:Nat} {S:JS} {ps:List RecP} {y:StaM} (h:StoreAt w L D jb sb S ps y) (m:RecM) (hm:RecM.tame w w.heap.size m) (hm1:S.m+1<=1000) (hg1:S.gen+1<=1000) :
  Calls Tryz.prog 29 #[.pointer (some ⟨sb,0,none⟩),m.v] w (pk L D jb sb S ps y m.p w):=by
 obtain ⟨R,hR⟩:∃R,pk L D jb sb S ps y m.p w=R:=⟨_,rfl⟩
 rw [hR]
 have HF3:=aa (fun (hy:mayR m.p=false) (e:Ending) (w':World) (h1:e = .returned (.int .i64 3)) (h2:Below w.heap.size w w')=>show R e w' from by rw [<- hR];unfold pk gg eZ kM;simp only [hy,Bool.false_eq_true,if_false];exact ⟨h1,y,rfl,PutTurn.stay h h2⟩)
 have HF7:=aa (fun (hy:mayR m.p=true) (hf:¬S.used D.n+recN S.gen D.n (S.recs.length+1) (recB m.p)<=aI D.c) (hc:¬usedN (S.gen+1) D.n 1 (allB (foldP y.p m.p))<=aI D.c) (e:Ending) (w':World) (h1:e = .returned (.int .i64 7)) (h2:Below w.heap.size w w')=>show R e w' from by rw [<- hR];unfold pk gg eZ kM;simp only [hy,if_true,if_neg hf,if_neg hc];exact ⟨h1,y,rfl,PutTurn.stay h h2⟩)
 have HF0:=aa (fun (hy:mayR m.p=true) (hf:S.used D.n+recN S.gen D.n (S.recs.length+1) (recB m.p)<=aI D.c) (y':StaM) (hk:y'.p=foldP y.p m.p) (e:Ending) (w':World) (h1:e = .returned (.int .i64 0)) (h2:PutTurn w L D jb sb y ⟨S.m+1,S.gen,S.recs++[recB m.p]⟩ (ps++[m.p]) y' w')=>show R e w' from by rw [<- hR];unfold pk gg eZ kM;simp only [hy,if_true,if_pos hf];exact ⟨h1,y',hk,h2⟩)
 have HF1:=aa (fun (hy:mayR m.p=true) (hf:¬S.used D.n+recN S.gen D.n (S.recs.length+1) (recB m.p)<=aI D.c) (hc:usedN (S.gen+1) D.n 1 (allB (foldP y.p m.p))<=aI D.c) (y':StaM) (hk:y'.p=foldP y.p m.p) (e:Ending) (w':World) (h1:e = .returned (.int .i64 0)) (h2:PutTurn w L D jb sb y ⟨S.m+1,S.gen+1,allB (foldP y.p m.p)⟩ (upP (foldP y.p m.p) 16) y' w')=>show R e w' from by rw [<- hR];unfold pk gg eZ kM;simp only [hy,if_true,if_neg hf,if_pos hc];exact ⟨h1,y',hk,h2⟩)
 have H:=aa h
 have HM:=aa hm
 have HI:=aa (show Inv14 y.p from by rw [h.known];exact qE ps)
 have HPT:=aa (fun (u:World) (hb:Below w.heap.size w u)=>lC m w.heap.size u (hm.g.below hb) hb.size)
 have HYS:=aa (fun hy:mayR m.p=true=>hm.g.snd hy)
 have HVM:=aa (show m.v = .agg m.box from rfl)
 have HMZ:=aa m.size'
 have HYZ:=aa y.box_size
 have HYV:=aa (show y.v = .agg y.box from rfl)
 have HSG:=aa (xO jb y)
 have HSN:=aa (z7 jb y)
 have HFL:=aa (fun (u:World) (hb:Below w.heap.size w u)=>lA y m u.heap.size u ((h.far.good.below hb).more hb.size) ((hm.below hb).more hb.size) (Nat.le_refl _))
 obtain ⟨V,hV⟩:∃V,m.v=V:=⟨_,rfl⟩
 rw [hV] at HVM ⊢
 simp only [hV] at HPT HFL
 obtain ⟨VY,hVY⟩:∃V,y.v=V:=⟨_,rfl⟩
 rw [hVY] at HYV
 simp only [hVY] at HFL
 obtain ⟨yb,hyb⟩:∃b,y.box=b:=⟨_,rfl⟩
 rw [hyb] at HYV HYZ HSG
 clear hR h hm hV hVY hyb
 go_enter Tryz.func29,Tryz.ntmps29
 go_wp2_with (refine aw 54 (by rfl) _ (by rfl) (by rfl) HVM.out ?_;intro W0 HX0 HB0 HZ0)
 have HT0:=aa (H.out.below HB0.out)
 refine (jh HT0.out.box).mono ?_
 rintro en w1 ⟨rfl,rfl⟩
 have hz0:w.heap.size<W0.heap.size:=HX0.out.lt
 go_wp2_with (refine ak 54 (by rfl) _ (by rfl) au aH HX0.out (by rfl) HMZ.out ?_;rw [<- HVM.out])
 refine (HPT.out _ HB0.out).mono ?_
 rintro en w2 ⟨A2,c2,rfl,ho2,hb2⟩
 have HB2:=aa (HB0.out.trans (hb2.mono HB0.out.size))
 have HX2:=aa (HX0.out.below hb2)
 have HO2:=aa ho2
 clear ho2 hb2 hz0 HX0 HT0 HB0 HZ0 HPT
 cases hy:mayR m.p with
 | false =>
  rw [rL hy]
  have HYY:=aa hy
  clear hy
  go_wp2
  exact HF3.out HYY.out _ _ rfl HB2.out
 | true =>
 rw [kq hy] at HO2 ⊢
 have HYY:=aa hy
 have HPS:=aa (HYS.out hy)
 obtain ⟨r,hr⟩:∃r,recB m.p=r:=⟨_,rfl⟩
 have HRE:=aa hr
 have HRL:=aa (show r.length<=2048 from by rw [<- hr];exact HPS.out.len)
 rw [hr] at HO2 ⊢
 simp only [hr] at HF0 HF1 HF7
 clear hy hr HYS
 simp only at HO2 ⊢
 obtain ⟨rl,hrl⟩:∃n,r.length=n:=⟨_,rfl⟩
 have HRN:=aa hrl
 rw [hrl] at HO2 ⊢
 clear hrl
 have HT2:=aa (H.out.below HB2.out)
 go_upto_region 6 with fail
 go_cut [7] (fun q wx=>∃(z:Nat) (x:StaM),q = .pointer (some ⟨z,0,none⟩)/\w2.heap.size<=z/\Hid (BoxAt wx z x.box 75)/\Hid (x.p=foldP y.p m.p)/\Hid (StaM.fresh wx w2.heap.size x)/\Hid (Below w2.heap.size w2 wx))
 case first =>
  have HD:=aa (show Below w2.heap.size w2 w2.drew from (Below.refl _ _).drew)
  have HSS:=aa (fun (u:World) (h:Below w2.heap.size w2 u)=>(⟨HT2.out.box.below h,HX2.out.below h,h⟩:BoxAt u sb (stC jb y) 143/\BoxAt u w.heap.size m.box 54/\Below w2.heap.size w2 u))
  have hsl:sb<w2.heap.size:=HT2.out.box.lt
  refine wp_region_held_drew (S:=fun u=>BoxAt u sb (stC jb y) 143/\BoxAt u w.heap.size m.box 54/\Below w2.heap.size w2 u) (by kernel_rfl) (HSS.out _ HD.out) (fun hHeld => ?_)
  refine tkY 0 18 ?v1 rfl ?hy1 (by assumption) ?rest1
  case hy1=>intro w hSw;(try dsimp only at hSw);(have hlS:=hSw.1.lt);(have hc0:=(hSw.1.cell 0).trans (qT jb y));go_simp <;> with_reducible rfl
  simp only [Act.put,sTI,sT0,sT1]
  refine tkY 1 19 ?v2 rfl ?hy2 (by assumption) ?rest2
  case hy2=>intro w hSw;(try dsimp only at hSw);(have hlS:=hSw.1.lt);(have hc0:=(hSw.1.cell 0).trans (qT jb y));go_simp <;> with_reducible rfl
  simp only [Act.put,sTI,sT0,sT1]
  refine tkY 2 20 ?v3 rfl ?hy3 (by assumption) ?rest3
  case hy3=>intro w hSw;(try dsimp only at hSw);(have hlS:=hSw.1.lt);(have hc0:=(hSw.1.cell 0).trans (qT jb y));go_simp <;> with_reducible rfl
  simp only [Act.put,sTI,sT0,sT1]
  refine wpAnyH_take (i:=3) (oi:=⟨some 21,_,_,_,_,_⟩) (v:=VY) rfl (by kernel_rfl) (by kernel_rfl) (by kernel_rfl) (fun _ _ _ h=>h) (pZ 75 (by rfl) _ (by rfl) am aJ HYV.out (fun _ h=>h.1) HSG.out HYZ.out (by rfl)) (by assumption) ?_
  simp only [Act.put,sTI,sT0,sT1]
  refine wpAnyH_take (i:=4) (oi:=⟨some 22,_,_,_,_,_⟩) (v:=V) rfl (by kernel_rfl) (by kernel_rfl) (by kernel_rfl) (fun _ _ _ h=>h) (gL 54 (by rfl) _ (by rfl) au aH HVM.out (fun _ h=>h.2.1) HMZ.out (by rfl)) (by assumption) ?_
  simp only [Act.put,sTI,sT0,sT1]
  refine wpAnyH_ready (rs:=[5,6]) (by kernel_rfl) (by simp) ?_
  refine AllReadyH.cons rfl (fun K hK => ?_) (AllReadyH.cons rfl (fun K hK => ?_) AllReadyH.nil)
  ·go_simp
   go_wp2_with fail
   refine (HFL.out _ (HB2.out.trans (HD.out.mono HB2.out.size))).mono ?_
   rintro en u1 ⟨x,rfl,hxp,hxf,hb1⟩
   have HU1:=aa (HD.out.trans (hb1.mono HD.out.size))
   have HXF:=aa (hxf.less HD.out.size)
   clear hxf hb1
   have HXP:=aa hxp
   have HXZ:=aa x.box_size
   have HXO:=aa x.one
   have HXV:=aa (show x.v = .agg x.box from rfl)
   obtain ⟨xb,hxb⟩:∃b,x.box=b:=⟨_,rfl⟩
   rw [hxb] at HXZ HXO HXV
   have HXB:=aa hxb
   obtain ⟨VX,hVX⟩:∃V,x.v=V:=⟨_,rfl⟩
   rw [hVX] at HXV ⊢
   clear hxb hVX hxp
   refine hK.out _ _ (HSS.out _ HU1.out) (fun hHeld => ?_)
   clear hK K
   refine wpAnyH_ready (rs:=[6]) (by kernel_rfl) (by simp) ?_
   refine AllReadyH.cons rfl (fun K hK => ?_) AllReadyH.nil
   refine eY 75 (by rfl) (by rfl) bC 7 (by rfl) ?_
   intro W5 HXA HBW HSW
   simp only [Act.put,sTI,sT0,sT1]
   have HBA:=aa (HU1.out.trans (HBW.out.mono HU1.out.size))
   have HZL:=aa (show w2.heap.size<=u1.heap.size from HU1.out.size)
   refine hK.out _ _ (HSS.out _ HBA.out) (fun hHeld => ?_)
   clear hK K
   refine wpAnyH_ready (rs:=[7]) (by kernel_rfl) (by simp) ?_
   refine AllReadyH.cons rfl (fun K hK => ?_) AllReadyH.nil
   refine cC 75 (by rfl) _ _ (by rfl) am (by rfl) (by rfl) (cs:=xb) HXV.out HXZ.out HXO.out HXA.out zeroSt.box_size ?_ (by rfl)
   intro W6 HX6 HG6 HZ6
   have HB6:=aa (HBA.out.grown HG6.out HBA.out.size (fun k hk=>by injection hk with hk;have:=HZL.out;omega))
   refine hK.out _ _ (HSS.out _ HB6.out) (fun hHeld => ?_)
   clear hK K
   refine wpAnyH_done (by kernel_rfl) ?_ _
   clear hHeld
   go_wp2_with fail
   go_meet
   have hx6:=HX6.out
   rw [<- HXB.out] at hx6
   exact ⟨_,x,rfl,HZL.out,aa hx6,HXP,aa (HXF.out.chg (P:=fun k=>k=u1.heap.size) ((Chg.of_below HBW.out).trans (Chg.of_grown (S:=fun k=>k=u1.heap.size) HG6.out (.inl rfl)) (fun _ e _=>e)) (fun k _ h2 e=>by omega)),HB6⟩
  ·refine eY 75 (by rfl) (by rfl) bC 7 (by rfl) ?_
   intro W5 HXA5 HBW HSW
   simp only [Act.put,sTI,sT0,sT1]
   have HU5:=aa (HD.out.trans (HBW.out.mono HD.out.size))
   have HZL:=aa (show w2.heap.size<=w2.drew.heap.size from HD.out.size)
   refine hK.out _ _ (HSS.out _ HU5.out) (fun hHeld => ?_)
   clear hK K
   refine wpAnyH_ready (rs:=[5]) (by kernel_rfl) (by simp) ?_
   refine AllReadyH.cons rfl (fun K hK => ?_) AllReadyH.nil
   go_simp
   go_wp2_with fail
   refine (HFL.out _ (HB2.out.trans (HU5.out.mono HB2.out.size))).mono ?_
   rintro en u1 ⟨x,rfl,hxp,hxf,hb1⟩
   have HBA:=aa (HU5.out.trans (hb1.mono HU5.out.size))
   have HXA:=aa (HXA5.out.below hb1)
   have HXF:=aa hxf
   have HL5:=aa (show w2.drew.heap.size<W5.heap.size from HXA5.out.lt)
   clear hxf hb1
   have HXP:=aa hxp
   have HXZ:=aa x.box_size
   have HXO:=aa x.one
   have HXV:=aa (show x.v = .agg x.box from rfl)
   obtain ⟨xb,hxb⟩:∃b,x.box=b:=⟨_,rfl⟩
   rw [hxb] at HXZ HXO HXV
   have HXB:=aa hxb
   obtain ⟨VX,hVX⟩:∃V,x.v=V:=⟨_,rfl⟩
   rw [hVX] at HXV ⊢
   clear hxb hVX hxp
   refine hK.out _ _ (HSS.out _ HBA.out) (fun hHeld => ?_)
   clear hK K
   refine wpAnyH_ready (rs:=[7]) (by kernel_rfl) (by simp) ?_
   refine AllReadyH.cons rfl (fun K hK => ?_) AllReadyH.nil
   refine cC 75 (by rfl) _ _ (by rfl) am (by rfl) (by rfl) (cs:=xb) HXV.out HXZ.out HXO.out HXA.out zeroSt.box_size ?_ (by rfl)
   intro W6 HX6 HG6 HZ6
   have HB6:=aa (HBA.out.grown HG6.out HBA.out.size (fun k hk=>by injection hk with hk;have:=HZL.out;omega))
   refine hK.out _ _ (HSS.out _ HB6.out) (fun hHeld => ?_)
   clear hK K
   refine wpAnyH_done (by kernel_rfl) ?_ _
   clear hHeld
   go_wp2_with fail
   go_meet
   have hx6:=HX6.out
   rw [<- HXB.out] at hx6
   exact ⟨_,x,rfl,HZL.out,aa hx6,HXP,aa ((HXF.out.grown HG6.out (fun q e=>by injection e with e;have:=HL5.out;omega)).less (by have:=HL5.out;have:=HZL.out;omega)),HB6⟩
 case rest =>
 obtain ⟨z,x,rfl,hzl,HXX,HXP,HXF,HBX⟩:=hcut
 have HB3:=aa (HB2.out.trans (HBX.out.mono HB2.out.size))
 have HT3:=aa (HT2.out.below HBX.out)
 have HO3:=aa (ao HO2.out HBX.out)
 have HAP:=aa (show SApart (stB L jb sb) wc x from SApart.fresh HXF.out (fun k h1 _ hk=>by have:=HT2.out.lt hk;omega))
 have HZL:=aa hzl
 have HXG:=aa (show StaM.good wc wc.heap.size x from HXF.out.good)
 have HIX:=aa (show Inv14 x.p from by rw [HXP.out];exact lD HI.out m.p)
 have HZN:=aa (show ¬stB L jb sb z from fun e=>by have:=HT2.out.lt e;omega)
 have HXZ:=aa x.box_size
 have HXO:=aa x.one
 have HXV:=aa (show x.v = .agg x.box from rfl)
 have HXS:=aa (show splice (stC jb y) 1 x.box.toList=stC jb x from Ck jb y x)
 have HXR:=aa (fun (u:World) (L':Lay) (hc:Chg (stB L jb sb) wc u) (hl:∀q,L'.has q->L.has q∨wc.heap.size<=q)=>show FarQ w L jb sb y u L' x from PutTurn.far_fresh HXF.out HB2.out.size (fun k hk=>HT2.out.lt hk) hc hl)
 have HTU:=aa (fun (S':JS) (w7 w8:World) (ps':List RecP) (ht:kD wc L D jb S' w7) (hbx:BoxAt w8 sb (stC jb x) 143) (hg:w7.grownBy w8 (some sb)) (hr:S'.recs=ps'.map recB) (hs:∀p∈ps',p.snd) (hk:x.p=foldsP ps')=>show PutTurn w L D jb sb y S' ps' x w8 from by
  obtain ⟨L',D',e1,e2,e3,h1,h2,h3⟩:=HT3.out.turn HAP.out ht hbx hg hr hs hk
  exact ⟨L',D',e1,e2,e3,h1,(Chg.of_below (S:=stB L jb sb) (HB3.out)).trans h2 (fun _ e _=>e),fun q hq=>(h3 q hq).imp_right (fun h=>Nat.le_trans HB3.out.size h),HXR.out _ _ h2 h3⟩)
 obtain ⟨xb,hxb⟩:∃b,x.box=b:=⟨_,rfl⟩
 have HXB:=aa hxb
 rw [hxb] at HXX HXZ HXO HXV HXS
 clear hxb hzl HX2 HT2 HO2 HB2 HBX HXF HFL HYV HVM HMZ
 have c0:=(HT3.out.box.cell 0).trans (qT jb y)
 have hsl:sb<wc.heap.size:=HT3.out.box.lt
 have HUF:=aa HT3.out.j.f
 have HUB:=aa HT3.out.j.b
 have HN1:=aa HT3.out.j.b.d.ok
 have HMANY:=aa (HUF.out.many (by have:=HN1.out.n1;omega) HN1.out.c2)
 have HRC:=aa H.out.recs
 by_cases hfit:S.used D.n+recN S.gen D.n (S.recs.length+1) r<=aI D.c
 case pos =>
  have HFIT:=aa hfit
  have HAF:=aa (kF HUB.out HUF.out rfl hm1 r A2 rl c2 HRN.out (by have:=HRL.out;have:=HRN.out;omega) (Sees.own HO3.out) hfit)
  clear hfit
  go_wp2_with fail
  refine HAF.out.mono ?_
  rintro en w7 ⟨rfl,ht⟩
  have HJT:=aa ht
  have HBS:=aa (show BoxAt w7 sb (stC jb y) 143 from by
   obtain ⟨D',_,_,_,L',_,_,hc,_⟩:=ht
   exact (hc.block sb HT3.out.box.lt (fun e=>e.elim HT3.out.hb HT3.out.hj)).trans HT3.out.box)
  have HKZ:=aa (show BoxAt w7 z xb 75 from by
   obtain ⟨D',_,_,_,L',_,_,hc,_⟩:=ht
   exact (hc.block z HXX.out.lt (fun e=>HZN.out (e.elim .inl (fun e => .inr (.inl e))))).trans HXX.out)
  clear ht
  clear c0 hsl HAF HO3
  have HXX7:=aa (show BoxAt w7 z xb 75 from HKZ.out)
  have c7:=HBS.out.lt
  have c8:=HXX7.out.lt
  go_wp2_with (first|(refine ak 75 (by rfl) _ (by rfl) am aJ HXX7.out (by rfl) HXZ.out ?_)|(refine bu 75 (by rfl) _ _ (by rfl) am (i:=1) (by rfl) (by rfl) (cells:=xb) (by rfl) HXZ.out HXO.out HBS.out (by rw [HSN.out];omega) ?_;intro W8 HX8 HG8 HZ8))
  have hx8:=HX8.out
  rw [HXS.out] at hx8
  refine HF0.out HYY.out HFIT.out x HXP.out _ _ rfl (HTU.out _ _ _ _ HJT.out hx8 HG8.out (by rw [HRC.out,List.map_append,<- HRE.out];rfl) (fun p hp => ?_) ?_)
  ·rcases List.mem_append.1 hp with hp|hp
   ·exact H.out.snd p hp
   ·rw [List.mem_singleton.1 hp]
    exact HPS.out
  ·rw [HXP.out,H.out.known,foldsP,foldsP,List.foldl_append]
   rfl
 case neg =>
  have HFIT:=aa hfit
  have HAF:=aa (kE HUB.out HUF.out.c6 HUF.out.fit (by have:=HUF.out.small;omega) (by have:=HMANY.out;omega) r A2 rl c2 HRN.out (by have:=HRL.out;have:=HRN.out;omega) (Sees.own HO3.out) (by omega))
  clear hfit
  go_wp2_with fail
  refine HAF.out.mono ?_
  rintro en w4 ⟨rfl,hb4⟩
  have HB4:=aa hb4
  clear c0 hsl hb4 HAF HO3
  have HD:=aa (show Below w4.heap.size w4 w4.drew from (Below.refl _ _).drew)
  have HSS:=aa (fun (u:World) (h:Below w4.heap.size w4 u)=>(⟨(HXX.out.below HB4.out).below h,(((HT3.out.box.below HB4.out).below h).cell 0).trans (qT jb y),((HT3.out.box.below HB4.out).below h).lt⟩:BoxAt u z xb 75/\u.cell? ⟨sb,0,none⟩=some (.pointer (some ⟨jb,0,none⟩))/\sb<u.heap.size))
  have HAL:=aa (fun (u:World) (h:Below w4.heap.size w4 u)=>pi x u.heap.size u ((HXG.out.below (HB4.out.trans (h.mono HB4.out.size))).more (HB4.out.trans (h.mono HB4.out.size)).size) (Nat.le_refl _) HIX.out)
  have HSA:=aa (Cl HXG.out HIX.out)
  rw [HXP.out] at HSA
  simp only [HXP.out] at HAL
  have HLG:=aa (xU HSA.out)
  have HLL:=aa (show (allB (foldP y.p m.p)).length<=100 from by unfold allB;rw [List.length_map];exact D6 _)
  have HFA:=aa (show foldsP (upP (foldP y.p m.p) 16)=foldP y.p m.p from by rw [<- HXP.out];exact zN HIX.out)
  obtain ⟨VX,hVX⟩:∃V,x.v=V:=⟨_,rfl⟩
  rw [hVX] at HXV
  simp only [hVX] at HAL
  obtain ⟨al,hal⟩:∃l,allB (foldP y.p m.p)=l:=⟨_,rfl⟩
  have HAE:=aa hal
  unfold AllB at HAL
  simp only [hal] at HAL HF1 HF7
  rw [hal] at HLG HLL
  obtain ⟨nl,hnl⟩:∃n,al.length=n:=⟨_,rfl⟩
  have HNL:=aa hnl
  simp only [hnl] at HAL
  rw [hnl] at HLL
  clear hVX hal hnl
  go_upto_region 9 with fail
  refine wp_region_held_drew (S:=fun u=>BoxAt u z xb 75/\u.cell? ⟨sb,0,none⟩=some (.pointer (some ⟨jb,0,none⟩))/\sb<u.heap.size) (by kernel_rfl) (HSS.out _ HD.out) (fun hHeld => ?_)
  refine tkY 0 32 ?v4 rfl ?hy4 (by assumption) ?rest4
  case hy4=>intro w hSw;(try dsimp only at hSw);(have hc0:=hSw.2.1);(have hc1:=hSw.2.2);go_simp <;> with_reducible rfl
  simp only [Act.put,sTI,sT0,sT1]
  refine tkY 1 33 ?v5 rfl ?hy5 (by assumption) ?rest5
  case hy5=>intro w hSw;(try dsimp only at hSw);(have hc0:=hSw.2.1);(have hc1:=hSw.2.2);go_simp <;> with_reducible rfl
  simp only [Act.put,sTI,sT0,sT1]
  refine tkY 2 34 ?v6 rfl ?hy6 (by assumption) ?rest6
  case hy6=>intro w hSw;(try dsimp only at hSw);(have hc0:=hSw.2.1);(have hc1:=hSw.2.2);go_simp <;> with_reducible rfl
  simp only [Act.put,sTI,sT0,sT1]
  refine tkY 3 35 ?v7 rfl ?hy7 (by assumption) ?rest7
  case hy7=>intro w hSw;(try dsimp only at hSw);(have hc0:=hSw.2.1);(have hc1:=hSw.2.2);go_simp <;> with_reducible rfl
  simp only [Act.put,sTI,sT0,sT1]
  refine wpAnyH_take (i:=4) (oi:=⟨some 36,_,_,_,_,_⟩) (v:=VX) rfl (by kernel_rfl) (by kernel_rfl) (by kernel_rfl) (fun _ _ _ h=>h) (gL 75 (by rfl) _ (by rfl) am aJ HXV.out (fun _ h=>h.1) HXZ.out (by rfl)) (by assumption) ?_
  simp only [Act.put,sTI,sT0,sT1]
  refine wpAnyH_ready (rs:=[5]) (by kernel_rfl) (by simp) ?_
  refine AllReadyH.cons rfl (fun K hK => ?_) AllReadyH.nil
  go_simp
  go_wp2_with fail
  refine (HAL.out _ HD.out).mono ?_
  rintro en u1 ⟨A6,c6,vs,rfl,ho6,hr6,hb6⟩
  have HU1:=aa (HD.out.trans (hb6.mono HD.out.size))
  obtain ⟨lb,lo,hlr⟩:=RowsOf.recs HNL.out ho6 hr6
  have HLR:=aa hlr
  have HT6:=aa (HT3.out.below (HB4.out.trans (HU1.out.mono HB4.out.size)))
  clear ho6 hr6 hb6 hlr
  refine hK.out _ _ (HSS.out _ HU1.out) (fun hHeld => ?_)
  clear hK K
  refine wpAnyH_ready (rs:=[6]) (by kernel_rfl) (by simp) ?_
  refine AllReadyH.cons rfl (fun K hK => ?_) AllReadyH.nil
  have HCP:=aa (kI (c:=c6) HT6.out.j.b HT6.out.j.f hm1 hg1 HNL.out (by have:=HLL.out;omega) HLR.out HLG.out)
  go_simp
  go_wp2_with fail
  refine HCP.out.mono ?_
  rintro en w7 (⟨hfull,rfl,hb7⟩ | ⟨hfits,rfl,ht⟩)
  ·have HFU:=aa hfull
   have HU7:=aa (HU1.out.trans (hb7.mono HU1.out.size))
   clear hfull hb7
   refine hK.out _ _ (HSS.out _ HU7.out) (fun hHeld => ?_)
   clear hK K
   refine tkY 7 6 ?v8 rfl ?hy8 (by assumption) ?rest8
   case hy8=>intro w hSw;(try dsimp only at hSw);(have hc0:=hSw.2.1);(have hc1:=hSw.2.2);go_simp <;> with_reducible rfl
   simp only [Act.put,sTI,sT0,sT1]
   refine wpAnyH_done (by kernel_rfl) ?_ _
   clear hHeld
   go_wp2
   exact HF7.out HYY.out HFIT.out (by have:=HFU.out;omega) _ _ rfl (HB3.out.trans ((HB4.out.trans (HU7.out.mono HB4.out.size)).mono HB3.out.size))
  ·have HFU:=aa hfits
   have HBU:=aa (HB4.out.trans (HU1.out.mono HB4.out.size))
   have HJT:=aa ht
   have HBS:=aa (show BoxAt w7 sb (stC jb y) 143 from by
    obtain ⟨D',_,_,_,L',_,_,hc,_⟩:=ht
    exact (hc.block sb HT6.out.box.lt (fun e=>e.elim HT3.out.hb HT3.out.hj)).trans HT6.out.box)
   have HKZ:=aa (show BoxAt w7 z xb 75 from by
    obtain ⟨D',_,_,_,L',_,_,hc,_⟩:=ht
    exact (hc.block z (HXX.out.below HBU.out).lt (fun e=>HZN.out (e.elim .inl (fun e => .inr (.inl e))))).trans (HXX.out.below HBU.out))
   clear hfits ht
   refine hK.out _ _ ⟨HKZ.out,(HBS.out.cell 0).trans (qT jb y),HBS.out.lt⟩ (fun hHeld => ?_)
   clear hK K
   refine tkY 7 6 ?v9 rfl ?hy9 (by assumption) ?rest9
   case hy9=>intro w hSw;(try dsimp only at hSw);(have hc0:=hSw.2.1);(have hc1:=hSw.2.2);go_simp <;> with_reducible rfl
   simp only [Act.put,sTI,sT0,sT1]
   refine wpAnyH_done (by kernel_rfl) ?_ _
   clear hHeld
   have HXX7:=aa (show BoxAt w7 z xb 75 from HKZ.out)
   have c7:=HBS.out.lt
   have c8:=HXX7.out.lt
   go_wp2_with (first|(refine ak 75 (by rfl) _ (by rfl) am aJ HXX7.out (by rfl) HXZ.out ?_)|(refine bu 75 (by rfl) _ _ (by rfl) am (i:=1) (by rfl) (by rfl) (cells:=xb) (by rfl) HXZ.out HXO.out HBS.out (by rw [HSN.out];omega) ?_;intro W8 HX8 HG8 HZ8))
   have hx8:=HX8.out
   rw [HXS.out] at hx8
   refine HF1.out HYY.out HFIT.out HFU.out x HXP.out _ _ rfl ?_
   obtain ⟨L',D',e1,e2,e3,h1,h2,h3⟩:=HT6.out.turn (HAP.out.step (Chg.of_below HBU.out) (fun _ e _=>e)) HJT.out hx8 HG8.out (by rw [<- HAE.out];rfl) HSA.out (HXP.out.trans HFA.out.symm)
   have hbb:=HB3.out.trans (HBU.out.mono HB3.out.size)
   exact ⟨L',D',e1,e2,e3,h1,(Chg.of_below (S:=stB L jb sb) hbb).trans h2 (fun _ e _=>e),fun q hq=>(h3 q hq).imp_right (fun h=>Nat.le_trans hbb.size h),HXR.out _ _ ((Chg.of_below HBU.out).trans h2 (fun _ e _=>e)) (fun q hq=>(h3 q hq).imp_right (fun h=>Nat.le_trans HBU.out.size h))⟩


theorem Cm {r:RegM} (h:mayG r.p=true):r.few:=by
 by_cases h0:r.p.ki=0
 ·unfold mayG at h
  rw [if_pos h0,decide_eq_true_eq] at h
  have e:=h
  unfold RegM.p zeroP at e
  simp only [RegP.mk.injEq,List.map_eq_nil_iff] at e
  obtain ⟨-, -, -,e1,e2,e3, -,e4⟩:=e
  refine ⟨⟨by rw [e1];simp,by rw [e2];simp,by rw [e3];simp,by rw [e4];simp⟩,fun d hd => ?_⟩
  rw [e2] at hd
  cases hd
 ·obtain ⟨-,⟨-,h1⟩,⟨h2,h3⟩,⟨h4, -⟩,h5⟩:=gS (mV h h0).1
  have h1':r.va.l.length<=8:=h1
  have h2':r.dn.l.length<=8:=by simpa [RegM.p] using h2
  have h4':r.ou.l.length<=8:=h4
  have h5':r.ma.l.length<=16:=h5
  refine ⟨⟨by omega,by omega,by omega,by omega⟩,fun d hd => ?_⟩
  have h6:=(h3 d.p (List.mem_map_of_mem hd)).2.2.2
  have h6':d.va.l.length<=8:=h6
  omega
theorem RecP.snd.tame {p:RecP} {x:RecM} {w:World} {B:Nat} (hp:p.snd) (h:x.p=p) (hg:RecM.good w B x):RecM.tame w B x:=⟨hg,Cm (by have:=kr hp.may;rw [<- h] at this;exact this)⟩
theorem pm (w:World) (lo:Nat):StaM.fresh w lo zeroSt :=
 ⟨fun i _=>⟨by simp [SlotM.num,zeroSt,zeroSl,BalIn,N64],iO w lo,few_zero⟩,by simp [zeroSt,N64],by simp [zeroSt,N32],CFresh.zero w lo⟩
theorem StaM.fresh.below {w w':World} {lo:Nat} {s:StaM} (h:StaM.fresh w lo s) (hb:Below w.heap.size w w'):StaM.fresh w' lo s:=h.chg (P:=fun _=>False) (Chg.of_below hb) (fun _ _ _ h=>h)

def xV (ps:List RecP) (w:World) (e:Ending) (w':World):Prop :=
 ∃y:StaM,e = .returned (.tuple #[y.v, .int .i64 0])/\y.p=foldsP ps/\StaM.fresh w' w.heap.size y/\Below w.heap.size w w'

theorem qV {l:List RecP} {k:Nat} {x:RecP} (h:l[k]?=some x):foldsP (l.take (k+1))=foldP (foldsP (l.take k)) x:=by
 obtain ⟨h1,rfl⟩:=List.getElem?_eq_some_iff.1 h
 rw [List.take_succ_eq_append_getElem h1,foldsP,List.foldl_append]
 rfl

theorem tZ (ps:List RecP) (hps:∀p∈ps,p.snd) (A:Option Addr) (n c b o B:Nat) (w:World) (hn:ps.length=n) (hn9:n<=4096) (hl:LRecs w B A b o (ps.map recB)) (hB:B<=w.heap.size) :
  Calls Tryz.prog 70 #[.slice A n c] w (xV ps w):=by
 obtain ⟨R,hR⟩:∃R,xV ps w=R:=⟨_,rfl⟩
 rw [hR]
 have HFD:=aa (fun (e:Ending) (w':World) (y:StaM) (h1:e = .returned (.tuple #[y.v, .int .i64 0])) (h2:y.p=foldsP ps) (h3:StaM.fresh w' w.heap.size y) (h4:Below w.heap.size w w')=>show R e w' from by rw [<- hR];exact ⟨y,h1,h2,h3,h4⟩)
 have HN:=aa hn
 have HPS:=aa hps
 have HL:=aa (fun (u:World) (h:Below w.heap.size w u)=>hl.below (h.mono hB))
 have HZB:=aa zeroSt.box_size
 have HBB:=aa hB
 clear hR hn hps hl hB
 go_enter Tryz.func70,Tryz.ntmps70
 go_upto_region 1 with (refine aq 75 (by rfl) (by rfl) bC ?_;intro W0 HY0 HB0 HZ0)
 go_upto_region 2 with (refine aq 75 (by rfl) (by rfl) bC ?_;intro W1 HX1 HB1 HZ1)
 obtain ⟨z2,hz2⟩:∃z,w.heap.size=z:=⟨_,rfl⟩
 obtain ⟨z4,hz4⟩:∃z,W0.heap.size=z:=⟨_,rfl⟩
 have HZE:=aa hz2
 have HZF:=aa (show z4=z2+1 from by have:=HZ0.out;omega)
 have HY1:=aa (HY0.out.below HB1.out)
 have HW1:=aa (HB0.out.trans (HB1.out.mono HB0.out.size))
 rw [hz2] at HY1 ⊢
 rw [hz4] at HX1 ⊢
 clear HY0 HB0 HZ0 HB1 HZ1 hz2 hz4
 go_wp2
 go_loopw [6,7,8,11] (fun _ _ _ i wr=>∃(k:Nat) (y:StaM),k<=n/\i = .int .i64 k/\Hid (y.p=foldsP (ps.take k))/\Hid (StaM.fresh wr (z4+1) y)/\Hid (BoxAt wr z4 y.box 75)/\Hid (BoxAt wr z2 zeroSt.box 75)/\Hid (Below w.heap.size w wr)) (fun _ _ _ i _=>n - (intOf i).toNat)
 case atStart=>exact ⟨0,zeroSt,by omega,rfl,aa rfl,aa (pm _ _),HX1,HY1,HW1⟩
 case round =>
  obtain ⟨k,y,hk,rfl,HP,HF,HX,HY,HB⟩:=hrel
  by_cases hlt:k<n
  ·obtain ⟨p,hp⟩:∃p,ps[k]?=some p:=⟨_,List.getElem?_eq_getElem (by rw [HN.out];exact hlt)⟩
   have hpm:(ps.map recB)[k]?=some (recB p):=by rw [List.getElem?_map,hp];rfl
   obtain ⟨ea,hbl⟩:=(HL.out _ HB.out).a (by rw [List.length_map,HN.out];omega)
   obtain ⟨A1,c1,e1,hs1⟩:=(HL.out _ HB.out).r k _ hpm
   subst ea
   have HSN:=aa (HPS.out p (List.mem_of_getElem? hp))
   have HFK:=aa (qV hp)
   have HGT:=aa (qD (recB p) p B A1 (recB p).length c1 wr HSN.out rfl rfl hs1 (Nat.le_trans HBB.out HB.out.size))
   have hbw:b<wr.heap.size:=Nat.lt_of_lt_of_le hbl (Nat.le_trans HBB.out HB.out.size)
   obtain ⟨rl,hrl⟩:∃n,(recB p).length=n:=⟨_,rfl⟩
   rw [hrl] at HGT e1
   have hzl:z4<wr.heap.size:=HX.out.lt
   clear hp hpm hs1 hrl hbl
   go_wp2_with fail
   refine HGT.out.mono ?_
   rintro en w5 ⟨x,rfl,hxp,hxg,hb5⟩
   have HB5:=aa (HB.out.trans (hb5.mono HB.out.size))
   have HX5:=aa (HX.out.below hb5)
   have HY5:=aa (HY.out.below hb5)
   have HF5:=aa (HF.out.below hb5)
   have HXP:=aa hxp
   have HXT:=aa (HSN.out.tame hxp hxg)
   have HXV:=aa (show x.v = .agg x.box from rfl)
   have HXS:=aa x.size'
   have HXO:=aa x.one'
   obtain ⟨xb,hxb⟩:∃b,x.box=b:=⟨_,rfl⟩
   rw [hxb] at HXV HXS HXO
   obtain ⟨V,hV⟩:∃V,x.v=V:=⟨_,rfl⟩
   rw [hV] at HXV ⊢
   have HVV:=aa hV
   clear hxb hV hxp hxg hb5 HGT HX HY HF HB e1 hbw hzl
   go_upto_region 6 with (first|(refine aq 54 (by rfl) (by rfl) fP ?_;intro W6 HX6 HB6 HZ6)|(refine ai 54 (by rfl) _ _ (by rfl) au (by rfl) (by rfl) (cs:=xb) HXV.out HXS.out HXO.out HX6.out (by rfl) ?_;intro W7 HX7 HG7 HZ7))
   have HBW:=aa (show Below w5.heap.size w5 W7 from HB6.out.grown HG7.out HB6.out.size (fun k hk=>by injection hk with hk;omega))
   have HB7:=aa (HB5.out.trans (HBW.out.mono HB5.out.size))
   have HK7:=aa (HX5.out.below HBW.out)
   have HY7:=aa (HY5.out.below HBW.out)
   have HF7:=aa (HF5.out.below HBW.out)
   have HFO:=aa (lA y x W7.heap.size W7 HF7.out.good ((HXT.out.below HBW.out).more HBW.out.size) (Nat.le_refl _))
   have HYV:=aa (show y.v = .agg y.box from rfl)
   have HYS:=aa y.box_size
   obtain ⟨VY,hVY⟩:∃V,y.v=V:=⟨_,rfl⟩
   rw [hVY,HVV.out] at HFO
   rw [hVY] at HYV
   have hz7:w5.heap.size<W7.heap.size:=HX7.out.lt
   have hz4:z4<W7.heap.size:=HK7.out.lt
   clear hVY HX6 HB6 HZ6 HG7 HZ7 HBW HX5 HY5 HF5 HB5
   go_wp2_with (first|(refine ak 75 (by rfl) _ (by rfl) am aJ HK7.out (by rfl) HYS.out ?_;rw [<- HYV.out])|(refine ak 54 (by rfl) _ (by rfl) au aH HX7.out (by rfl) HXS.out ?_;rw [<- HXV.out]))
   refine HFO.out.mono ?_
   rintro en w8 ⟨y2,rfl,hyp,hyf,hb8⟩
   have HB8:=aa (HB7.out.trans (hb8.mono HB7.out.size))
   have HK8:=aa (HK7.out.below hb8)
   have HY8:=aa (HY7.out.below hb8)
   have HF8:=aa (show StaM.fresh w8 (z4+1) y2 from hyf.less (by omega))
   have HYP:=aa (show y2.p=foldsP (ps.take (k+1)) from by rw [hyp,HFK.out,<- HP.out,HXP.out])
   have HQS:=aa y2.box_size
   have HQO:=aa y2.one
   have HQV:=aa (show y2.v = .agg y2.box from rfl)
   obtain ⟨VQ,hVQ⟩:∃V,y2.v=V:=⟨_,rfl⟩
   rw [hVQ] at HQV ⊢
   clear hVQ hyp hyf hb8 hz7 hz4 HK7 HY7 HF7 HB7 HX7 HFO
   have hz4:z4<w8.heap.size:=HK8.out.lt
   go_wp2_with (refine ai 75 (by rfl) _ _ (by rfl) am (by rfl) (by rfl) (cs:=y2.box) HQV.out HQS.out HQO.out HK8.out HYS.out ?_;intro W9 HX9 HG9 HZ9)
   go_roundw
   case rel =>
    have hz:=HZE.out
    have hf:=HZF.out
    exact ⟨k+1,y2,by omega,by go_num,HYP,aa (HF8.out.grown HG9.out (fun q e=>by injection e with e;omega)),HX9,aa (aB HG9.out HY8.out (by omega)),aa (HB8.out.grown HG9.out HB8.out.size (fun q hq=>by injection hq with hq;omega))⟩
   case measure=>simp [intOf];omega
  ·obtain rfl:k=n:=by omega
   have HYS:=aa y.box_size
   have HYO:=aa y.one
   have HYV:=aa (show y.v = .agg y.box from rfl)
   have HPP:=aa (show y.p=foldsP ps from by rw [HP.out,List.take_of_length_le (by rw [HN.out];exact Nat.le_refl _)])
   obtain ⟨yb,hyb⟩:∃b,y.box=b:=⟨_,rfl⟩
   rw [hyb] at HX HYS HYO HYV
   have hz4:z4<wr.heap.size:=HX.out.lt
   have hz2:z2<wr.heap.size:=HY.out.lt
   clear hyb
   go_wp2_with (first|(refine ak 75 (by rfl) _ (by rfl) am aJ HX.out (by rfl) HYS.out ?_)|(refine ai 75 (by rfl) _ _ (by rfl) am (by rfl) (by rfl) (cs:=yb) (by rfl) HYS.out HYO.out HY.out HZB.out ?_;intro W9 HX9 HG9 HZ9))
   refine bodyPost_ret (v := .tuple #[.agg yb, .int .i64 0]) (lr am aJ (by rfl) (by rfl) (by rfl) HX9.out HYS.out) rfl ?_
   have hz:=HZE.out
   have hf:=HZF.out
   exact HFD.out _ _ y (by rw [HYV.out]) HPP.out ((HF.out.grown HG9.out (fun q e=>by injection e with e;omega)).less (by omega)) (HB.out.grown HG9.out HB.out.size (fun q hq=>by injection hq with hq;omega))

theorem qW (jb:Nat) (y:StaM) (u:World):(Instr.build 143 #[(0, .pointer (some ⟨jb,0,none⟩)),(1, .agg y.box)]).run Tryz.prog u = .ok (.agg (stC jb y)) u:=by kernel_rfl

def sm (L:Lay) (D:Dk) (S:JS) (ps:List RecP) (w:World) (e:Ending) (w':World):Prop :=
 ∃(jb sb:Nat) (y:StaM),e = .returned (.tuple #[.pointer (some ⟨sb,0,none⟩), .int .i64 0])/\(w.heap.size<=jb/\w.heap.size<=sb)/\StoreAt w' L D jb sb S ps y/\(∀Q:Nat->Prop,(∀q,Q q->q<w.heap.size)->SApart (fun q=>stB L jb sb q∨Q q) w' y)/\Below w.heap.size w w'

theorem dr {w:World} {L:Lay} {D:Dk} {S:JS} {ps:List RecP} (h:DiskAt w L D) (f:Fits13 D S) (hr:S.recs=ps.map recB) (hs:∀p∈ps,p.snd) :
  Calls Tryz.prog 26 #[.pointer (some ⟨L.b,0,none⟩)] w (sm L D S ps w):=by
 obtain ⟨R,hR⟩:∃R,sm L D S ps w=R:=⟨_,rfl⟩
 rw [hR]
 have HFD:=aa (fun (e:Ending) (w':World) (jb sb:Nat) (y:StaM) (h1:e = .returned (.tuple #[.pointer (some ⟨sb,0,none⟩), .int .i64 0])) (h2:w.heap.size<=jb/\w.heap.size<=sb) (h3:StoreAt w' L D jb sb S ps y) (hq:∀Q:Nat->Prop,(∀q,Q q->q<w.heap.size)->SApart (fun q=>stB L jb sb q∨Q q) w' y) (h4:Below w.heap.size w w')=>show R e w' from by rw [<- hR];exact ⟨jb,sb,y,h1,h2,h3,hq,h4⟩)
 have HOP:=aa (si h f)
 have HRC:=aa hr
 have HSN:=aa hs
 have H:=aa h
 have HMANY:=aa (f.many (by have:=h.ok.n1;omega) h.ok.c2)
 have HLEN:=aa (show S.recs.length=ps.length from by rw [hr,List.length_map])
 obtain ⟨n,hn⟩:∃n,S.recs.length=n:=⟨_,rfl⟩
 have HN:=aa hn
 unfold xK at HOP
 rw [hn] at HOP HMANY HLEN
 obtain ⟨bc,hbc⟩:∃b,L.b=b:=⟨_,rfl⟩
 rw [hbc] at HOP ⊢
 clear hR h f hr hs hn hbc
 go_enter Tryz.func26,Tryz.ntmps26
 go_wp2_with fail
 refine HOP.out.mono ?_
 rintro en w1 ⟨jb,A,c,vs,rfl,hj,hja,hown,hrows,hb1⟩
 have HJ:=aa hj
 have HJA:=aa hja
 have HB1:=aa hb1
 obtain ⟨lb,lo,hlr⟩:=RowsOf.recs HN.out hown hrows
 rw [HRC.out] at hlr
 have HBH:=aa (tZ ps HSN.out A n c lb lo w1.heap.size w1 HLEN.out.symm (by have:=HMANY.out;omega) hlr (Nat.le_refl _))
 clear hj hja hown hrows hb1 hlr HOP
 go_wp2_with fail
 refine HBH.out.mono ?_
 rintro en w2 ⟨y,rfl,hyp,hyf,hb2⟩
 have HYP:=aa hyp
 have HYF:=aa hyf
 have HB2:=aa (HB1.out.trans (hb2.mono HB1.out.size))
 have HJ2:=aa (HJA.out.below hb2)
 have HBL:=aa hb2
 have HYS:=aa y.box_size
 have HYO:=aa y.one
 have HYV:=aa (show y.v = .agg y.box from rfl)
 have HBS:=aa (fun u=>qW jb y u)
 have HSC:=aa (show (.agg (stC jb y):Value) = .agg (stC jb y) from rfl)
 obtain ⟨yb,hyb⟩:∃b,y.box=b:=⟨_,rfl⟩
 rw [hyb] at HYS HYO HYV
 simp only [hyb] at HBS
 obtain ⟨sc,hsc⟩:∃b,stC jb y=b:=⟨_,rfl⟩
 simp only [hsc] at HBS HSC
 have HCE:=aa hsc
 rw [HYV.out]
 clear hyb hsc hyp hyf hb2 HBH
 go_upto_region 5 with (first|(refine aq 75 (by rfl) (by rfl) bC ?_;intro W3 HX3 HB3 HZ3)|(refine ai 75 (by rfl) _ _ (by rfl) am (by rfl) (by rfl) (cs:=yb) (by rfl) HYS.out HYO.out HX3.out zeroSt.box_size ?_;intro W4 HX4 HG4 HZ4))
 have HBW:=aa (show Below w2.heap.size w2 W4 from HB3.out.grown HG4.out HB3.out.size (fun k hk=>by injection hk with hk;omega))
 have HB4:=aa (HB2.out.trans (HBW.out.mono HB2.out.size))
 have HJ4:=aa (HJ2.out.below HBW.out)
 have HF4:=aa (HYF.out.below HBW.out)
 have hz4:w2.heap.size<W4.heap.size:=HX4.out.lt
 clear HX3 HB3 HZ3 HG4 HZ4
 go_wp2_with (first|(refine ak 75 (by rfl) _ (by rfl) am aJ HX4.out (by rfl) HYS.out ?_)|(refine fN 143 _ (by rfl) (by rfl) #[(0, .pointer (some ⟨jb,0,none⟩)),(1, .agg yb)] (by kernel_rfl) (HBS.out _) ?_)|(refine aw 143 (by rfl) _ (by rfl) (by rfl) (cs:=sc) (by rfl) ?_;intro W5 HX5 HB5 HZ5))
 have hx5:=HX5.out
 rw [<- HCE.out] at hx5
 have hj4:=HJ4.out.below HB5.out
 have hjl:jb<w1.heap.size:=HJA.out.b.lt
 have hdl:∀q,L.has q->q<w1.heap.size:=fun q hq=>HJA.out.b.d.lt hq
 have hwl:=HBL.out.size
 have hw4:=HBW.out.size
 have hfar:∀Q:Nat->Prop,(∀q,Q q->q<w.heap.size)->SApart (fun q=>stB L jb W4.heap.size q∨Q q) W5 y:=by
  intro Q hQ u hu
  refine (HF4.out.chg (P:=fun q=>stB L jb W4.heap.size q∨Q q) ((Chg.of_below HB5.out).trans hu (fun _ e _=>e)) (fun k h1 h2 hk => ?_)).good
  rcases hk with (hk|hk|hk)|hk
  ·have:=hdl _ hk
   omega
  ·omega
  ·omega
  ·have:=hQ _ hk
   have:=HB1.out.size
   omega
 refine HFD.out _ _ jb W4.heap.size y rfl ⟨HJ.out,HB4.out.size⟩ ⟨hj4,hx5,fun e => ?_,by omega,(hfar (fun _=>False) (fun _ e=>e.elim)).step (Chg.refl _ _) (fun q e _ => .inl e),HRC.out,HSN.out,HYP.out⟩ hfar (HB4.out.trans (HB5.out.mono HB4.out.size))
 have:=hdl _ e
 omega


structure TwoT (w:World) (Lc Ld:Lay) (D E:Dk) (jb sb kb tb:Nat) (S T:JS) (ps qs:List RecP) (y z:StaM) (wr:World):Prop where
 a:StoreAt wr Lc D jb sb S ps y
 b:StoreAt wr Ld E kb tb T qs z
 ap:∀g,stB Lc jb sb g->¬stB Ld kb tb g
 ya:SApart (fun q=>stB Lc jb sb q∨stB Ld kb tb q) wr y
 zb:SApart (fun q=>stB Ld kb tb q∨stB Lc jb sb q) wr z
 lw:Below w.heap.size w wr
 hc:∀g,stB Lc jb sb g->w.heap.size<=g
 hd:∀g,stB Ld kb tb g->w.heap.size<=g

def TwoG (w:World) (n c bc bd sb tb:Nat) (S T:JS) (ps qs:List RecP) (wr:World):Prop :=
 ∃Lc Ld D E jb kb y z,Lc.b=bc/\Ld.b=bd/\D.n=n/\D.c=c/\E.n=n/\E.c=c/\TwoT w Lc Ld D E jb sb kb tb S T ps qs y z wr

section
variable {w wr w' : World} {Lc Ld : Lay} {D E : Dk} {n c bc bd jb sb kb tb : Nat} {S T S' : JS} {ps qs ps' : List RecP} {y z y' : StaM}
theorem StoreAt.beside {P:Nat->Prop} (h:StoreAt wr Ld E kb tb T qs z) (hc:Chg P wr w') (hs:∀g,stB Ld kb tb g->¬P g) (hz:SApart (fun q=>stB Ld kb tb q∨P q) wr z):StoreAt w' Ld E kb tb T qs z :=
 ⟨h.j.beside hc (fun g hg=>hs g (hg.elim .inl (fun e => .inr (.inl e)))),(hc.block _ h.box.lt (hs _ (.inr (.inr rfl)))).trans h.box,h.hb,h.hj,hz.step (hc.mono (S':=fun q=>stB Ld kb tb q∨P q) fun _ e => .inr e) (fun _ e _ => .inl e),h.recs,h.snd,h.known⟩
theorem TwoT.turn (h:TwoT w Lc Ld D E jb sb kb tb S T ps qs y z wr):TwoT w Ld Lc E D kb tb jb sb T S qs ps z y wr :=
 ⟨h.b,h.a,fun g h1 h2=>h.ap g h2 h1,h.zb,h.ya,h.lw,h.hd,h.hc⟩
theorem TwoT.below (h:TwoT w Lc Ld D E jb sb kb tb S T ps qs y z wr) (hb:Below wr.heap.size wr w'):TwoT w Lc Ld D E jb sb kb tb S T ps qs y z w' :=
 ⟨h.a.below hb,h.b.below hb,h.ap,h.ya.step (Chg.of_below hb) (fun _ e _=>e),h.zb.step (Chg.of_below hb) (fun _ e _=>e),h.lw.trans (hb.mono h.lw.size),h.hc,h.hd⟩
theorem TwoT.left (h:TwoT w Lc Ld D E jb sb kb tb S T ps qs y z wr) (ht:PutTurn wr Lc D jb sb y S' ps' y' w'):∃L' D',L'.b=Lc.b/\D'.n=D.n/\D'.c=D.c/\TwoT w L' Ld D' E jb sb kb tb S' T ps' qs y' z w':=by
 obtain ⟨L',D',e1,e2,e3,hst,hc,hl,hf⟩:=ht
 refine ⟨L',D',e1,e2,e3,hst,h.b.beside hc (fun g h1 h2=>h.ap g h2 h1) h.zb,fun g h1 h2 => ?_,hf _ (fun q hq=>h.b.lt hq) h.ya,h.zb.step (hc.mono (S':=fun q=>stB Ld kb tb q∨stB Lc jb sb q) fun _ e => .inr e) (fun q e hlt => ?_),h.lw.trans (hc.below h.lw.size h.hc),fun g hg => ?_,h.hd⟩
 ·have hlt:=h.b.lt h2
  rcases h1 with h1|h1
  ·rcases hl g h1 with e|e
   ·exact h.ap g (.inl e) h2
   ·omega
  ·exact h.ap g (.inr h1) h2
 ·rcases e with e|e
  ·exact .inl e
  ·rcases e with e|e
   ·rcases hl q e with e|e
    ·exact .inr (.inl e)
    ·omega
   ·exact .inr (.inr e)
 ·rcases hg with hg|hg
  ·rcases hl g hg with e|e
   ·exact h.hc g (.inl e)
   ·exact Nat.le_trans h.lw.size e
  ·exact h.hc g (.inr hg)
theorem TwoG.turn (h:TwoG w n c bc bd sb tb S T ps qs wr):TwoG w n c bd bc tb sb T S qs ps wr:=by
 obtain ⟨Lc,Ld,D,E,jb,kb,y,z,e1,e2,e3,e4,e5,e6,h⟩:=h
 exact ⟨Ld,Lc,E,D,kb,jb,z,y,e2,e1,e5,e6,e3,e4,h.turn⟩
theorem TwoG.below (h:TwoG w n c bc bd sb tb S T ps qs wr) (hb:Below wr.heap.size wr w'):TwoG w n c bc bd sb tb S T ps qs w':=by
 obtain ⟨Lc,Ld,D,E,jb,kb,y,z,e1,e2,e3,e4,e5,e6,h⟩:=h
 exact ⟨Lc,Ld,D,E,jb,kb,y,z,e1,e2,e3,e4,e5,e6,h.below hb⟩
theorem TwoG.b (h:TwoG w n c bc bd sb tb S T ps qs wr):Below w.heap.size w wr:=by
 obtain ⟨Lc,Ld,D,E,jb,kb,y,z,e1,e2,e3,e4,e5,e6,h⟩:=h
 exact h.lw
theorem TwoG.put (h:TwoG w n c bc bd sb tb S T ps qs wr) (m:RecM) (hm:RecM.tame wr wr.heap.size m) (hm1:S.m+1<=1000) (hg1:S.gen+1<=1000) :
  Calls Tryz.prog 29 #[.pointer (some ⟨sb,0,none⟩),m.v] wr fun e w'=>e = .returned (.int .i64 (gg S n c (foldsP ps) m.p:Nat))/\TwoG w n c bc bd sb tb (eZ S n c (foldsP ps) m.p) T (kM S n c (foldsP ps) m.p ps) qs w':=by
 obtain ⟨Lc,Ld,D,E,jb,kb,y,z,e1,e2,e3,e4,e5,e6,h⟩:=h
 have hp:=sk h.a m hm hm1 hg1
 unfold pk at hp
 rw [h.a.known,e3,e4] at hp
 refine hp.mono ?_
 rintro e w' ⟨rfl,y', -,ht⟩
 obtain ⟨L',D',a1,a2,a3,h'⟩:=h.left ht
 exact ⟨rfl,L',Ld,D',E,jb,kb,y',z,a1.trans e1,e2,a2.trans e3,a3.trans e4,e5,e6,h'⟩
theorem TwoG.state (h:TwoG w n c bc bd sb tb S T ps qs wr) :
  Calls Tryz.prog 37 #[.pointer (some ⟨sb,0,none⟩)] wr fun e w'=>∃x:StaM,e = .returned x.v/\StaEq x.p (foldsP ps)/\StaM.fresh w' wr.heap.size x/\Below wr.heap.size wr w':=by
 obtain ⟨Lc,Ld,D,E,jb,kb,y,z,e1,e2,e3,e4,e5,e6,h⟩:=h
 have hp:=tY (KnowsAt.live h.a.box) h.a.far.good
 rw [h.a.known] at hp
 exact hp
theorem TwoG.reopen (h:TwoG w n c bc bd sb tb S T ps qs wr) :
  Calls Tryz.prog 26 #[.pointer (some ⟨bd,0,none⟩)] wr fun e w'=>∃tb',e = .returned (.tuple #[.pointer (some ⟨tb',0,none⟩), .int .i64 0])/\TwoG w n c bc bd sb tb' S T ps qs w':=by
 obtain ⟨Lc,Ld,D,E,jb,kb,y,z,e1,e2,e3,e4,e5,e6,h⟩:=h
 have hp:=dr h.b.j.b.d h.b.j.f h.b.recs h.b.snd
 rw [e2] at hp
 refine hp.mono ?_
 rintro e w' ⟨kb',tb',z',rfl,⟨hk,ht⟩,hst,hfar,hb⟩
 have hold:∀g,stB Ld kb' tb' g->Ld.has g∨wr.heap.size<=g:=fun g hg=>by
  rcases hg with hg|hg|hg
  ·exact .inl hg
  ·exact .inr (by omega)
  ·exact .inr (by omega)
 refine ⟨tb',rfl,Lc,Ld,D,E,jb,kb',y,z',e1,e2,e3,e4,e5,e6,h.a.below hb,hst,fun g h1 h2 => ?_,h.ya.step (Chg.of_below hb) (fun q e hlt => ?_),hfar _ (fun q hq=>h.a.lt hq),h.lw.trans (hb.mono h.lw.size),h.hc,fun g hg => ?_⟩
 ·rcases hold g h2 with e|e
  ·exact h.ap g h1 (.inl e)
  ·have:=h.a.lt h1
   omega
 ·rcases e with e|e
  ·exact .inl e
  ·rcases hold q e with e|e
   ·exact .inr (.inl e)
   ·omega
 ·rcases hold g hg with e|e
  ·exact h.hd g (.inl e)
  ·exact Nat.le_trans h.lw.size e
end

def kN (n c:Int) (l:List RecM) (w:World) (e:Ending) (w':World):Prop:=∃b:Bool,e = .returned (.bool b)/\Below w.heap.size w w'/\(b=false->(64<=n/\n<=512/\6<=c/\c<=200/\l.length<=40)/\∀m∈l,m.least)

theorem qX (n c:Int) (s:Sl RecM) (w:World) (h:oM w w.heap.size s):Calls Tryz.prog 23 #[.int .i64 n, .int .i64 c,s.v] w (kN n c s.l w):=by
 have HG:=aa (qx s w.heap.size w h (Nat.le_refl _))
 obtain ⟨A,cp,l⟩:=s
 simp only [Sl.v] at HG ⊢
 have HY:=aa (fun (e:Ending) (w':World) (h1:e = .returned (.bool true)) (h2:Below w.heap.size w w')=>show kN n c l w e w' from ⟨true,h1,h2,fun e=>by cases e⟩)
 have HNO:=aa (fun (e:Ending) (w':World) (h1:e = .returned (.bool false)) (h2:Below w.heap.size w w') h3=>show kN n c l w e w' from ⟨false,h1,h2,fun _=>h3⟩)
 obtain ⟨G,hG⟩:∃G:Ending->World->Prop,kN n c l w=G:=⟨_,rfl⟩
 simp only [hG] at HY HNO ⊢
 unfold oN at HG
 obtain ⟨m,hm⟩:∃m,l.length=m:=⟨_,rfl⟩
 rw [hm] at HG HNO ⊢
 have HM:=aa hm
 clear h hG hm
 by_cases h1:n<64
 ·go_enter Tryz.func23,Tryz.ntmps23
  go_wp2
  exact HY.out _ _ rfl (Below.refl _ _)
 by_cases h2:512<n
 ·go_enter Tryz.func23,Tryz.ntmps23
  go_wp2
  exact HY.out _ _ rfl (Below.refl _ _)
 by_cases h3:c<6
 ·go_enter Tryz.func23,Tryz.ntmps23
  go_wp2
  exact HY.out _ _ rfl (Below.refl _ _)
 by_cases h4:200<c
 ·go_enter Tryz.func23,Tryz.ntmps23
  go_wp2
  exact HY.out _ _ rfl (Below.refl _ _)
 by_cases h5:40<m
 ·go_enter Tryz.func23,Tryz.ntmps23
  go_wp2
  exact HY.out _ _ rfl (Below.refl _ _)
 have h5':¬((40:Int)<(m:Int)):=by omega
 go_enter Tryz.func23,Tryz.ntmps23
 go_wp2_with fail
 refine HG.out.mono ?_
 rintro e w1 ⟨b,rfl,hb,hg⟩
 have HB:=aa hb
 have HGG:=aa hg
 clear hb hg
 cases b with
 | true =>
  go_wp2
  exact HY.out _ _ rfl HB.out
 | false =>
  go_wp2
  exact HNO.out _ _ rfl HB.out ⟨⟨by omega,by omega,by omega,by omega,by omega⟩,(HGG.out (by first|trivial|rfl)).2⟩

def D7:RecP:=(gZ 7).p
theorem z8:gg ⟨0,0,[]⟩ 64 6 cZ D7=0:=by decide +kernel
theorem Cn:(foldP cZ D7).fe=7:=by decide +kernel
theorem xW (w:World) (B:Nat):RecM.tame w B (gZ 7) :=
 ⟨⟨by simp [RecM.ok',BalIn,N64,N32,gZ,zeroRec],bA w B,gO w B⟩,few_zero⟩

theorem kO (w:World):Calls Tryz.prog 24 #[] w fun e w'=>e = .returned (.bool true)/\Below w.heap.size w w':=by
 have HN:=aa (mw 64 6 w (by omega) (by omega) (by omega) (by omega))
 go_enter Tryz.func24,Tryz.ntmps24
 go_wp2_with fail
 refine HN.out.mono ?_
 rintro en w1 ⟨L,rfl,hd,hb1,hs⟩
 have HO:=aa (dr (ps:=[]) hd (Fits13.make (by omega)) rfl (fun p hp=>by cases hp))
 have HB1:=aa hb1
 have HLS:=aa hs
 obtain ⟨bc,hbc⟩:∃b,L.b=b:=⟨_,rfl⟩
 rw [hbc] at HO ⊢
 clear hd hb1 hs hbc HN
 go_wp2_with fail
 refine HO.out.mono ?_
 rintro en w2 ⟨jb,sb,y,rfl,⟨hj,hsb⟩,hst, -,hb2⟩
 have HJ:=aa (show w.heap.size<=jb/\w.heap.size<=sb from ⟨Nat.le_trans HB1.out.size hj,Nat.le_trans HB1.out.size hsb⟩)
 have HST:=aa hst
 have HB2:=aa (HB1.out.trans (hb2.mono HB1.out.size))
 have HYP:=aa (show y.p=cZ from hst.known)
 have hfe:y.fe=0:=by
  have:=congrArg StaP.fe HYP.out
  exact this
 have HF1:=aa (iX (KnowsAt.live hst.box))
 rw [hfe] at HF1
 clear hj hsb hst hb2 hfe HO
 go_wp2_with (first|(go_at_call 68;refine HF1.out.mono ?_;rintro en w3 ⟨rfl,hb3⟩;(have HB3:=aa hb3);clear hb3)|(refine fq 54 _ (by rfl) (by rfl) #[(0, .int .u8 3),(5, .int .u64 7)] (by kernel_rfl) (rV 7 _) ?_))
 have HPU:=aa (sk (HST.out.below HB3.out) (gZ 7) (xW _ _) (by decide) (by decide))
 unfold pk at HPU
 rw [show gg ⟨0,0,[]⟩ (ip 64 6).n (ip 64 6).c y.p (gZ 7).p=0 from by rw [HYP.out];exact z8] at HPU
 refine HPU.out.mono ?_
 rintro en w4 ⟨rfl,y2,hyp2,L2,D2, -, -, -,hst2,hc2, -⟩
 rw [if_pos rfl,HYP.out] at hyp2
 have hfe2:y2.fe=7:=by
  have:=congrArg StaP.fe hyp2
  exact this.trans Cn
 have HF2:=aa (iX (KnowsAt.live hst2.box))
 rw [hfe2] at HF2
 have HB4:=aa (show Below w.heap.size w w4 from (HB2.out.trans (HB3.out.mono HB2.out.size)).trans (hc2.below (HB2.out.trans (HB3.out.mono HB2.out.size)).size (fun q hq=>by
  rcases hq with hq|hq|hq
  ·exact HLS.out q hq
  ·rw [hq];exact HJ.out.1
  ·rw [hq];exact HJ.out.2)))
 clear hyp2 hst2 hc2 hfe2 HPU HB3 HB2 HF1
 go_wp2_with (go_at_call 68;refine HF2.out.mono ?_;rintro en w5 ⟨rfl,hb5⟩;(have HB5:=aa hb5);clear hb5)
 go_ret
 exact ⟨rfl,HB4.out.trans (HB5.out.mono HB4.out.size)⟩
end Go.Proofs.YtnkjdijbfnmnhaaGreat
