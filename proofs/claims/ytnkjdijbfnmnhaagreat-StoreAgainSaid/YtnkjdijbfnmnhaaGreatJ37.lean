/-
  Texts of this claim put together: Clo14, Fol14, Fol14b, Law14, Rb14, Gr14, All14, Fl15, Mat14.
-/
import Derived.Test.YtnkjdijbfnmnhaaGreatJ36
import Derived.Test.YtnkjdijbfnmnhaaGreatJ11
import Derived.Test.YtnkjdijbfnmnhaaGreatJ03
import Derived.Deep.RegionHeld
import Derived.Test.YtnkjdijbfnmnhaaGreatJ35
import Derived.Test.YtnkjdijbfnmnhaaGreatJ34
import Derived.Test.YtnkjdijbfnmnhaaGreatJ31
import Derived.Test.YtnkjdijbfnmnhaaGreatJ22
import Derived.Deep.DeepCutAuto
import Derived.Test.YtnkjdijbfnmnhaaGreatJ25
import Derived.Test.YtnkjdijbfnmnhaaGreatJ04

namespace Go.Proofs.YtnkjdijbfnmnhaaGreat
set_option maxRecDepth 100000
set_option maxHeartbeats 12800000
open Go.RowKit

theorem gV (x:CfM) (B:Nat) (w:World) (hx:CfM.ok w B x) (hB:B<=w.heap.size) :
  Calls Tryz.prog 150 #[x.v] w fun e w'=>∃y:CfM,e = .returned y.v/\y.p=x.p/\CFresh w' (w.heap.size+2) y/\Below w.heap.size w w':=by
 obtain ⟨C,⟨oA,oc,ol⟩,⟨nA,nc,nl⟩⟩:=x
 have HLO:=aa (fun (u:World) (hb:Below w.heap.size w u)=>(hx.2.1.2.below (hb.mono hB):Sees u B oA (bv ol)))
 have HLN:=aa (fun (u:World) (hb:Below w.heap.size w u)=>(hx.2.2.2.below (hb.mono hB):Sees u B nA (bv nl)))
 have HNUM:=aa (show C<18446744073709551616/\ol.length<=100/\nl.length<=100 from ⟨hx.1,hx.2.1.1,hx.2.2.1⟩)
 simp only [CfM.v,cfV,NdM.v]
 obtain ⟨n1,hn1⟩:∃n,ol.length=n:=⟨_,rfl⟩
 obtain ⟨n2,hn2⟩:∃n,nl.length=n:=⟨_,rfl⟩
 have HN1:=aa hn1
 have HN2:=aa hn2
 rw [hn1,hn2]
 clear hx hn1 hn2
 obtain ⟨W,hW⟩:∃W,(w.alloc (.cells #[.int .u64 C, .slice oA n1 oc, .slice nA n2 nc] 52)).alloc (.cells #[.int .u64 0, .slice none 0 0, .slice none 0 0] 52)=W:=⟨_,rfl⟩
 have HW:=aa (show Below w.heap.size w W from hW ▸ ((Below.refl _ _).alloc (Nat.le_refl _) _).alloc (by simp) _)
 have HX:=aa (show BoxAt W w.heap.size #[.int .u64 C, .slice oA n1 oc, .slice nA n2 nc] 52 from hW ▸ (BoxAt.new w #[.int .u64 C, .slice oA n1 oc, .slice nA n2 nc] 52).alloc _)
 have HY:=aa (show BoxAt W (w.heap.size+1) #[.int .u64 0, .slice none 0 0, .slice none 0 0] 52 from by
  have h:=BoxAt.new (w.alloc (.cells #[.int .u64 C, .slice oA n1 oc, .slice nA n2 nc] 52)) #[.int .u64 0, .slice none 0 0, .slice none 0 0] 52
  rw [hW] at h
  simpa using h)
 have HSZ:=aa (show W.heap.size=w.heap.size+2 from by rw [<- hW];simp)
 have HWE:=aa hW
 clear hW
 go_enter Tryz.func150,Tryz.ntmps150
 go_upto_region 1 with fail
 rw [HWE.out]
 have HSS:=aa (fun (u:World) (h:Below W.heap.size W u)=>(show ∀i:Nat,u.cell? ⟨w.heap.size,i,none⟩=(#[.int .u64 C, .slice oA n1 oc, .slice nA n2 nc] : Array Value)[i]? from (HX.out.below h).cell))
 have HD:=aa (show Below W.heap.size W W.drew from (Below.refl _ _).drew)
 refine wp_region_held_drew (S:=fun u=>∀i:Nat,u.cell? ⟨w.heap.size,i,none⟩=(#[.int .u64 C, .slice oA n1 oc, .slice nA n2 nc] : Array Value)[i]?) (by kernel_rfl) (HSS.out _ HD.out) (fun hHeld => ?_)
 refine tkY 0 3 ?v1 rfl ?hy1 (by assumption) ?rest1
 case hy1=>intro w hSw;(try dsimp only at hSw);go_simp <;> with_reducible rfl
 simp only [Act.put,sTI,sT0,sT1]
 refine tkY 1 4 ?v2 rfl ?hy2 (by assumption) ?rest2
 case hy2=>intro w hSw;(try dsimp only at hSw);go_simp <;> with_reducible rfl
 simp only [Act.put,sTI,sT0,sT1]
 refine tkY 2 5 ?v3 rfl ?hy3 (by assumption) ?rest3
 case hy3=>intro w hSw;(try dsimp only at hSw);go_simp <;> with_reducible rfl
 simp only [Act.put,sTI,sT0,sT1]
 refine tkY 3 6 ?v4 rfl ?hy4 (by assumption) ?rest4
 case hy4=>intro w hSw;(try dsimp only at hSw);go_simp <;> with_reducible rfl
 simp only [Act.put,sTI,sT0,sT1]
 refine tkY 5 8 ?v5 rfl ?hy5 (by assumption) ?rest5
 case hy5=>intro w hSw;(try dsimp only at hSw);go_simp <;> with_reducible rfl
 simp only [Act.put,sTI,sT0,sT1]
 refine tkY 6 9 ?v6 rfl ?hy6 (by assumption) ?rest6
 case hy6=>intro w hSw;(try dsimp only at hSw);go_simp <;> with_reducible rfl
 simp only [Act.put,sTI,sT0,sT1]
 refine wpAnyH_ready (rs:=[4]) (by kernel_rfl) (by simp) ?_
 refine AllReadyH.cons rfl (fun K hK => ?_) AllReadyH.nil
 go_simp
 go_wp2_with fail
 refine (fF ol B oA n1 oc _ HN1.out (by have:=HNUM.out;have:=HN1.out;omega) (HLO.out _ (HW.out.trans (HD.out.mono HW.out.size))) (Nat.le_trans hB (HW.out.trans (HD.out.mono HW.out.size)).size)).mono ?_
 rintro en u1 ⟨A1,c1,rfl,ho1,hb1⟩
 have HU1:=aa (HD.out.trans (hb1.mono HD.out.size))
 have HO1:=aa (az ho1 HD.out.size)
 clear ho1 hb1
 refine hK.out _ _ (HSS.out _ HU1.out) (fun hHeld => ?_)
 clear hK K
 refine wpAnyH_ready (rs:=[7]) (by kernel_rfl) (by simp) ?_
 refine AllReadyH.cons rfl (fun K hK => ?_) AllReadyH.nil
 go_simp
 go_wp2_with fail
 refine (fF nl B nA n2 nc _ HN2.out (by have:=HNUM.out;have:=HN2.out;omega) (HLN.out _ (HW.out.trans (HU1.out.mono HW.out.size))) (Nat.le_trans hB (HW.out.trans (HU1.out.mono HW.out.size)).size)).mono ?_
 rintro en u2 ⟨A2,c2,rfl,ho2,hb2⟩
 have HU2:=aa (HU1.out.trans (hb2.mono HU1.out.size))
 have HO2:=aa (az ho2 HU1.out.size)
 have HO12:=aa (ao HO1.out hb2)
 clear ho2 hb2
 refine hK.out _ _ (HSS.out _ HU2.out) (fun hHeld => ?_)
 clear hK K
 refine tkY 8 11 (.agg #[.int .u64 C, .slice A1 n1 c1, .slice A2 n2 c2]) rfl ?hy7 (by assumption) ?rest7
 case hy7=>intro w hSw;first|kernel_rfl|(go_simp <;> with_reducible rfl)
 simp only [Act.put,sTI,sT0,sT1]
 refine wpAnyH_ready (rs:=[9]) (by kernel_rfl) (by simp) ?_
 refine AllReadyH.cons rfl (fun K hK => ?_) AllReadyH.nil
 have HY2:=aa (HY.out.below HU2.out)
 have HX2:=aa (HX.out.below HU2.out)
 refine cC 52 (by rfl) _ _ (by rfl) aW (by rfl) (by rfl) (cs := #[.int .u64 C, .slice A1 n1 c1, .slice A2 n2 c2]) (by rfl) (by rfl) (by simp [Value.oneCell']) HY2.out (by rfl) ?_ (by rfl)
 intro W6 HB6 HG6 HZ6
 have HX6:=aa (show BoxAt W6 w.heap.size #[.int .u64 C, .slice oA n1 oc, .slice nA n2 nc] 52 from (HG6.out.block _ HX2.out.lt (fun e=>by injection e;omega)).trans HX2.out)
 refine hK.out _ _ HX6.out.cell (fun hHeld => ?_)
 clear hK K
 refine wpAnyH_done (by kernel_rfl) ?_ _
 clear hHeld
 go_wp2
 refine bodyPost_ret (aD aW da (by rfl) (by rfl) HB6.out (by rfl)) rfl ?_
 have hs:=HSZ.out
 have far:∀ {n c:Nat} {A:Option Addr} {xs:List Value},u2.ownsRow W.heap.size 5 1 (.slice A n c) n xs->W6.ownsRow (w.heap.size+2) 5 1 (.slice A n c) n xs:=fun ho=>az (aM ho (fun e=>kl ho (by omega) e.symm) HG6.out) (by omega)
 obtain ⟨h1,h2,h3⟩:=HNUM.out
 refine ⟨⟨C,⟨A1,c1,ol⟩,⟨A2,c2,nl⟩⟩,by simp only [HN1.out,HN2.out],rfl,⟨h1,⟨?_,h2⟩,⟨?_,h3⟩⟩,?_⟩
 ·simp only [HN1.out]
  exact far HO12.out
 ·simp only [HN2.out]
  exact far HO2.out
 ·have hb:=HW.out.trans (HU2.out.mono HW.out.size)
  exact hb.grown HG6.out hb.size (fun k hk=>by injection hk with hk;omega)

theorem DP (s:StaM) {i:Nat} {r:RegM} (h:r.p=(s.f i).r.p):(s.setR i r).p=s.p:=by
 unfold StaM.setR StaM.setF StaM.p
 simp only
 congr 1
 funext j
 by_cases e:j=i
 ·subst e
  rw [if_pos rfl]
  unfold SlotM.p
  simp only [h]
 ·rw [if_neg e]

theorem cD (s:StaM) (B:Nat) (w:World) (hs:StaM.good w B s) (hB:B<=w.heap.size) :
  Calls Tryz.prog 88 #[s.v] w fun e w'=>∃y:StaM,e = .returned y.v/\y.p=s.p/\StaM.fresh w' (w.heap.size+2) y/\Below w.heap.size w w':=by
 have HS:=aa hs
 have HV:=aa (show s.v = .agg s.box from rfl)
 have HSZ:=aa s.box_size
 obtain ⟨V,hV⟩:∃V,s.v=V:=⟨_,rfl⟩
 rw [hV] at HV ⊢
 obtain ⟨X,hX⟩:∃X,s.box=X:=⟨_,rfl⟩
 rw [hX] at HV HSZ
 have HXE:=aa hX
 clear hs hV hX
 go_enter Tryz.func88,Tryz.ntmps88
 go_upto_region 0 with fail
 refine wp_region_lit ?_
 refine aw 75 (by rfl) _ (by rfl) (by rfl) HV.out ?_
 intro W0 HX0 HB0 HZ0
 simp only [Act.put,List.setIfInBounds_toArray,List.set_cons_zero,List.set_cons_succ]
 refine aq 75 (by rfl) (by rfl) bC ?_
 intro W1 HY1 HB1 HZ1
 simp only [Act.put,List.setIfInBounds_toArray,List.set_cons_zero,List.set_cons_succ]
 have hsz:W0.heap.size=w.heap.size+1:=HZ0.out
 rw [hsz] at HY1 HB1 HZ1 ⊢
 have HX1:=aa (HX0.out.below (by rw [hsz];exact HB1.out))
 rw [HXE.out.symm] at HX1
 have HW1:=aa (HB0.out.trans (HB1.out.mono (by omega)))
 have HSZ1:=aa (show W1.heap.size=w.heap.size+2 from by rw [HZ1.out])
 obtain ⟨z,hz⟩:∃z,w.heap.size=z:=⟨_,rfl⟩
 have HZE:=aa hz
 rw [hz] at HX1 HY1 HSZ1 ⊢
 clear HX0 HB0 HZ0 HB1 HZ1 hsz hz
 go_upto_region 2 with fail
 go_loopw [3,4] (fun _ i wr=>∃(k:Nat) (y:StaM),k<=16/\i = .int .i64 k/\Hid (y.p=s.p)/\Hid ((∀j,j<k->(y.f j).num/\Fresh wr (z+2) (y.f j).r/\(y.f j).r.few)/\(∀j,k<=j->y.f j=s.f j)/\y.fe=s.fe/\y.li=s.li/\y.cf=s.cf)/\Hid (BoxAt wr z y.box 75)/\Hid (BoxAt wr (z+1) zeroSt.box 75)/\Hid (Below w.heap.size w wr)) (fun _ i _=>16 - (intOf i).toNat)
 case atStart=>exact ⟨0,s,Nat.zero_le _,rfl,aa rfl,aa ⟨fun j hj=>absurd hj (by omega),fun j _=>rfl,rfl,rfl,rfl⟩,HX1,HY1,HW1⟩
 case round =>
  obtain ⟨k,y,hk,rfl,HP,HI,HX,HY,HB⟩:=hrel
  by_cases hlt:k<16
  ·have hzl:z<wr.heap.size:=HX.out.lt
   have hyr:(y.f k).r=(s.f k).r:=by rw [HI.out.2.1 k (Nat.le_refl _)]
   have hgd:=(HS.out.sl k hlt).1
   have hfw:=(HS.out.sl k hlt).2
   have HCL:=aa (iG (s.f k).r B wr (reg_stable.below hgd.2 (HB.out.mono hB)) (Nat.le_trans hB HB.out.size) hfw.1.1 hfw.1.2.1 hfw.1.2.2.1 hfw.1.2.2.2 hfw.2)
   have HGET:=aa (y.reg_get hlt)
   rw [hyr] at HGET
   obtain ⟨r0,hr0⟩:∃r,(s.f k).r=r:=⟨_,rfl⟩
   rw [hr0] at HCL HGET
   have HR0:=aa (show (y.f k).r=r0 from hyr.trans hr0)
   have HFEW:=aa (hr0 ▸ hfw:r0.few)
   have HNUM:=aa (show (y.f k).num from by rw [HI.out.2.1 k (Nat.le_refl _)];exact hgd.1)
   have hk15:(k:Int) * 15=((k * 15:Nat):Int):=by omega
   obtain ⟨V0,hV0⟩:∃V,r0.v=V:=⟨_,rfl⟩
   have HV0:=aa (show V0 = .agg r0.cs.toArray from hV0.symm)
   rw [hV0] at HCL
   have HYS:=aa y.box_size
   clear hyr hgd hfw hr0 hV0
   go_upto_region 4 with fail
   go_wp2_with (refine bi 31 (by rfl) _ (by rfl) j8 wC HX.out (by rfl) HGET.out (by rfl) ?_;rw [<- HV0.out])
   refine HCL.out.mono ?_
   rintro en w2 ⟨x,rfl,hxp,hfr,hb2⟩
   have HX2:=aa (HX.out.below hb2)
   have HY2:=aa (HY.out.below hb2)
   have HB2:=aa (HB.out.trans (hb2.mono HB.out.size))
   have HFR:=aa hfr
   have HXP:=aa hxp
   have HWR:=aa (show z+2<=wr.heap.size from by have:=HY.out.lt;omega)
   have HBL:=aa hb2
   obtain ⟨V2,hV2⟩:∃V,x.v=V:=⟨_,rfl⟩
   rw [hV2]
   have HV2:=aa (show V2 = .agg x.cs.toArray from hV2.symm)
   have hzl2:z<w2.heap.size:=HX2.out.lt
   have HONE:=aa (show x.cs.toArray.all (·.oneCell')=true from by simp [RegM.cs,Sl.v,Value.oneCell'])
   have HSET:=aa (y.reg_set hlt x)
   clear hb2 hfr hxp hV2 hzl
   go_wp2_with (refine bu 31 (by rfl) _ _ (by rfl) j8 (by rfl) (by rfl) HV2.out (by rfl) HONE.out HX2.out (by rw [HYS.out];omega) ?_;intro W6 HX6 HG6 HZ6)
   go_roundw
   case rel =>
    have hx6:=HX6.out
    rw [HSET.out] at hx6
    refine ⟨k+1,y.setR k x,by omega,by go_num,aa ((DP y (by rw [HXP.out,HR0.out])).trans HP.out),aa ⟨fun j hj => ?_,fun j hj => ?_,HI.out.2.2⟩,aa hx6,aa ((HG6.out.block _ HY2.out.lt (fun e=>by injection e;omega)).trans HY2.out),aa (HB2.out.grown HG6.out HB2.out.size (fun q hq=>by injection hq with hq;have:=HZE.out;omega))⟩
    ·by_cases e:j=k
     ·subst e
      have hfx:(y.setR j x).f j={ y.f j with r:=x }:=if_pos rfl
      rw [hfx]
      refine ⟨HNUM.out,?_,?_⟩
      ·refine (Aside14.less HFR.out (show z+2<=wr.heap.size+2 from by have:=HWR.out;omega)).other14 HG6.out (by omega)
      ·have hp:=HXP.out
       unfold RegM.p at hp
       simp only [RegP.mk.injEq] at hp
       obtain ⟨_,_,_,e1,e2,e3,_,e4⟩:=hp
       have hf:=HFEW.out
       refine ⟨⟨by rw [e1];exact hf.1.1,?_,by rw [e3];exact hf.1.2.2.1,by rw [e4];exact hf.1.2.2.2⟩,fun d hd => ?_⟩
       ·have:=congrArg List.length e2
        simp only [List.length_map] at this
        rw [this]
        exact hf.1.2.1
       ·have hm:d.p∈r0.dn.l.map DoneM.p:=by rw [<- e2];exact List.mem_map_of_mem hd
        obtain ⟨d0,hd0,he⟩:=List.mem_map.1 hm
        have:=hf.2 d0 hd0
        have e5:d0.va.l=d.va.l:=by
         unfold DoneM.p at he
         simp only [Prod.mk.injEq] at he
         exact he.2.2.2.2.2
        rw [<- e5]
        exact this
     ·have hfj:(y.setR k x).f j=y.f j:=if_neg e
      rw [hfj]
      obtain ⟨g1,g2,g3⟩:=HI.out.1 j (by omega)
      exact ⟨g1,(g2.below HBL.out).other14 HG6.out (by omega),g3⟩
    ·have hfj:(y.setR k x).f j=y.f j:=if_neg (by omega)
     rw [hfj]
     exact HI.out.2.1 j (by omega)
   case measure=>simp [intOf];omega
  ·have hk16:16=k:=by omega
   subst hk16
   have HCC:=aa (gV s.cf B wr (HS.out.cf.below (HB.out.mono hB)) (Nat.le_trans hB HB.out.size))
   have HGET:=aa y.cf_get
   rw [HI.out.2.2.2.2] at HGET
   obtain ⟨V0,hV0⟩:∃V,s.cf.v=V:=⟨_,rfl⟩
   have HV0:=aa (show V0 = .agg s.cf.cs.toArray from hV0.symm)
   rw [hV0] at HCC
   have HYS:=aa y.box_size
   have hzl:z<wr.heap.size:=HX.out.lt
   clear hV0
   go_wp2_with (refine bi 52 (by rfl) _ (by rfl) aW da HX.out (by rfl) HGET.out (by rfl) ?_;rw [<- HV0.out])
   refine HCC.out.mono ?_
   rintro en w2 ⟨x,rfl,hxp,hfr,hb2⟩
   have HX2:=aa (HX.out.below hb2)
   have HY2:=aa (HY.out.below hb2)
   have HB2:=aa (HB.out.trans (hb2.mono HB.out.size))
   have HFR:=aa hfr
   have HXP:=aa hxp
   have HWR:=aa (show z+2<=wr.heap.size from by have:=HY.out.lt;omega)
   have HBL:=aa hb2
   obtain ⟨V2,hV2⟩:∃V,x.v=V:=⟨_,rfl⟩
   rw [hV2]
   have HV2:=aa (show V2 = .agg x.cs.toArray from hV2.symm)
   have hzl2:z<w2.heap.size:=HX2.out.lt
   have HONE:=aa (show x.cs.toArray.all (·.oneCell')=true from by simp [CfM.cs,NdM.v,Value.oneCell'])
   have HSET:=aa (y.cf_set x)
   have HZB:=aa zeroSt.box_size
   clear hb2 hfr hxp hV2 hzl
   go_upto_region 7 with (refine bu 52 (by rfl) _ _ (by rfl) aW (by rfl) (by rfl) HV2.out (by rfl) HONE.out HX2.out (by rw [HYS.out];omega) ?_;intro W6 HX6 HG6 HZ6)
   have HX7:=aa HX6.out
   rw [HSET.out] at HX7
   have HY6:=aa (show BoxAt W6 (z+1) zeroSt.box 75 from (HG6.out.block _ HY2.out.lt (fun e=>by injection e;omega)).trans HY2.out)
   obtain ⟨y2,hy2⟩:∃y2:StaM,{ y with cf:=x }=y2:=⟨_,rfl⟩
   rw [hy2] at HX7
   have HY2S:=aa y2.box_size
   have HY2O:=aa y2.one
   have HY2E:=aa hy2
   clear hy2 HX6
   go_wp2_with (first|(refine ak 75 (by rfl) _ (by rfl) am aJ HX7.out (by rfl) HY2S.out ?_)|(refine ai 75 (by rfl) _ _ (by rfl) am (by rfl) (by rfl) (cs:=y2.box) (by rfl) HY2S.out HY2O.out HY6.out HZB.out ?_;intro W8 HX8 HG8 HZ8))
   refine bodyPost_ret (aD am aJ (by rfl) (by rfl) HX8.out HY2S.out) rfl ?_
   have hze:=HZE.out
   refine ⟨y2,rfl,?_,?_,?_⟩
   ·rw [<- HY2E.out]
    have h1:=HP.out
    unfold StaM.p at h1 ⊢
    simp only [StaP.mk.injEq] at h1 ⊢
    exact ⟨h1.1,h1.2.1,h1.2.2.1,HXP.out⟩
   ·rw [hze,<- HY2E.out]
    refine ⟨fun i hi => ?_,?_,?_,?_⟩
    ·obtain ⟨g1,g2,g3⟩:=HI.out.1 i (by omega)
     exact ⟨g1,((g2.below HBL.out).other14 HG6.out (by omega)).other14 HG8.out (by omega),g3⟩
    ·show N64 y.fe
     rw [HI.out.2.2.1]
     exact HS.out.fe
    ·show N32 y.li
     rw [HI.out.2.2.2.1]
     exact HS.out.li
    ·have hf:=HFR.out
     have hw:=HWR.out
     have hl:CFresh w2 (z+2) x:=⟨hf.1,⟨az hf.2.1.1 (by omega),hf.2.1.2⟩,⟨az hf.2.2.1 (by omega),hf.2.2.2⟩⟩
     exact (hl.grown HG6.out (fun q e=>by injection e with e;omega)).grown HG8.out (fun q e=>by injection e with e;omega)
   ·refine (HB2.out.grown HG6.out HB2.out.size (fun q hq=>by injection hq with hq;omega)).grown HG8.out ?_ (fun q hq=>by injection hq with hq;omega)
    rw [HZ6.out]
    exact HB2.out.size

def lz (m:RecM):SlotM:=⟨true,m.pc,m.pn,m.pl,m.ac,m.an,m.al,m.r⟩
def dE (p:RecP):SlotP:=⟨true,p.pc,p.pn,p.pl,p.ac,p.an,p.al,p.r⟩
def StaP.setF (s:StaP) (i:Nat) (x:SlotP):StaP:={ s with f:=fun j=>if j=i then x else s.f j }
def doP (s:StaP) (p:RecP):StaP :=
 if p.ki=1 then s.setF p.ke (dE p)
 else if p.ki=2 then s.setF p.ke eX
 else if p.ki=3 then { s with fe:=max s.fe p.fe }
 else if p.ki=4 then { s with li:=p.li }
 else if p.ki=5 then { s with cf:=p.cf }
 else s
def foldP (s:StaP) (p:RecP):StaP:=if mayR p=true then doP s p else s
def doM (s:StaM) (m:RecM):StaM :=
 if m.ki=1 then s.setF m.ke (lz m)
 else if m.ki=2 then s.setF m.ke zeroSl
 else if m.ki=3 then { s with fe:=max s.fe m.fe }
 else if m.ki=4 then { s with li:=m.li }
 else if m.ki=5 then { s with cf:=m.cf }
 else s
def oQ (s:StaM) (m:RecM):StaM:=if mayR m.p=true then doM s m else s
theorem rK (s:StaM) (i:Nat) (x:SlotM):(s.setF i x).p=s.p.setF i x.p:=by
 unfold StaM.setF StaP.setF StaM.p
 simp only
 congr 1
 funext j
 split <;> rfl
theorem EX (s:StaM) (m:RecM):(doM s m).p=doP s.p m.p:=by
 unfold doM doP
 show _=if m.ki=1 then _ else if m.ki=2 then _ else if m.ki=3 then _ else if m.ki=4 then _ else if m.ki=5 then _ else _
 split
 ·exact rK _ _ _
 split
 ·exact rK _ _ _
 split
 ·rfl
 split
 ·rfl
 split <;> rfl
theorem BM (s:StaM) (m:RecM):(oQ s m).p=foldP s.p m.p:=by
 unfold oQ foldP
 split
 ·exact EX s m
 ·rfl

theorem ko {p:RecP} (h:mayR p=true):p.ki=1∨p.ki=2∨p.ki=3∨p.ki=4∨p.ki=5:=by
 unfold mayR iJ at h
 rw [Bool.and_eq_true] at h
 by_cases k1:p.ki=1
 ·exact .inl k1
 by_cases k2:p.ki=2
 ·exact .inr (.inl k2)
 by_cases k3:p.ki=3
 ·exact .inr (.inr (.inl k3))
 by_cases k4:p.ki=4
 ·exact .inr (.inr (.inr (.inl k4)))
 by_cases k5:p.ki=5
 ·exact .inr (.inr (.inr (.inr k5)))
 rw [if_neg k1,if_neg k2,if_neg k3,if_neg k4,if_neg k5] at h
 exact absurd h.2 (by decide)
theorem ng {p:RecP} (h:mayR p=true) (hk:p.ki=1∨p.ki=2):p.ke<16:=by
 unfold mayR iJ at h
 rw [Bool.and_eq_true] at h
 rcases hk with hk|hk
 ·rw [if_pos hk,Bool.and_eq_true] at h
  exact of_decide_eq_true h.2.1
 ·rw [if_neg (by omega),if_pos hk] at h
  exact of_decide_eq_true h.2

structure RecM.tame (w:World) (B:Nat) (m:RecM):Prop where
 g:RecM.good w B m
 f:m.r.few

theorem qz {w:World} {row:Option Nat} {s:StaM} {m:RecM} (hs:SAside w row s) (h1:m.ok') (hf:m.r.few) (hr:RAside w row m.r) (hc:CAside w row m.cf):SAside w row (oQ s m):=fun u hu=>by
 have g:=hs u hu
 obtain ⟨hk,hp,ha,hfe,hli⟩:=h1
 unfold oQ
 split
 ·unfold doM
  split
  ·refine ⟨fun i hi => ?_,g.fe,g.li,g.cf⟩
   by_cases e:i=m.ke
   ·rw [show (s.setF m.ke (lz m)).f i=lz m from if_pos e]
    exact ⟨⟨⟨hp,ha⟩,hr u hu⟩,hf⟩
   ·rw [show (s.setF m.ke (lz m)).f i=s.f i from if_neg e]
    exact g.sl i hi
  split
  ·refine ⟨fun i hi => ?_,g.fe,g.li,g.cf⟩
   by_cases e:i=m.ke
   ·rw [show (s.setF m.ke zeroSl).f i=zeroSl from if_pos e]
    exact (gw u u.heap.size).sl i hi
   ·rw [show (s.setF m.ke zeroSl).f i=s.f i from if_neg e]
    exact g.sl i hi
  split
  ·refine ⟨g.sl,?_,g.li,g.cf⟩
   have:=g.fe
   unfold N64 at *
   show max s.fe m.fe<_
   omega
  split
  ·exact ⟨g.sl,g.fe,hli,g.cf⟩
  split
  ·exact ⟨g.sl,g.fe,g.li,hc u hu⟩
  ·exact g
 ·exact g


theorem Aq {x r:RegM} (h:x.p=r.p) (hf:r.few):x.few:=by
 unfold RegM.p at h
 simp only [RegP.mk.injEq] at h
 obtain ⟨_,_,_,e1,e2,e3,_,e4⟩:=h
 refine ⟨⟨by rw [e1];exact hf.1.1,?_,by rw [e3];exact hf.1.2.2.1,by rw [e4];exact hf.1.2.2.2⟩,fun d hd => ?_⟩
 ·have:=congrArg List.length e2
  simp only [List.length_map] at this
  rw [this]
  exact hf.1.2.1
 ·have hm:d.p∈r.dn.l.map DoneM.p:=by rw [<- e2];exact List.mem_map_of_mem hd
  obtain ⟨d0,hd0,he⟩:=List.mem_map.1 hm
  have:=hf.2 d0 hd0
  have e5:d0.va.l=d.va.l:=by
   unfold DoneM.p at he
   simp only [Prod.mk.injEq] at he
   exact he.2.2.2.2.2
  rw [<- e5]
  exact this
theorem few_zero:zeroM.few:=by simp [RegM.few,zeroM]
theorem iO (w:World) (lo:Nat):Fresh w lo zeroM :=
 ⟨(bA w 0).1,⟨World.ownsRow_nil _ _ _ _,by simp [zeroM]⟩,World.ownsRow_nil _ _ _ _,by simp [zeroM],World.ownsRow_nil _ _ _ _,by simp [zeroM],World.ownsRow_nil _ _ _ _,by simp [zeroM]⟩

theorem StaM.fresh.setF {w:World} {lo:Nat} {s:StaM} (h:StaM.fresh w lo s) (i:Nat) (x:SlotM) (h1:x.num) (h2:Fresh w lo x.r) (h3:x.r.few):StaM.fresh w lo (s.setF i x) :=
 ⟨fun j hj=>by
  by_cases e:j=i
  ·rw [show (s.setF i x).f j=x from if_pos e]
   exact ⟨h1,h2,h3⟩
  ·rw [show (s.setF i x).f j=s.f j from if_neg e]
   exact h.sl j hj,h.fe,h.li,h.cf⟩

def eh (s:StaM) (q:RecP) (w:World) (e:Ending) (w':World):Prop:=∃s':StaM,e = .returned s'.v/\s'.p=foldP s.p q/\StaM.fresh w' w.heap.size s'/\Below w.heap.size w w'

theorem wK (s:StaM) (m:RecM) (B:Nat) (w:World) (hs:StaM.good w B s) (hm:RecM.tame w B m) (hB:B<=w.heap.size) (hy:mayR m.p=false):Calls Tryz.prog 83 #[s.v,m.v] w (eh s m.p w):=by
 have HM:=aa (fun (u:World) (h:Below w.heap.size w u)=>cJ m w.heap.size u ((hm.g.more hB).below h) h.size)
 have HCL:=aa (fun (u:World) (h:Below w.heap.size w u)=>cD s w.heap.size u ((hs.more hB).below h) h.size)
 rw [hy] at HM
 have HNUM:=aa hm.g.1
 have HDO:=aa (fun t:StaP=>show foldP t m.p=t from by unfold foldP;rw [if_neg (by rw [hy];decide)])
 clear hy
 obtain ⟨R,hR⟩:∃R,eh s m.p w=R:=⟨_,rfl⟩
 rw [hR]
 have HFD:=aa (fun (e:Ending) (w':World) (s':StaM) (h1:e = .returned s'.v) (h2:s'.p=foldP s.p m.p) (h3:StaM.fresh w' w.heap.size s') (h4:Below w.heap.size w w')=>show R e w' from by rw [<- hR];exact ⟨s',h1,h2,h3,h4⟩)
 obtain ⟨mp,hmp⟩:∃x,m.p=x:=⟨_,rfl⟩
 rw [hmp] at HDO HFD
 clear hR hmp
 have HV:=aa (show s.v = .agg s.box from rfl)
 have HSZ:=aa s.box_size
 obtain ⟨V,hV⟩:∃V,s.v=V:=⟨_,rfl⟩
 rw [hV] at HV ⊢
 simp only [hV] at HCL
 clear hV
 obtain ⟨V2,hV2⟩:∃V,m.v=V:=⟨_,rfl⟩
 simp only [hV2] at HM ⊢
 obtain ⟨ki,ke,pc,pn,pl,ac,an,al,⟨rk,inc,st,⟨vA,vc,vl⟩,⟨dA,dc,dl⟩,⟨oA,oc,ol⟩,la,⟨mA,mc,ml⟩⟩,fe,li,⟨C,⟨xA,xc,xl⟩,⟨yA,yc,yl⟩⟩⟩:=m
 have HV2:=aa (show V2 = .agg #[.int .u8 ki, .int .u8 ke, .int .u64 pc, .int .u8 pn, .int .u32 pl, .int .u64 ac, .int .u8 an, .int .u32 al, .int .u8 rk, .int .u64 inc, .int .i64 st, .slice vA vl.length vc, .slice dA dl.length dc, .slice oA ol.length oc, .int .u64 la, .slice mA ml.length mc, .int .u64 fe, .int .u32 li, .int .u64 C, .slice xA xl.length xc, .slice yA yl.length yc] from hV2.symm)
 clear hV2 hs hm
 go_enter Tryz.func83,Tryz.ntmps83
 go_upto_region 0 with fail
 refine wp_region_lit ?_
 refine aw 75 (by rfl) _ (by rfl) (by rfl) HV.out ?_
 intro W0 HX0 HB0 HZ0
 simp only [Act.put,List.setIfInBounds_toArray,List.set_cons_zero,List.set_cons_succ]
 refine aw 54 (by rfl) _ (by rfl) (by rfl) HV2.out ?_
 intro W1 HR1 HB1 HZ1
 simp only [Act.put,List.setIfInBounds_toArray,List.set_cons_zero,List.set_cons_succ]
 refine aq 75 (by rfl) (by rfl) bC ?_
 intro W2 HY2 HB2 HZ2
 simp only [Act.put,List.setIfInBounds_toArray,List.set_cons_zero,List.set_cons_succ]
 have hz1:=HZ0.out
 have hz2:=HZ1.out
 have hz3:=HZ2.out
 rw [hz1] at hz2
 rw [hz2] at hz3
 have HX2:=aa ((HX0.out.below HB1.out).below HB2.out)
 have HR2:=aa (HR1.out.below HB2.out)
 have HW2:=aa ((HB0.out.trans (HB1.out.mono HB0.out.size)).trans (HB2.out.mono (HB0.out.trans (HB1.out.mono HB0.out.size)).size))
 obtain ⟨z,hz⟩:∃z,w.heap.size=z:=⟨_,rfl⟩
 obtain ⟨z1,hz1'⟩:∃z,W0.heap.size=z:=⟨_,rfl⟩
 obtain ⟨z2,hz2'⟩:∃z,W1.heap.size=z:=⟨_,rfl⟩
 have HZS:=aa (show z1=z+1/\z2=z+2/\W2.heap.size=z+3 from by omega)
 have HZE:=aa hz
 rw [hz] at HX2 ⊢
 rw [hz1'] at HR2 ⊢
 rw [hz2'] at HY2 ⊢
 clear HX0 HB0 HZ0 HR1 HB1 HZ1 HB2 HZ2 hz1 hz2 hz3 hz hz1' hz2'
 have hcx:=HR2.out.cell
 have hzz:z1<W2.heap.size:=HR2.out.lt
 have hzx:z<W2.heap.size:=HX2.out.lt
 go_wp2_with (refine ak 75 (by rfl) _ (by rfl) am aJ HX2.out (by rfl) HSZ.out ?_;rw [<- HV.out])
 refine (HCL.out _ HW2.out).mono ?_
 rintro en w3 ⟨y,rfl,hyp,hyf,hb3⟩
 have HYP:=aa hyp
 have HX3:=aa (HX2.out.below hb3)
 have HR3:=aa (HR2.out.below hb3)
 have HY3:=aa (HY2.out.below hb3)
 have HW3:=aa (HW2.out.trans (hb3.mono HW2.out.size))
 have HF3:=aa (hyf.less (show z+3<=W2.heap.size+2 from by have:=HZS.out;omega))
 have HYS:=aa y.box_size
 have HYO:=aa y.one
 have HYV:=aa (show y.v = .agg y.box from rfl)
 obtain ⟨VY,hVY⟩:∃V,y.v=V:=⟨_,rfl⟩
 rw [hVY] at HYV ⊢
 clear hVY hyp hyf hb3 hcx hzz hzx HCL HX2 HR2 HY2
 have hcx:=HR3.out.cell
 have hzz:z1<w3.heap.size:=HR3.out.lt
 have hzx:z<w3.heap.size:=HX3.out.lt
 go_upto_region 2 with (refine ai 75 (by rfl) _ _ (by rfl) am (by rfl) (by rfl) HYV.out HYS.out HYO.out HX3.out HSZ.out ?_;intro W4 HX4 HG4 HZ4)
 have HR4:=aa (show BoxAt W4 z1 #[.int .u8 ki, .int .u8 ke, .int .u64 pc, .int .u8 pn, .int .u32 pl, .int .u64 ac, .int .u8 an, .int .u32 al, .int .u8 rk, .int .u64 inc, .int .i64 st, .slice vA vl.length vc, .slice dA dl.length dc, .slice oA ol.length oc, .int .u64 la, .slice mA ml.length mc, .int .u64 fe, .int .u32 li, .int .u64 C, .slice xA xl.length xc, .slice yA yl.length yc] 54 from (HG4.out.block _ HR3.out.lt (fun e=>by injection e with e;have:=HZS.out;omega)).trans HR3.out)
 have HY4:=aa (show BoxAt W4 z2 zeroSt.box 75 from (HG4.out.block _ HY3.out.lt (fun e=>by injection e with e;have:=HZS.out;omega)).trans HY3.out)
 have HW4:=aa (HW3.out.grown HG4.out HW3.out.size (fun q hq=>by injection hq with hq;have:=HZE.out;omega))
 have HF4:=aa (HF3.out.grown HG4.out (fun q hq=>by injection hq with hq;omega))
 clear hcx hzz hzx HX3 HR3 HY3 HF3 HYO HYV HSZ
 have hcx:=HR4.out.cell
 have hzz:z1<W4.heap.size:=HR4.out.lt
 have hzx:z<W4.heap.size:=HX4.out.lt
 go_wp2_with (refine ak 54 (by rfl) _ (by rfl) au aH HR4.out (by rfl) (by rfl) ?_;rw [<- HV2.out])
 refine (HM.out _ HW4.out).mono ?_
 rintro en w5 ⟨rfl,hb5⟩
 have HX5:=aa (HX4.out.below hb5)
 have HR5:=aa (HR4.out.below hb5)
 have HY5:=aa (HY4.out.below hb5)
 have HW5:=aa (HW4.out.trans (hb5.mono HW4.out.size))
 have HF5:=aa (show StaM.fresh w5 (z+3) y from HF4.out.grown (row:=some z) (aP (World.grownBy.refl _ _) hb5) (fun q hq=>by injection hq with hq;omega))
 clear hb5 hcx hzz hzx HM HX4 HR4 HY4 HF4
 have hcx:=HR5.out.cell
 have hzz:z1<w5.heap.size:=HR5.out.lt
 have hzx:z<w5.heap.size:=HX5.out.lt
 have HQS:=aa (StaM.box_size (y))
 have HQO:=aa (StaM.one (y))
 have HZB:=aa zeroSt.box_size
 go_wp2_with (first|(refine ak 75 (by rfl) _ (by rfl) am aJ HX5.out (by rfl) HQS.out ?_)|(refine ai 75 (by rfl) _ _ (by rfl) am (by rfl) (by rfl) (cs:=StaM.box (y)) (by rfl) HQS.out HQO.out HY5.out HZB.out ?_;intro W8 HX8 HG8 HZ8))
 refine bodyPost_ret (aD am aJ (by rfl) (by rfl) HX8.out HQS.out) rfl ?_
 have hs:=HZS.out
 have hze:=HZE.out
 refine HFD.out _ _ y rfl (HYP.out.trans (HDO.out s.p).symm) ((HF5.out.grown HG8.out (fun q hq=>by injection hq with hq;omega)).less (by omega)) (HW5.out.grown HG8.out HW5.out.size (fun q hq=>by injection hq with hq;omega))

theorem wL (s:StaM) (m:RecM) (B:Nat) (w:World) (hs:StaM.good w B s) (hm:RecM.tame w B m) (hB:B<=w.heap.size) (hk:m.ki=1) (hy:mayR m.p=true):Calls Tryz.prog 83 #[s.v,m.v] w (eh s m.p w):=by
 have HM:=aa (fun (u:World) (h:Below w.heap.size w u)=>cJ m w.heap.size u ((hm.g.more hB).below h) h.size)
 have HCL:=aa (fun (u:World) (h:Below w.heap.size w u)=>cD s w.heap.size u ((hs.more hB).below h) h.size)
 rw [hy] at HM
 have HNUM:=aa hm.g.1
 have HCR:=aa (fun (u:World) (h:Below w.heap.size w u)=>iG m.r w.heap.size u (reg_stable.below (reg_stable.more hm.g.2.1 hB) h) h.size hm.f.1.1 hm.f.1.2.1 hm.f.1.2.2.1 hm.f.1.2.2.2 hm.f.2)
 have HFEW:=aa hm.f
 have HDO:=aa (fun t:StaP=>show foldP t m.p=t.setF m.ke (dE m.p) from by unfold foldP;rw [if_pos hy];unfold doP;  rw [if_pos (show m.p.ki=1 from hk)];rfl)
 have hke16:m.ke<16:=ng hy (.inl hk)
 clear hy
 obtain ⟨R,hR⟩:∃R,eh s m.p w=R:=⟨_,rfl⟩
 rw [hR]
 have HFD:=aa (fun (e:Ending) (w':World) (s':StaM) (h1:e = .returned s'.v) (h2:s'.p=foldP s.p m.p) (h3:StaM.fresh w' w.heap.size s') (h4:Below w.heap.size w w')=>show R e w' from by rw [<- hR];exact ⟨s',h1,h2,h3,h4⟩)
 obtain ⟨mp,hmp⟩:∃x,m.p=x:=⟨_,rfl⟩
 rw [hmp] at HDO HFD
 have HSP:=aa (show dE mp=(lz m).p from by rw [<- hmp];rfl)
 clear hR hmp
 have HV:=aa (show s.v = .agg s.box from rfl)
 have HSZ:=aa s.box_size
 obtain ⟨V,hV⟩:∃V,s.v=V:=⟨_,rfl⟩
 rw [hV] at HV ⊢
 simp only [hV] at HCL
 clear hV
 obtain ⟨V2,hV2⟩:∃V,m.v=V:=⟨_,rfl⟩
 simp only [hV2] at HM ⊢
 obtain ⟨ki,ke,pc,pn,pl,ac,an,al,⟨rk,inc,st,⟨vA,vc,vl⟩,⟨dA,dc,dl⟩,⟨oA,oc,ol⟩,la,⟨mA,mc,ml⟩⟩,fe,li,⟨C,⟨xA,xc,xl⟩,⟨yA,yc,yl⟩⟩⟩:=m
 have HV2:=aa (show V2 = .agg #[.int .u8 ki, .int .u8 ke, .int .u64 pc, .int .u8 pn, .int .u32 pl, .int .u64 ac, .int .u8 an, .int .u32 al, .int .u8 rk, .int .u64 inc, .int .i64 st, .slice vA vl.length vc, .slice dA dl.length dc, .slice oA ol.length oc, .int .u64 la, .slice mA ml.length mc, .int .u64 fe, .int .u32 li, .int .u64 C, .slice xA xl.length xc, .slice yA yl.length yc] from hV2.symm)
 clear hV2 hs hm
 simp only at hk
 subst hk
 go_enter Tryz.func83,Tryz.ntmps83
 go_upto_region 0 with fail
 refine wp_region_lit ?_
 refine aw 75 (by rfl) _ (by rfl) (by rfl) HV.out ?_
 intro W0 HX0 HB0 HZ0
 simp only [Act.put,List.setIfInBounds_toArray,List.set_cons_zero,List.set_cons_succ]
 refine aw 54 (by rfl) _ (by rfl) (by rfl) HV2.out ?_
 intro W1 HR1 HB1 HZ1
 simp only [Act.put,List.setIfInBounds_toArray,List.set_cons_zero,List.set_cons_succ]
 refine aq 75 (by rfl) (by rfl) bC ?_
 intro W2 HY2 HB2 HZ2
 simp only [Act.put,List.setIfInBounds_toArray,List.set_cons_zero,List.set_cons_succ]
 have hz1:=HZ0.out
 have hz2:=HZ1.out
 have hz3:=HZ2.out
 rw [hz1] at hz2
 rw [hz2] at hz3
 have HX2:=aa ((HX0.out.below HB1.out).below HB2.out)
 have HR2:=aa (HR1.out.below HB2.out)
 have HW2:=aa ((HB0.out.trans (HB1.out.mono HB0.out.size)).trans (HB2.out.mono (HB0.out.trans (HB1.out.mono HB0.out.size)).size))
 obtain ⟨z,hz⟩:∃z,w.heap.size=z:=⟨_,rfl⟩
 obtain ⟨z1,hz1'⟩:∃z,W0.heap.size=z:=⟨_,rfl⟩
 obtain ⟨z2,hz2'⟩:∃z,W1.heap.size=z:=⟨_,rfl⟩
 have HZS:=aa (show z1=z+1/\z2=z+2/\W2.heap.size=z+3 from by omega)
 have HZE:=aa hz
 rw [hz] at HX2 ⊢
 rw [hz1'] at HR2 ⊢
 rw [hz2'] at HY2 ⊢
 clear HX0 HB0 HZ0 HR1 HB1 HZ1 HB2 HZ2 hz1 hz2 hz3 hz hz1' hz2'
 simp only [RegM.v,Sl.v] at HCR
 have hcx:=HR2.out.cell
 have hzz:z1<W2.heap.size:=HR2.out.lt
 have hzx:z<W2.heap.size:=HX2.out.lt
 go_wp2_with (refine ak 75 (by rfl) _ (by rfl) am aJ HX2.out (by rfl) HSZ.out ?_;rw [<- HV.out])
 refine (HCL.out _ HW2.out).mono ?_
 rintro en w3 ⟨y,rfl,hyp,hyf,hb3⟩
 have HYP:=aa hyp
 have HX3:=aa (HX2.out.below hb3)
 have HR3:=aa (HR2.out.below hb3)
 have HY3:=aa (HY2.out.below hb3)
 have HW3:=aa (HW2.out.trans (hb3.mono HW2.out.size))
 have HF3:=aa (hyf.less (show z+3<=W2.heap.size+2 from by have:=HZS.out;omega))
 have HYS:=aa y.box_size
 have HYO:=aa y.one
 have HYV:=aa (show y.v = .agg y.box from rfl)
 obtain ⟨VY,hVY⟩:∃V,y.v=V:=⟨_,rfl⟩
 rw [hVY] at HYV ⊢
 clear hVY hyp hyf hb3 hcx hzz hzx HCL HX2 HR2 HY2
 have hcx:=HR3.out.cell
 have hzz:z1<w3.heap.size:=HR3.out.lt
 have hzx:z<w3.heap.size:=HX3.out.lt
 go_upto_region 2 with (refine ai 75 (by rfl) _ _ (by rfl) am (by rfl) (by rfl) HYV.out HYS.out HYO.out HX3.out HSZ.out ?_;intro W4 HX4 HG4 HZ4)
 have HR4:=aa (show BoxAt W4 z1 #[.int .u8 ((1:Nat):Int), .int .u8 ke, .int .u64 pc, .int .u8 pn, .int .u32 pl, .int .u64 ac, .int .u8 an, .int .u32 al, .int .u8 rk, .int .u64 inc, .int .i64 st, .slice vA vl.length vc, .slice dA dl.length dc, .slice oA ol.length oc, .int .u64 la, .slice mA ml.length mc, .int .u64 fe, .int .u32 li, .int .u64 C, .slice xA xl.length xc, .slice yA yl.length yc] 54 from (HG4.out.block _ HR3.out.lt (fun e=>by injection e with e;have:=HZS.out;omega)).trans HR3.out)
 have HY4:=aa (show BoxAt W4 z2 zeroSt.box 75 from (HG4.out.block _ HY3.out.lt (fun e=>by injection e with e;have:=HZS.out;omega)).trans HY3.out)
 have HW4:=aa (HW3.out.grown HG4.out HW3.out.size (fun q hq=>by injection hq with hq;have:=HZE.out;omega))
 have HF4:=aa (HF3.out.grown HG4.out (fun q hq=>by injection hq with hq;omega))
 clear hcx hzz hzx HX3 HR3 HY3 HF3 HYO HYV HSZ
 have hcx:=HR4.out.cell
 have hzz:z1<W4.heap.size:=HR4.out.lt
 have hzx:z<W4.heap.size:=HX4.out.lt
 go_wp2_with (refine ak 54 (by rfl) _ (by rfl) au aH HR4.out (by rfl) (by rfl) ?_;rw [<- HV2.out])
 refine (HM.out _ HW4.out).mono ?_
 rintro en w5 ⟨rfl,hb5⟩
 have HX5:=aa (HX4.out.below hb5)
 have HR5:=aa (HR4.out.below hb5)
 have HY5:=aa (HY4.out.below hb5)
 have HW5:=aa (HW4.out.trans (hb5.mono HW4.out.size))
 have HF5:=aa (show StaM.fresh w5 (z+3) y from HF4.out.grown (row:=some z) (aP (World.grownBy.refl _ _) hb5) (fun q hq=>by injection hq with hq;omega))
 clear hb5 hcx hzz hzx HM HX4 HR4 HY4 HF4
 have hcx:=HR5.out.cell
 have hzz:z1<w5.heap.size:=HR5.out.lt
 have hzx:z<w5.heap.size:=HX5.out.lt
 have HSS:=aa (fun (u:World) (h:Below w5.heap.size w5 u)=>(show ∀i:Nat,u.cell? ⟨z1,i,none⟩=(#[.int .u8 ((1:Nat):Int), .int .u8 ke, .int .u64 pc, .int .u8 pn, .int .u32 pl, .int .u64 ac, .int .u8 an, .int .u32 al, .int .u8 rk, .int .u64 inc, .int .i64 st, .slice vA vl.length vc, .slice dA dl.length dc, .slice oA ol.length oc, .int .u64 la, .slice mA ml.length mc, .int .u64 fe, .int .u32 li, .int .u64 C, .slice xA xl.length xc, .slice yA yl.length yc] : Array Value)[i]? from (HR5.out.below h).cell))
 have HD:=aa (show Below w5.heap.size w5 w5.drew from (Below.refl _ _).drew)
 have hk15:(ke:Int) * 15=((ke * 15:Nat):Int):=by omega
 have hkeI:(ke:Int)<16:=by omega
 go_upto_region 6 with fail
 clear hcx
 refine wp_region_held_drew (S:=fun u=>∀i:Nat,u.cell? ⟨z1,i,none⟩=(#[.int .u8 ((1:Nat):Int), .int .u8 ke, .int .u64 pc, .int .u8 pn, .int .u32 pl, .int .u64 ac, .int .u8 an, .int .u32 al, .int .u8 rk, .int .u64 inc, .int .i64 st, .slice vA vl.length vc, .slice dA dl.length dc, .slice oA ol.length oc, .int .u64 la, .slice mA ml.length mc, .int .u64 fe, .int .u32 li, .int .u64 C, .slice xA xl.length xc, .slice yA yl.length yc] : Array Value)[i]?) (by kernel_rfl) (HSS.out _ HD.out) (fun hHeld => ?_)
 refine tkY 0 15 ?v1 rfl ?hy1 (by assumption) ?rest1
 case hy1=>intro w hSw;(try dsimp only at hSw);go_simp <;> with_reducible rfl
 simp only [Act.put,sTI,sT0,sT1]
 refine tkY 1 16 ?v2 rfl ?hy2 (by assumption) ?rest2
 case hy2=>intro w hSw;(try dsimp only at hSw);go_simp <;> with_reducible rfl
 simp only [Act.put,sTI,sT0,sT1]
 refine tkY 2 17 ?v3 rfl ?hy3 (by assumption) ?rest3
 case hy3=>intro w hSw;(try dsimp only at hSw);go_simp <;> with_reducible rfl
 simp only [Act.put,sTI,sT0,sT1]
 refine tkY 3 18 ?v4 rfl ?hy4 (by assumption) ?rest4
 case hy4=>intro w hSw;(try dsimp only at hSw);go_simp <;> with_reducible rfl
 simp only [Act.put,sTI,sT0,sT1]
 refine tkY 4 19 ?v5 rfl ?hy5 (by assumption) ?rest5
 case hy5=>intro w hSw;(try dsimp only at hSw);go_simp <;> with_reducible rfl
 simp only [Act.put,sTI,sT0,sT1]
 refine tkY 5 20 ?v6 rfl ?hy6 (by assumption) ?rest6
 case hy6=>intro w hSw;(try dsimp only at hSw);go_simp <;> with_reducible rfl
 simp only [Act.put,sTI,sT0,sT1]
 refine tkY 6 21 ?v7 rfl ?hy7 (by assumption) ?rest7
 case hy7=>intro w hSw;(try dsimp only at hSw);go_simp <;> with_reducible rfl
 simp only [Act.put,sTI,sT0,sT1]
 refine tkY 7 22 ?v8 rfl ?hy8 (by assumption) ?rest8
 case hy8=>intro w hSw;(try dsimp only at hSw);go_simp <;> with_reducible rfl
 simp only [Act.put,sTI,sT0,sT1]
 refine tkY 10 25 ?v9 rfl ?hy9 (by assumption) ?rest9
 case hy9=>intro w hSw;(try dsimp only at hSw);go_simp <;> with_reducible rfl
 simp only [Act.put,sTI,sT0,sT1]
 refine wpAnyH_ready (rs:=[8]) (by kernel_rfl) (by simp) ?_
 refine AllReadyH.cons rfl (fun K hK => ?_) AllReadyH.nil
 go_simp
 go_wp2_with fail
 refine (HCR.out _ (HW5.out.trans (HD.out.mono HW5.out.size))).mono ?_
 rintro en u1 ⟨x,rfl,hxp,hxf,hb6⟩
 have HU1:=aa (HD.out.trans (hb6.mono HD.out.size))
 have HXP:=aa hxp
 have HXF:=aa (Aside14.less hxf (show z+3<=w5.drew.heap.size+2 from by have:=HY5.out.lt;have:=HZS.out;have:=HD.out.size;omega))
 clear hb6 hxp hxf
 refine hK.out _ _ (HSS.out _ HU1.out) (fun hHeld => ?_)
 clear hK K
 obtain ⟨rk',inc',st',⟨vA',vc',vl'⟩,⟨dA',dc',dl'⟩,⟨oA',oc',ol'⟩,la',⟨mA',mc',ml'⟩⟩:=x
 simp only [RegM.v,Sl.v]
 refine tkY 9 24 (.agg #[.bool true, .int .u64 pc, .int .u8 pn, .int .u32 pl, .int .u64 ac, .int .u8 an, .int .u32 al, .int .u8 rk', .int .u64 inc', .int .i64 st', .slice vA' vl'.length vc', .slice dA' dl'.length dc', .slice oA' ol'.length oc', .int .u64 la', .slice mA' ml'.length mc']) rfl ?hy10 (by assumption) ?rest10
 case hy10=>intro w hSw;kernel_rfl
 simp only [Act.put,sTI,sT0,sT1]
 refine tkY 11 26 ?v11 rfl ?hy11 (by assumption) ?rest11
 case hy11=>intro w hSw;(try dsimp only at hSw);go_simp <;> with_reducible rfl
 simp only [Act.put,sTI,sT0,sT1]
 have HX6:=aa (HX5.out.below HU1.out)
 have HR6:=aa (HR5.out.below HU1.out)
 have HY6:=aa (HY5.out.below HU1.out)
 have HF6:=aa (show StaM.fresh u1 (z+3) y from HF5.out.grown (row:=some z) (aP (World.grownBy.refl _ _) HU1.out) (fun q hq=>by injection hq with hq;omega))
 have HW6:=aa (HW5.out.trans (HU1.out.mono HW5.out.size))
 have HSET:=aa (y.slot_set hke16 (⟨true,pc,pn,pl,ac,an,al,⟨rk',inc',st',⟨vA',vc',vl'⟩,⟨dA',dc',dl'⟩,⟨oA',oc',ol'⟩,la',⟨mA',mc',ml'⟩⟩⟩:SlotM))
 refine wpAnyH_ready (rs:=[12]) (by kernel_rfl) (by simp) ?_
 refine AllReadyH.cons rfl (fun K hK => ?_) AllReadyH.nil
 refine j9 72 (by rfl) _ _ (by rfl) bN (by rfl) (by rfl) (cells := #[.bool true, .int .u64 pc, .int .u8 pn, .int .u32 pl, .int .u64 ac, .int .u8 an, .int .u32 al, .int .u8 rk', .int .u64 inc', .int .i64 st', .slice vA' vl'.length vc', .slice dA' dl'.length dc', .slice oA' ol'.length oc', .int .u64 la', .slice mA' ml'.length mc']) (by rfl) (by rfl) (by simp [Value.oneCell']) HX6.out (by rw [HYS.out];omega) ?_ (by rfl)
 intro W7 HX7 HG7 HZ7
 have HR7:=aa (show BoxAt W7 z1 #[.int .u8 ((1:Nat):Int), .int .u8 ke, .int .u64 pc, .int .u8 pn, .int .u32 pl, .int .u64 ac, .int .u8 an, .int .u32 al, .int .u8 rk, .int .u64 inc, .int .i64 st, .slice vA vl.length vc, .slice dA dl.length dc, .slice oA ol.length oc, .int .u64 la, .slice mA ml.length mc, .int .u64 fe, .int .u32 li, .int .u64 C, .slice xA xl.length xc, .slice yA yl.length yc] 54 from (HG7.out.block _ HR6.out.lt (fun e=>by injection e with e;have:=HZS.out;omega)).trans HR6.out)
 refine hK.out _ _ HR7.out.cell (fun hHeld => ?_)
 clear hK K
 refine wpAnyH_done (by kernel_rfl) ?_ _
 clear hHeld
 have HX8':=aa (show BoxAt W7 z (splice y.box (ke * 15) (SlotM.cs (⟨true,pc,pn,pl,ac,an,al,⟨rk',inc',st',⟨vA',vc',vl'⟩,⟨dA',dc',dl'⟩,⟨oA',oc',ol'⟩,la',⟨mA',mc',ml'⟩⟩⟩:SlotM))) 75 from HX7.out)
 rw [HSET.out] at HX8'
 obtain ⟨s2,hs2⟩:∃s2,y.setF ke (⟨true,pc,pn,pl,ac,an,al,⟨rk',inc',st',⟨vA',vc',vl'⟩,⟨dA',dc',dl'⟩,⟨oA',oc',ol'⟩,la',⟨mA',mc',ml'⟩⟩⟩:SlotM)=s2:=⟨_,rfl⟩
 rw [hs2] at HX8'
 have HP2:=aa (show s2.p=foldP s.p mp from by
  rw [HDO.out,<- HYP.out,HSP.out,<- hs2,rK]
  have hp:=HXP.out
  unfold lz SlotM.p
  simp only
  rw [hp])
 have HF7:=aa (show StaM.fresh W7 (z+3) s2 from by
  rw [<- hs2]
  refine (HF6.out.grown HG7.out (fun q hq=>by injection hq with hq;omega)).setF ke _ ⟨HNUM.out.2.1,HNUM.out.2.2.1⟩ (HXF.out.other14 HG7.out (by omega)) (Aq HXP.out HFEW.out))
 have HY7:=aa (show BoxAt W7 z2 zeroSt.box 75 from (HG7.out.block _ HY6.out.lt (fun e=>by injection e with e;have:=HZS.out;omega)).trans HY6.out)
 have HW7:=aa (HW6.out.grown HG7.out HW6.out.size (fun q hq=>by injection hq with hq;have:=HZE.out;omega))
 clear hs2 HSET
 have hzx7:z<W7.heap.size:=HX8'.out.lt
 have HQS:=aa (StaM.box_size (s2))
 have HQO:=aa (StaM.one (s2))
 have HZB:=aa zeroSt.box_size
 go_wp2_with (first|(refine ak 75 (by rfl) _ (by rfl) am aJ HX8'.out (by rfl) HQS.out ?_)|(refine ai 75 (by rfl) _ _ (by rfl) am (by rfl) (by rfl) (cs:=StaM.box (s2)) (by rfl) HQS.out HQO.out HY7.out HZB.out ?_;intro W8 HX8 HG8 HZ8))
 refine bodyPost_ret (aD am aJ (by rfl) (by rfl) HX8.out HQS.out) rfl ?_
 have hs:=HZS.out
 have hze:=HZE.out
 refine HFD.out _ _ s2 rfl HP2.out ((HF7.out.grown HG8.out (fun q hq=>by injection hq with hq;omega)).less (by omega)) (HW7.out.grown HG8.out HW7.out.size (fun q hq=>by injection hq with hq;omega))

theorem wM (s:StaM) (m:RecM) (B:Nat) (w:World) (hs:StaM.good w B s) (hm:RecM.tame w B m) (hB:B<=w.heap.size) (hk:m.ki=2) (hy:mayR m.p=true):Calls Tryz.prog 83 #[s.v,m.v] w (eh s m.p w):=by
 have HM:=aa (fun (u:World) (h:Below w.heap.size w u)=>cJ m w.heap.size u ((hm.g.more hB).below h) h.size)
 have HCL:=aa (fun (u:World) (h:Below w.heap.size w u)=>cD s w.heap.size u ((hs.more hB).below h) h.size)
 rw [hy] at HM
 have HNUM:=aa hm.g.1
 have HDO:=aa (fun t:StaP=>show foldP t m.p=t.setF m.ke eX from by unfold foldP;rw [if_pos hy];unfold doP;rw [if_neg (show ¬m.p.ki=1 from by show ¬m.ki=1;omega)];rw [if_pos (show m.p.ki=2 from hk)];rfl)
 have hke16:m.ke<16:=ng hy (.inr hk)
 clear hy
 obtain ⟨R,hR⟩:∃R,eh s m.p w=R:=⟨_,rfl⟩
 rw [hR]
 have HFD:=aa (fun (e:Ending) (w':World) (s':StaM) (h1:e = .returned s'.v) (h2:s'.p=foldP s.p m.p) (h3:StaM.fresh w' w.heap.size s') (h4:Below w.heap.size w w')=>show R e w' from by rw [<- hR];exact ⟨s',h1,h2,h3,h4⟩)
 obtain ⟨mp,hmp⟩:∃x,m.p=x:=⟨_,rfl⟩
 rw [hmp] at HDO HFD
 clear hR hmp
 have HV:=aa (show s.v = .agg s.box from rfl)
 have HSZ:=aa s.box_size
 obtain ⟨V,hV⟩:∃V,s.v=V:=⟨_,rfl⟩
 rw [hV] at HV ⊢
 simp only [hV] at HCL
 clear hV
 obtain ⟨V2,hV2⟩:∃V,m.v=V:=⟨_,rfl⟩
 simp only [hV2] at HM ⊢
 obtain ⟨ki,ke,pc,pn,pl,ac,an,al,⟨rk,inc,st,⟨vA,vc,vl⟩,⟨dA,dc,dl⟩,⟨oA,oc,ol⟩,la,⟨mA,mc,ml⟩⟩,fe,li,⟨C,⟨xA,xc,xl⟩,⟨yA,yc,yl⟩⟩⟩:=m
 have HV2:=aa (show V2 = .agg #[.int .u8 ki, .int .u8 ke, .int .u64 pc, .int .u8 pn, .int .u32 pl, .int .u64 ac, .int .u8 an, .int .u32 al, .int .u8 rk, .int .u64 inc, .int .i64 st, .slice vA vl.length vc, .slice dA dl.length dc, .slice oA ol.length oc, .int .u64 la, .slice mA ml.length mc, .int .u64 fe, .int .u32 li, .int .u64 C, .slice xA xl.length xc, .slice yA yl.length yc] from hV2.symm)
 clear hV2 hs hm
 simp only at hk
 subst hk
 go_enter Tryz.func83,Tryz.ntmps83
 go_upto_region 0 with fail
 refine wp_region_lit ?_
 refine aw 75 (by rfl) _ (by rfl) (by rfl) HV.out ?_
 intro W0 HX0 HB0 HZ0
 simp only [Act.put,List.setIfInBounds_toArray,List.set_cons_zero,List.set_cons_succ]
 refine aw 54 (by rfl) _ (by rfl) (by rfl) HV2.out ?_
 intro W1 HR1 HB1 HZ1
 simp only [Act.put,List.setIfInBounds_toArray,List.set_cons_zero,List.set_cons_succ]
 refine aq 75 (by rfl) (by rfl) bC ?_
 intro W2 HY2 HB2 HZ2
 simp only [Act.put,List.setIfInBounds_toArray,List.set_cons_zero,List.set_cons_succ]
 have hz1:=HZ0.out
 have hz2:=HZ1.out
 have hz3:=HZ2.out
 rw [hz1] at hz2
 rw [hz2] at hz3
 have HX2:=aa ((HX0.out.below HB1.out).below HB2.out)
 have HR2:=aa (HR1.out.below HB2.out)
 have HW2:=aa ((HB0.out.trans (HB1.out.mono HB0.out.size)).trans (HB2.out.mono (HB0.out.trans (HB1.out.mono HB0.out.size)).size))
 obtain ⟨z,hz⟩:∃z,w.heap.size=z:=⟨_,rfl⟩
 obtain ⟨z1,hz1'⟩:∃z,W0.heap.size=z:=⟨_,rfl⟩
 obtain ⟨z2,hz2'⟩:∃z,W1.heap.size=z:=⟨_,rfl⟩
 have HZS:=aa (show z1=z+1/\z2=z+2/\W2.heap.size=z+3 from by omega)
 have HZE:=aa hz
 rw [hz] at HX2 ⊢
 rw [hz1'] at HR2 ⊢
 rw [hz2'] at HY2 ⊢
 clear HX0 HB0 HZ0 HR1 HB1 HZ1 HB2 HZ2 hz1 hz2 hz3 hz hz1' hz2'
 have hcx:=HR2.out.cell
 have hzz:z1<W2.heap.size:=HR2.out.lt
 have hzx:z<W2.heap.size:=HX2.out.lt
 go_wp2_with (refine ak 75 (by rfl) _ (by rfl) am aJ HX2.out (by rfl) HSZ.out ?_;rw [<- HV.out])
 refine (HCL.out _ HW2.out).mono ?_
 rintro en w3 ⟨y,rfl,hyp,hyf,hb3⟩
 have HYP:=aa hyp
 have HX3:=aa (HX2.out.below hb3)
 have HR3:=aa (HR2.out.below hb3)
 have HY3:=aa (HY2.out.below hb3)
 have HW3:=aa (HW2.out.trans (hb3.mono HW2.out.size))
 have HF3:=aa (hyf.less (show z+3<=W2.heap.size+2 from by have:=HZS.out;omega))
 have HYS:=aa y.box_size
 have HYO:=aa y.one
 have HYV:=aa (show y.v = .agg y.box from rfl)
 obtain ⟨VY,hVY⟩:∃V,y.v=V:=⟨_,rfl⟩
 rw [hVY] at HYV ⊢
 clear hVY hyp hyf hb3 hcx hzz hzx HCL HX2 HR2 HY2
 have hcx:=HR3.out.cell
 have hzz:z1<w3.heap.size:=HR3.out.lt
 have hzx:z<w3.heap.size:=HX3.out.lt
 go_upto_region 2 with (refine ai 75 (by rfl) _ _ (by rfl) am (by rfl) (by rfl) HYV.out HYS.out HYO.out HX3.out HSZ.out ?_;intro W4 HX4 HG4 HZ4)
 have HR4:=aa (show BoxAt W4 z1 #[.int .u8 ((2:Nat):Int), .int .u8 ke, .int .u64 pc, .int .u8 pn, .int .u32 pl, .int .u64 ac, .int .u8 an, .int .u32 al, .int .u8 rk, .int .u64 inc, .int .i64 st, .slice vA vl.length vc, .slice dA dl.length dc, .slice oA ol.length oc, .int .u64 la, .slice mA ml.length mc, .int .u64 fe, .int .u32 li, .int .u64 C, .slice xA xl.length xc, .slice yA yl.length yc] 54 from (HG4.out.block _ HR3.out.lt (fun e=>by injection e with e;have:=HZS.out;omega)).trans HR3.out)
 have HY4:=aa (show BoxAt W4 z2 zeroSt.box 75 from (HG4.out.block _ HY3.out.lt (fun e=>by injection e with e;have:=HZS.out;omega)).trans HY3.out)
 have HW4:=aa (HW3.out.grown HG4.out HW3.out.size (fun q hq=>by injection hq with hq;have:=HZE.out;omega))
 have HF4:=aa (HF3.out.grown HG4.out (fun q hq=>by injection hq with hq;omega))
 clear hcx hzz hzx HX3 HR3 HY3 HF3 HYO HYV HSZ
 have hcx:=HR4.out.cell
 have hzz:z1<W4.heap.size:=HR4.out.lt
 have hzx:z<W4.heap.size:=HX4.out.lt
 go_wp2_with (refine ak 54 (by rfl) _ (by rfl) au aH HR4.out (by rfl) (by rfl) ?_;rw [<- HV2.out])
 refine (HM.out _ HW4.out).mono ?_
 rintro en w5 ⟨rfl,hb5⟩
 have HX5:=aa (HX4.out.below hb5)
 have HR5:=aa (HR4.out.below hb5)
 have HY5:=aa (HY4.out.below hb5)
 have HW5:=aa (HW4.out.trans (hb5.mono HW4.out.size))
 have HF5:=aa (show StaM.fresh w5 (z+3) y from HF4.out.grown (row:=some z) (aP (World.grownBy.refl _ _) hb5) (fun q hq=>by injection hq with hq;omega))
 clear hb5 hcx hzz hzx HM HX4 HR4 HY4 HF4
 have hcx:=HR5.out.cell
 have hzz:z1<w5.heap.size:=HR5.out.lt
 have hzx:z<w5.heap.size:=HX5.out.lt
 have HSET:=aa (y.slot_set hke16 zeroSl)
 have hk15:(ke:Int) * 15=((ke * 15:Nat):Int):=by omega
 go_upto_region 15 with (first|(refine br 72 _ (by rfl) (by rfl) (V := .agg #[.bool false, .int .u64 0, .int .u8 0, .int .u32 0, .int .u64 0, .int .u8 0, .int .u32 0, .int .u8 0, .int .u64 0, .int .i64 0, .slice none 0 0, .slice none 0 0, .slice none 0 0, .int .u64 0, .slice none 0 0]) (by kernel_rfl) ?_)|(refine bu 72 (by rfl) _ _ (by rfl) bN (by rfl) (by rfl) (cells := #[.bool false, .int .u64 0, .int .u8 0, .int .u32 0, .int .u64 0, .int .u8 0, .int .u32 0, .int .u8 0, .int .u64 0, .int .i64 0, .slice none 0 0, .slice none 0 0, .slice none 0 0, .int .u64 0, .slice none 0 0]) (by rfl) (by rfl) (by simp [Value.oneCell']) HX5.out (by rw [HYS.out];omega) ?_;intro W7 HX7 HG7 HZ7))
 have HX8':=aa (show BoxAt W7 z (splice y.box (ke * 15) zeroSl.cs) 75 from HX7.out)
 rw [HSET.out] at HX8'
 obtain ⟨s2,hs2⟩:∃s2,y.setF ke zeroSl=s2:=⟨_,rfl⟩
 rw [hs2] at HX8'
 have HP2:=aa (show s2.p=foldP s.p mp from by
  rw [HDO.out,<- HYP.out,<- hs2,rK]
  rfl)
 have HF7:=aa (show StaM.fresh W7 (z+3) s2 from by
  rw [<- hs2]
  refine (HF5.out.grown HG7.out (fun q hq=>by injection hq with hq;omega)).setF ke zeroSl (by simp [SlotM.num,zeroSl,BalIn,N64]) (iO _ _) few_zero)
 have HY7:=aa (show BoxAt W7 z2 zeroSt.box 75 from (HG7.out.block _ HY5.out.lt (fun e=>by injection e with e;have:=HZS.out;omega)).trans HY5.out)
 have HW7:=aa (HW5.out.grown HG7.out HW5.out.size (fun q hq=>by injection hq with hq;have:=HZE.out;omega))
 clear hs2 hzx hcx hzz
 have hzx7:z<W7.heap.size:=HX8'.out.lt
 have HQS:=aa (StaM.box_size (s2))
 have HQO:=aa (StaM.one (s2))
 have HZB:=aa zeroSt.box_size
 go_wp2_with (first|(refine ak 75 (by rfl) _ (by rfl) am aJ HX8'.out (by rfl) HQS.out ?_)|(refine ai 75 (by rfl) _ _ (by rfl) am (by rfl) (by rfl) (cs:=StaM.box (s2)) (by rfl) HQS.out HQO.out HY7.out HZB.out ?_;intro W8 HX8 HG8 HZ8))
 refine bodyPost_ret (aD am aJ (by rfl) (by rfl) HX8.out HQS.out) rfl ?_
 have hs:=HZS.out
 have hze:=HZE.out
 refine HFD.out _ _ s2 rfl HP2.out ((HF7.out.grown HG8.out (fun q hq=>by injection hq with hq;omega)).less (by omega)) (HW7.out.grown HG8.out HW7.out.size (fun q hq=>by injection hq with hq;omega))

theorem wN (s:StaM) (m:RecM) (B:Nat) (w:World) (hs:StaM.good w B s) (hm:RecM.tame w B m) (hB:B<=w.heap.size) (hk:m.ki=3) (hy:mayR m.p=true):Calls Tryz.prog 83 #[s.v,m.v] w (eh s m.p w):=by
 have HM:=aa (fun (u:World) (h:Below w.heap.size w u)=>cJ m w.heap.size u ((hm.g.more hB).below h) h.size)
 have HCL:=aa (fun (u:World) (h:Below w.heap.size w u)=>cD s w.heap.size u ((hs.more hB).below h) h.size)
 rw [hy] at HM
 have HNUM:=aa hm.g.1
 have HDO:=aa (fun t:StaP=>show foldP t m.p={ t with fe:=max t.fe m.fe } from by unfold foldP;rw [if_pos hy];unfold doP;rw [if_neg (show ¬m.p.ki=1 from by show ¬m.ki=1;omega)];rw [if_neg (show ¬m.p.ki=2 from by show ¬m.ki=2;omega)];rw [if_pos (show m.p.ki=3 from hk)];rfl)
 clear hy
 obtain ⟨R,hR⟩:∃R,eh s m.p w=R:=⟨_,rfl⟩
 rw [hR]
 have HFD:=aa (fun (e:Ending) (w':World) (s':StaM) (h1:e = .returned s'.v) (h2:s'.p=foldP s.p m.p) (h3:StaM.fresh w' w.heap.size s') (h4:Below w.heap.size w w')=>show R e w' from by rw [<- hR];exact ⟨s',h1,h2,h3,h4⟩)
 obtain ⟨mp,hmp⟩:∃x,m.p=x:=⟨_,rfl⟩
 rw [hmp] at HDO HFD
 clear hR hmp
 have HV:=aa (show s.v = .agg s.box from rfl)
 have HSZ:=aa s.box_size
 obtain ⟨V,hV⟩:∃V,s.v=V:=⟨_,rfl⟩
 rw [hV] at HV ⊢
 simp only [hV] at HCL
 clear hV
 obtain ⟨V2,hV2⟩:∃V,m.v=V:=⟨_,rfl⟩
 simp only [hV2] at HM ⊢
 obtain ⟨ki,ke,pc,pn,pl,ac,an,al,⟨rk,inc,st,⟨vA,vc,vl⟩,⟨dA,dc,dl⟩,⟨oA,oc,ol⟩,la,⟨mA,mc,ml⟩⟩,fe,li,⟨C,⟨xA,xc,xl⟩,⟨yA,yc,yl⟩⟩⟩:=m
 have HV2:=aa (show V2 = .agg #[.int .u8 ki, .int .u8 ke, .int .u64 pc, .int .u8 pn, .int .u32 pl, .int .u64 ac, .int .u8 an, .int .u32 al, .int .u8 rk, .int .u64 inc, .int .i64 st, .slice vA vl.length vc, .slice dA dl.length dc, .slice oA ol.length oc, .int .u64 la, .slice mA ml.length mc, .int .u64 fe, .int .u32 li, .int .u64 C, .slice xA xl.length xc, .slice yA yl.length yc] from hV2.symm)
 clear hV2 hs hm
 simp only at hk
 subst hk
 go_enter Tryz.func83,Tryz.ntmps83
 go_upto_region 0 with fail
 refine wp_region_lit ?_
 refine aw 75 (by rfl) _ (by rfl) (by rfl) HV.out ?_
 intro W0 HX0 HB0 HZ0
 simp only [Act.put,List.setIfInBounds_toArray,List.set_cons_zero,List.set_cons_succ]
 refine aw 54 (by rfl) _ (by rfl) (by rfl) HV2.out ?_
 intro W1 HR1 HB1 HZ1
 simp only [Act.put,List.setIfInBounds_toArray,List.set_cons_zero,List.set_cons_succ]
 refine aq 75 (by rfl) (by rfl) bC ?_
 intro W2 HY2 HB2 HZ2
 simp only [Act.put,List.setIfInBounds_toArray,List.set_cons_zero,List.set_cons_succ]
 have hz1:=HZ0.out
 have hz2:=HZ1.out
 have hz3:=HZ2.out
 rw [hz1] at hz2
 rw [hz2] at hz3
 have HX2:=aa ((HX0.out.below HB1.out).below HB2.out)
 have HR2:=aa (HR1.out.below HB2.out)
 have HW2:=aa ((HB0.out.trans (HB1.out.mono HB0.out.size)).trans (HB2.out.mono (HB0.out.trans (HB1.out.mono HB0.out.size)).size))
 obtain ⟨z,hz⟩:∃z,w.heap.size=z:=⟨_,rfl⟩
 obtain ⟨z1,hz1'⟩:∃z,W0.heap.size=z:=⟨_,rfl⟩
 obtain ⟨z2,hz2'⟩:∃z,W1.heap.size=z:=⟨_,rfl⟩
 have HZS:=aa (show z1=z+1/\z2=z+2/\W2.heap.size=z+3 from by omega)
 have HZE:=aa hz
 rw [hz] at HX2 ⊢
 rw [hz1'] at HR2 ⊢
 rw [hz2'] at HY2 ⊢
 clear HX0 HB0 HZ0 HR1 HB1 HZ1 HB2 HZ2 hz1 hz2 hz3 hz hz1' hz2'
 have hcx:=HR2.out.cell
 have hzz:z1<W2.heap.size:=HR2.out.lt
 have hzx:z<W2.heap.size:=HX2.out.lt
 go_wp2_with (refine ak 75 (by rfl) _ (by rfl) am aJ HX2.out (by rfl) HSZ.out ?_;rw [<- HV.out])
 refine (HCL.out _ HW2.out).mono ?_
 rintro en w3 ⟨y,rfl,hyp,hyf,hb3⟩
 have HYP:=aa hyp
 have HX3:=aa (HX2.out.below hb3)
 have HR3:=aa (HR2.out.below hb3)
 have HY3:=aa (HY2.out.below hb3)
 have HW3:=aa (HW2.out.trans (hb3.mono HW2.out.size))
 have HF3:=aa (hyf.less (show z+3<=W2.heap.size+2 from by have:=HZS.out;omega))
 have HYS:=aa y.box_size
 have HYO:=aa y.one
 have HYV:=aa (show y.v = .agg y.box from rfl)
 obtain ⟨VY,hVY⟩:∃V,y.v=V:=⟨_,rfl⟩
 rw [hVY] at HYV ⊢
 clear hVY hyp hyf hb3 hcx hzz hzx HCL HX2 HR2 HY2
 have hcx:=HR3.out.cell
 have hzz:z1<w3.heap.size:=HR3.out.lt
 have hzx:z<w3.heap.size:=HX3.out.lt
 go_upto_region 2 with (refine ai 75 (by rfl) _ _ (by rfl) am (by rfl) (by rfl) HYV.out HYS.out HYO.out HX3.out HSZ.out ?_;intro W4 HX4 HG4 HZ4)
 have HR4:=aa (show BoxAt W4 z1 #[.int .u8 ((3:Nat):Int), .int .u8 ke, .int .u64 pc, .int .u8 pn, .int .u32 pl, .int .u64 ac, .int .u8 an, .int .u32 al, .int .u8 rk, .int .u64 inc, .int .i64 st, .slice vA vl.length vc, .slice dA dl.length dc, .slice oA ol.length oc, .int .u64 la, .slice mA ml.length mc, .int .u64 fe, .int .u32 li, .int .u64 C, .slice xA xl.length xc, .slice yA yl.length yc] 54 from (HG4.out.block _ HR3.out.lt (fun e=>by injection e with e;have:=HZS.out;omega)).trans HR3.out)
 have HY4:=aa (show BoxAt W4 z2 zeroSt.box 75 from (HG4.out.block _ HY3.out.lt (fun e=>by injection e with e;have:=HZS.out;omega)).trans HY3.out)
 have HW4:=aa (HW3.out.grown HG4.out HW3.out.size (fun q hq=>by injection hq with hq;have:=HZE.out;omega))
 have HF4:=aa (HF3.out.grown HG4.out (fun q hq=>by injection hq with hq;omega))
 clear hcx hzz hzx HX3 HR3 HY3 HF3 HYO HYV HSZ
 have hcx:=HR4.out.cell
 have hzz:z1<W4.heap.size:=HR4.out.lt
 have hzx:z<W4.heap.size:=HX4.out.lt
 go_wp2_with (refine ak 54 (by rfl) _ (by rfl) au aH HR4.out (by rfl) (by rfl) ?_;rw [<- HV2.out])
 refine (HM.out _ HW4.out).mono ?_
 rintro en w5 ⟨rfl,hb5⟩
 have HX5:=aa (HX4.out.below hb5)
 have HR5:=aa (HR4.out.below hb5)
 have HY5:=aa (HY4.out.below hb5)
 have HW5:=aa (HW4.out.trans (hb5.mono HW4.out.size))
 have HF5:=aa (show StaM.fresh w5 (z+3) y from HF4.out.grown (row:=some z) (aP (World.grownBy.refl _ _) hb5) (fun q hq=>by injection hq with hq;omega))
 clear hb5 hcx hzz hzx HM HX4 HR4 HY4 HF4
 have hcx:=HR5.out.cell
 have hzz:z1<w5.heap.size:=HR5.out.lt
 have hzx:z<w5.heap.size:=HX5.out.lt
 have r0:=(HX5.out.cell 240).trans y.cell_fe
 have f0:=HX5.out.free9 240
 obtain ⟨fs,hfs⟩:∃f,y.fe=f:=⟨_,rfl⟩
 rw [hfs] at r0
 obtain ⟨mx,hmx⟩:∃f,max fs fe=f:=⟨_,rfl⟩
 have hmi:(if fs<fe then (fe:Int) else (fs:Int))=(mx:Int):=by split <;> omega
 have HMX:=aa hmx
 have HFS:=aa hfs
 clear hmx hfs
 go_upto_region 15 with fail
 try rw [hmi]
 have HX8':=aa (HX5.out.set9 240 (.int .u64 mx))
 rw [y.fe_set] at HX8'
 obtain ⟨W7,hW7⟩:∃W,w5.setCell ⟨z,240,none⟩ (.int .u64 mx)=W:=⟨_,rfl⟩
 have HG7:=aa (aE w5 z 240 (.int .u64 mx))
 rw [hW7] at HX8' HG7 ⊢
 clear hW7 r0 f0
 obtain ⟨s2,hs2⟩:∃s2:StaM,{ y with fe:=mx }=s2:=⟨_,rfl⟩
 rw [hs2] at HX8'
 have HP2:=aa (show s2.p=foldP s.p mp from by
  rw [HDO.out,<- HYP.out,<- hs2,<- HMX.out,<- HFS.out]
  rfl)
 have HF7:=aa (show StaM.fresh W7 (z+3) s2 from by
  have g:=HF5.out.grown HG7.out (fun q hq=>by injection hq with hq;omega)
  have g1:=g.fe
  have g2:=HNUM.out.2.2.2.1
  have g3:=HFS.out
  have g4:=HMX.out
  rw [<- hs2]
  refine ⟨g.sl,?_,g.li,g.cf⟩
  unfold N64 at *
  simp only at g2
  show mx<_
  omega)
 have HY7:=aa (show BoxAt W7 z2 zeroSt.box 75 from (HG7.out.block _ HY5.out.lt (fun e=>by injection e with e;have:=HZS.out;omega)).trans HY5.out)
 have HW7:=aa (HW5.out.grown HG7.out HW5.out.size (fun q hq=>by injection hq with hq;have:=HZE.out;omega))
 clear hs2 hzx hcx hzz
 have hzx7:z<W7.heap.size:=HX8'.out.lt
 have HQS:=aa (StaM.box_size (s2))
 have HQO:=aa (StaM.one (s2))
 have HZB:=aa zeroSt.box_size
 go_wp2_with (first|(refine ak 75 (by rfl) _ (by rfl) am aJ HX8'.out (by rfl) HQS.out ?_)|(refine ai 75 (by rfl) _ _ (by rfl) am (by rfl) (by rfl) (cs:=StaM.box (s2)) (by rfl) HQS.out HQO.out HY7.out HZB.out ?_;intro W8 HX8 HG8 HZ8))
 refine bodyPost_ret (aD am aJ (by rfl) (by rfl) HX8.out HQS.out) rfl ?_
 have hs:=HZS.out
 have hze:=HZE.out
 refine HFD.out _ _ s2 rfl HP2.out ((HF7.out.grown HG8.out (fun q hq=>by injection hq with hq;omega)).less (by omega)) (HW7.out.grown HG8.out HW7.out.size (fun q hq=>by injection hq with hq;omega))

theorem wO (s:StaM) (m:RecM) (B:Nat) (w:World) (hs:StaM.good w B s) (hm:RecM.tame w B m) (hB:B<=w.heap.size) (hk:m.ki=4) (hy:mayR m.p=true):Calls Tryz.prog 83 #[s.v,m.v] w (eh s m.p w):=by
 have HM:=aa (fun (u:World) (h:Below w.heap.size w u)=>cJ m w.heap.size u ((hm.g.more hB).below h) h.size)
 have HCL:=aa (fun (u:World) (h:Below w.heap.size w u)=>cD s w.heap.size u ((hs.more hB).below h) h.size)
 rw [hy] at HM
 have HNUM:=aa hm.g.1
 have HDO:=aa (fun t:StaP=>show foldP t m.p={ t with li:=m.li } from by unfold foldP;rw [if_pos hy];unfold doP;rw [if_neg (show ¬m.p.ki=1 from by show ¬m.ki=1;omega)];rw [if_neg (show ¬m.p.ki=2 from by show ¬m.ki=2;omega)];rw [if_neg (show ¬m.p.ki=3 from by show ¬m.ki=3;omega)];rw [if_pos (show m.p.ki=4 from hk)];rfl)
 clear hy
 obtain ⟨R,hR⟩:∃R,eh s m.p w=R:=⟨_,rfl⟩
 rw [hR]
 have HFD:=aa (fun (e:Ending) (w':World) (s':StaM) (h1:e = .returned s'.v) (h2:s'.p=foldP s.p m.p) (h3:StaM.fresh w' w.heap.size s') (h4:Below w.heap.size w w')=>show R e w' from by rw [<- hR];exact ⟨s',h1,h2,h3,h4⟩)
 obtain ⟨mp,hmp⟩:∃x,m.p=x:=⟨_,rfl⟩
 rw [hmp] at HDO HFD
 clear hR hmp
 have HV:=aa (show s.v = .agg s.box from rfl)
 have HSZ:=aa s.box_size
 obtain ⟨V,hV⟩:∃V,s.v=V:=⟨_,rfl⟩
 rw [hV] at HV ⊢
 simp only [hV] at HCL
 clear hV
 obtain ⟨V2,hV2⟩:∃V,m.v=V:=⟨_,rfl⟩
 simp only [hV2] at HM ⊢
 obtain ⟨ki,ke,pc,pn,pl,ac,an,al,⟨rk,inc,st,⟨vA,vc,vl⟩,⟨dA,dc,dl⟩,⟨oA,oc,ol⟩,la,⟨mA,mc,ml⟩⟩,fe,li,⟨C,⟨xA,xc,xl⟩,⟨yA,yc,yl⟩⟩⟩:=m
 have HV2:=aa (show V2 = .agg #[.int .u8 ki, .int .u8 ke, .int .u64 pc, .int .u8 pn, .int .u32 pl, .int .u64 ac, .int .u8 an, .int .u32 al, .int .u8 rk, .int .u64 inc, .int .i64 st, .slice vA vl.length vc, .slice dA dl.length dc, .slice oA ol.length oc, .int .u64 la, .slice mA ml.length mc, .int .u64 fe, .int .u32 li, .int .u64 C, .slice xA xl.length xc, .slice yA yl.length yc] from hV2.symm)
 clear hV2 hs hm
 simp only at hk
 subst hk
 go_enter Tryz.func83,Tryz.ntmps83
 go_upto_region 0 with fail
 refine wp_region_lit ?_
 refine aw 75 (by rfl) _ (by rfl) (by rfl) HV.out ?_
 intro W0 HX0 HB0 HZ0
 simp only [Act.put,List.setIfInBounds_toArray,List.set_cons_zero,List.set_cons_succ]
 refine aw 54 (by rfl) _ (by rfl) (by rfl) HV2.out ?_
 intro W1 HR1 HB1 HZ1
 simp only [Act.put,List.setIfInBounds_toArray,List.set_cons_zero,List.set_cons_succ]
 refine aq 75 (by rfl) (by rfl) bC ?_
 intro W2 HY2 HB2 HZ2
 simp only [Act.put,List.setIfInBounds_toArray,List.set_cons_zero,List.set_cons_succ]
 have hz1:=HZ0.out
 have hz2:=HZ1.out
 have hz3:=HZ2.out
 rw [hz1] at hz2
 rw [hz2] at hz3
 have HX2:=aa ((HX0.out.below HB1.out).below HB2.out)
 have HR2:=aa (HR1.out.below HB2.out)
 have HW2:=aa ((HB0.out.trans (HB1.out.mono HB0.out.size)).trans (HB2.out.mono (HB0.out.trans (HB1.out.mono HB0.out.size)).size))
 obtain ⟨z,hz⟩:∃z,w.heap.size=z:=⟨_,rfl⟩
 obtain ⟨z1,hz1'⟩:∃z,W0.heap.size=z:=⟨_,rfl⟩
 obtain ⟨z2,hz2'⟩:∃z,W1.heap.size=z:=⟨_,rfl⟩
 have HZS:=aa (show z1=z+1/\z2=z+2/\W2.heap.size=z+3 from by omega)
 have HZE:=aa hz
 rw [hz] at HX2 ⊢
 rw [hz1'] at HR2 ⊢
 rw [hz2'] at HY2 ⊢
 clear HX0 HB0 HZ0 HR1 HB1 HZ1 HB2 HZ2 hz1 hz2 hz3 hz hz1' hz2'
 have hcx:=HR2.out.cell
 have hzz:z1<W2.heap.size:=HR2.out.lt
 have hzx:z<W2.heap.size:=HX2.out.lt
 go_wp2_with (refine ak 75 (by rfl) _ (by rfl) am aJ HX2.out (by rfl) HSZ.out ?_;rw [<- HV.out])
 refine (HCL.out _ HW2.out).mono ?_
 rintro en w3 ⟨y,rfl,hyp,hyf,hb3⟩
 have HYP:=aa hyp
 have HX3:=aa (HX2.out.below hb3)
 have HR3:=aa (HR2.out.below hb3)
 have HY3:=aa (HY2.out.below hb3)
 have HW3:=aa (HW2.out.trans (hb3.mono HW2.out.size))
 have HF3:=aa (hyf.less (show z+3<=W2.heap.size+2 from by have:=HZS.out;omega))
 have HYS:=aa y.box_size
 have HYO:=aa y.one
 have HYV:=aa (show y.v = .agg y.box from rfl)
 obtain ⟨VY,hVY⟩:∃V,y.v=V:=⟨_,rfl⟩
 rw [hVY] at HYV ⊢
 clear hVY hyp hyf hb3 hcx hzz hzx HCL HX2 HR2 HY2
 have hcx:=HR3.out.cell
 have hzz:z1<w3.heap.size:=HR3.out.lt
 have hzx:z<w3.heap.size:=HX3.out.lt
 go_upto_region 2 with (refine ai 75 (by rfl) _ _ (by rfl) am (by rfl) (by rfl) HYV.out HYS.out HYO.out HX3.out HSZ.out ?_;intro W4 HX4 HG4 HZ4)
 have HR4:=aa (show BoxAt W4 z1 #[.int .u8 ((4:Nat):Int), .int .u8 ke, .int .u64 pc, .int .u8 pn, .int .u32 pl, .int .u64 ac, .int .u8 an, .int .u32 al, .int .u8 rk, .int .u64 inc, .int .i64 st, .slice vA vl.length vc, .slice dA dl.length dc, .slice oA ol.length oc, .int .u64 la, .slice mA ml.length mc, .int .u64 fe, .int .u32 li, .int .u64 C, .slice xA xl.length xc, .slice yA yl.length yc] 54 from (HG4.out.block _ HR3.out.lt (fun e=>by injection e with e;have:=HZS.out;omega)).trans HR3.out)
 have HY4:=aa (show BoxAt W4 z2 zeroSt.box 75 from (HG4.out.block _ HY3.out.lt (fun e=>by injection e with e;have:=HZS.out;omega)).trans HY3.out)
 have HW4:=aa (HW3.out.grown HG4.out HW3.out.size (fun q hq=>by injection hq with hq;have:=HZE.out;omega))
 have HF4:=aa (HF3.out.grown HG4.out (fun q hq=>by injection hq with hq;omega))
 clear hcx hzz hzx HX3 HR3 HY3 HF3 HYO HYV HSZ
 have hcx:=HR4.out.cell
 have hzz:z1<W4.heap.size:=HR4.out.lt
 have hzx:z<W4.heap.size:=HX4.out.lt
 go_wp2_with (refine ak 54 (by rfl) _ (by rfl) au aH HR4.out (by rfl) (by rfl) ?_;rw [<- HV2.out])
 refine (HM.out _ HW4.out).mono ?_
 rintro en w5 ⟨rfl,hb5⟩
 have HX5:=aa (HX4.out.below hb5)
 have HR5:=aa (HR4.out.below hb5)
 have HY5:=aa (HY4.out.below hb5)
 have HW5:=aa (HW4.out.trans (hb5.mono HW4.out.size))
 have HF5:=aa (show StaM.fresh w5 (z+3) y from HF4.out.grown (row:=some z) (aP (World.grownBy.refl _ _) hb5) (fun q hq=>by injection hq with hq;omega))
 clear hb5 hcx hzz hzx HM HX4 HR4 HY4 HF4
 have hcx:=HR5.out.cell
 have hzz:z1<w5.heap.size:=HR5.out.lt
 have hzx:z<w5.heap.size:=HX5.out.lt
 have r0:=(HX5.out.cell 241).trans y.cell_li
 have f0:=HX5.out.free9 241
 go_upto_region 15 with fail
 have HX8':=aa (HX5.out.set9 241 (.int .u32 li))
 rw [y.li_set] at HX8'
 obtain ⟨W7,hW7⟩:∃W,w5.setCell ⟨z,241,none⟩ (.int .u32 li)=W:=⟨_,rfl⟩
 have HG7:=aa (aE w5 z 241 (.int .u32 li))
 rw [hW7] at HX8' HG7 ⊢
 clear hW7 r0 f0
 obtain ⟨s2,hs2⟩:∃s2:StaM,{ y with li:=li }=s2:=⟨_,rfl⟩
 rw [hs2] at HX8'
 have HP2:=aa (show s2.p=foldP s.p mp from by
  rw [HDO.out,<- HYP.out,<- hs2]
  rfl)
 have HF7:=aa (show StaM.fresh W7 (z+3) s2 from by
  have g:=HF5.out.grown HG7.out (fun q hq=>by injection hq with hq;omega)
  rw [<- hs2]
  exact ⟨g.sl,g.fe,HNUM.out.2.2.2.2,g.cf⟩)
 have HY7:=aa (show BoxAt W7 z2 zeroSt.box 75 from (HG7.out.block _ HY5.out.lt (fun e=>by injection e with e;have:=HZS.out;omega)).trans HY5.out)
 have HW7:=aa (HW5.out.grown HG7.out HW5.out.size (fun q hq=>by injection hq with hq;have:=HZE.out;omega))
 clear hs2 hzx hcx hzz
 have hzx7:z<W7.heap.size:=HX8'.out.lt
 have HQS:=aa (StaM.box_size (s2))
 have HQO:=aa (StaM.one (s2))
 have HZB:=aa zeroSt.box_size
 go_wp2_with (first|(refine ak 75 (by rfl) _ (by rfl) am aJ HX8'.out (by rfl) HQS.out ?_)|(refine ai 75 (by rfl) _ _ (by rfl) am (by rfl) (by rfl) (cs:=StaM.box (s2)) (by rfl) HQS.out HQO.out HY7.out HZB.out ?_;intro W8 HX8 HG8 HZ8))
 refine bodyPost_ret (aD am aJ (by rfl) (by rfl) HX8.out HQS.out) rfl ?_
 have hs:=HZS.out
 have hze:=HZE.out
 refine HFD.out _ _ s2 rfl HP2.out ((HF7.out.grown HG8.out (fun q hq=>by injection hq with hq;omega)).less (by omega)) (HW7.out.grown HG8.out HW7.out.size (fun q hq=>by injection hq with hq;omega))

theorem wP (s:StaM) (m:RecM) (B:Nat) (w:World) (hs:StaM.good w B s) (hm:RecM.tame w B m) (hB:B<=w.heap.size) (hk:m.ki=5) (hy:mayR m.p=true):Calls Tryz.prog 83 #[s.v,m.v] w (eh s m.p w):=by
 have HM:=aa (fun (u:World) (h:Below w.heap.size w u)=>cJ m w.heap.size u ((hm.g.more hB).below h) h.size)
 have HCL:=aa (fun (u:World) (h:Below w.heap.size w u)=>cD s w.heap.size u ((hs.more hB).below h) h.size)
 rw [hy] at HM
 have HNUM:=aa hm.g.1
 have HCC:=aa (fun (u:World) (h:Below w.heap.size w u)=>gV m.cf w.heap.size u ((hm.g.2.2.more hB).below h) h.size)
 have HDO:=aa (fun t:StaP=>show foldP t m.p={ t with cf:=m.cf.p } from by unfold foldP;rw [if_pos hy];unfold doP;rw [if_neg (show ¬m.p.ki=1 from by show ¬m.ki=1;omega)];rw [if_neg (show ¬m.p.ki=2 from by show ¬m.ki=2;omega)];rw [if_neg (show ¬m.p.ki=3 from by show ¬m.ki=3;omega)];rw [if_neg (show ¬m.p.ki=4 from by show ¬m.ki=4;omega)];rw [if_pos (show m.p.ki=5 from hk)];rfl)
 clear hy
 obtain ⟨R,hR⟩:∃R,eh s m.p w=R:=⟨_,rfl⟩
 rw [hR]
 have HFD:=aa (fun (e:Ending) (w':World) (s':StaM) (h1:e = .returned s'.v) (h2:s'.p=foldP s.p m.p) (h3:StaM.fresh w' w.heap.size s') (h4:Below w.heap.size w w')=>show R e w' from by rw [<- hR];exact ⟨s',h1,h2,h3,h4⟩)
 obtain ⟨mp,hmp⟩:∃x,m.p=x:=⟨_,rfl⟩
 rw [hmp] at HDO HFD
 clear hR hmp
 have HV:=aa (show s.v = .agg s.box from rfl)
 have HSZ:=aa s.box_size
 obtain ⟨V,hV⟩:∃V,s.v=V:=⟨_,rfl⟩
 rw [hV] at HV ⊢
 simp only [hV] at HCL
 clear hV
 obtain ⟨V2,hV2⟩:∃V,m.v=V:=⟨_,rfl⟩
 simp only [hV2] at HM ⊢
 obtain ⟨ki,ke,pc,pn,pl,ac,an,al,⟨rk,inc,st,⟨vA,vc,vl⟩,⟨dA,dc,dl⟩,⟨oA,oc,ol⟩,la,⟨mA,mc,ml⟩⟩,fe,li,⟨C,⟨xA,xc,xl⟩,⟨yA,yc,yl⟩⟩⟩:=m
 have HV2:=aa (show V2 = .agg #[.int .u8 ki, .int .u8 ke, .int .u64 pc, .int .u8 pn, .int .u32 pl, .int .u64 ac, .int .u8 an, .int .u32 al, .int .u8 rk, .int .u64 inc, .int .i64 st, .slice vA vl.length vc, .slice dA dl.length dc, .slice oA ol.length oc, .int .u64 la, .slice mA ml.length mc, .int .u64 fe, .int .u32 li, .int .u64 C, .slice xA xl.length xc, .slice yA yl.length yc] from hV2.symm)
 clear hV2 hs hm
 simp only at hk
 subst hk
 go_enter Tryz.func83,Tryz.ntmps83
 go_upto_region 0 with fail
 refine wp_region_lit ?_
 refine aw 75 (by rfl) _ (by rfl) (by rfl) HV.out ?_
 intro W0 HX0 HB0 HZ0
 simp only [Act.put,List.setIfInBounds_toArray,List.set_cons_zero,List.set_cons_succ]
 refine aw 54 (by rfl) _ (by rfl) (by rfl) HV2.out ?_
 intro W1 HR1 HB1 HZ1
 simp only [Act.put,List.setIfInBounds_toArray,List.set_cons_zero,List.set_cons_succ]
 refine aq 75 (by rfl) (by rfl) bC ?_
 intro W2 HY2 HB2 HZ2
 simp only [Act.put,List.setIfInBounds_toArray,List.set_cons_zero,List.set_cons_succ]
 have hz1:=HZ0.out
 have hz2:=HZ1.out
 have hz3:=HZ2.out
 rw [hz1] at hz2
 rw [hz2] at hz3
 have HX2:=aa ((HX0.out.below HB1.out).below HB2.out)
 have HR2:=aa (HR1.out.below HB2.out)
 have HW2:=aa ((HB0.out.trans (HB1.out.mono HB0.out.size)).trans (HB2.out.mono (HB0.out.trans (HB1.out.mono HB0.out.size)).size))
 obtain ⟨z,hz⟩:∃z,w.heap.size=z:=⟨_,rfl⟩
 obtain ⟨z1,hz1'⟩:∃z,W0.heap.size=z:=⟨_,rfl⟩
 obtain ⟨z2,hz2'⟩:∃z,W1.heap.size=z:=⟨_,rfl⟩
 have HZS:=aa (show z1=z+1/\z2=z+2/\W2.heap.size=z+3 from by omega)
 have HZE:=aa hz
 rw [hz] at HX2 ⊢
 rw [hz1'] at HR2 ⊢
 rw [hz2'] at HY2 ⊢
 clear HX0 HB0 HZ0 HR1 HB1 HZ1 HB2 HZ2 hz1 hz2 hz3 hz hz1' hz2'
 have hcx:=HR2.out.cell
 have hzz:z1<W2.heap.size:=HR2.out.lt
 have hzx:z<W2.heap.size:=HX2.out.lt
 go_wp2_with (refine ak 75 (by rfl) _ (by rfl) am aJ HX2.out (by rfl) HSZ.out ?_;rw [<- HV.out])
 refine (HCL.out _ HW2.out).mono ?_
 rintro en w3 ⟨y,rfl,hyp,hyf,hb3⟩
 have HYP:=aa hyp
 have HX3:=aa (HX2.out.below hb3)
 have HR3:=aa (HR2.out.below hb3)
 have HY3:=aa (HY2.out.below hb3)
 have HW3:=aa (HW2.out.trans (hb3.mono HW2.out.size))
 have HF3:=aa (hyf.less (show z+3<=W2.heap.size+2 from by have:=HZS.out;omega))
 have HYS:=aa y.box_size
 have HYO:=aa y.one
 have HYV:=aa (show y.v = .agg y.box from rfl)
 obtain ⟨VY,hVY⟩:∃V,y.v=V:=⟨_,rfl⟩
 rw [hVY] at HYV ⊢
 clear hVY hyp hyf hb3 hcx hzz hzx HCL HX2 HR2 HY2
 have hcx:=HR3.out.cell
 have hzz:z1<w3.heap.size:=HR3.out.lt
 have hzx:z<w3.heap.size:=HX3.out.lt
 go_upto_region 2 with (refine ai 75 (by rfl) _ _ (by rfl) am (by rfl) (by rfl) HYV.out HYS.out HYO.out HX3.out HSZ.out ?_;intro W4 HX4 HG4 HZ4)
 have HR4:=aa (show BoxAt W4 z1 #[.int .u8 ((5:Nat):Int), .int .u8 ke, .int .u64 pc, .int .u8 pn, .int .u32 pl, .int .u64 ac, .int .u8 an, .int .u32 al, .int .u8 rk, .int .u64 inc, .int .i64 st, .slice vA vl.length vc, .slice dA dl.length dc, .slice oA ol.length oc, .int .u64 la, .slice mA ml.length mc, .int .u64 fe, .int .u32 li, .int .u64 C, .slice xA xl.length xc, .slice yA yl.length yc] 54 from (HG4.out.block _ HR3.out.lt (fun e=>by injection e with e;have:=HZS.out;omega)).trans HR3.out)
 have HY4:=aa (show BoxAt W4 z2 zeroSt.box 75 from (HG4.out.block _ HY3.out.lt (fun e=>by injection e with e;have:=HZS.out;omega)).trans HY3.out)
 have HW4:=aa (HW3.out.grown HG4.out HW3.out.size (fun q hq=>by injection hq with hq;have:=HZE.out;omega))
 have HF4:=aa (HF3.out.grown HG4.out (fun q hq=>by injection hq with hq;omega))
 clear hcx hzz hzx HX3 HR3 HY3 HF3 HYO HYV HSZ
 have hcx:=HR4.out.cell
 have hzz:z1<W4.heap.size:=HR4.out.lt
 have hzx:z<W4.heap.size:=HX4.out.lt
 go_wp2_with (refine ak 54 (by rfl) _ (by rfl) au aH HR4.out (by rfl) (by rfl) ?_;rw [<- HV2.out])
 refine (HM.out _ HW4.out).mono ?_
 rintro en w5 ⟨rfl,hb5⟩
 have HX5:=aa (HX4.out.below hb5)
 have HR5:=aa (HR4.out.below hb5)
 have HY5:=aa (HY4.out.below hb5)
 have HW5:=aa (HW4.out.trans (hb5.mono HW4.out.size))
 have HF5:=aa (show StaM.fresh w5 (z+3) y from HF4.out.grown (row:=some z) (aP (World.grownBy.refl _ _) hb5) (fun q hq=>by injection hq with hq;omega))
 clear hb5 hcx hzz hzx HM HX4 HR4 HY4 HF4
 have hcx:=HR5.out.cell
 have hzz:z1<w5.heap.size:=HR5.out.lt
 have hzx:z<w5.heap.size:=HX5.out.lt
 go_wp2_with fail
 refine (HCC.out _ HW5.out).mono ?_
 rintro en w6 ⟨x,rfl,hxp,hxf,hb6⟩
 have HX6:=aa (HX5.out.below hb6)
 have HR6:=aa (HR5.out.below hb6)
 have HY6:=aa (HY5.out.below hb6)
 have HW6:=aa (HW5.out.trans (hb6.mono HW5.out.size))
 have HF6:=aa (show StaM.fresh w6 (z+3) y from HF5.out.grown (row:=some z) (aP (World.grownBy.refl _ _) hb6) (fun q hq=>by injection hq with hq;omega))
 have HXP:=aa hxp
 have HXF:=aa (show CFresh w6 (z+3) x from ⟨hxf.1,⟨az hxf.2.1.1 (by have:=HY5.out.lt;have:=HZS.out;omega),hxf.2.1.2⟩,⟨az hxf.2.2.1 (by have:=HY5.out.lt;have:=HZS.out;omega),hxf.2.2.2⟩⟩)
 clear hb6 hxp hxf hcx hzz hzx HX5 HR5 HY5 HF5
 have hzx:z<w6.heap.size:=HX6.out.lt
 have HXV:=aa (show x.v = .agg x.cs.toArray from rfl)
 have HONE:=aa (show x.cs.toArray.all (·.oneCell')=true from by simp [CfM.cs,NdM.v,Value.oneCell'])
 have HSET:=aa (y.cf_set x)
 obtain ⟨VX,hVX⟩:∃V,x.v=V:=⟨_,rfl⟩
 rw [hVX] at HXV ⊢
 clear hVX
 go_upto_region 15 with (refine bu 52 (by rfl) _ _ (by rfl) aW (by rfl) (by rfl) HXV.out (by rfl) HONE.out HX6.out (by rw [HYS.out];omega) ?_;intro W7 HX7 HG7 HZ7)
 have HX8':=aa (show BoxAt W7 z (splice y.box 242 x.cs) 75 from HX7.out)
 rw [HSET.out] at HX8'
 obtain ⟨s2,hs2⟩:∃s2:StaM,{ y with cf:=x }=s2:=⟨_,rfl⟩
 rw [hs2] at HX8'
 have HP2:=aa (show s2.p=foldP s.p mp from by
  rw [HDO.out,<- HYP.out,<- hs2]
  have hp:=HXP.out
  unfold StaM.p
  simp only
  rw [hp])
 have HF7:=aa (show StaM.fresh W7 (z+3) s2 from by
  have g:=HF6.out.grown HG7.out (fun q hq=>by injection hq with hq;omega)
  rw [<- hs2]
  exact ⟨g.sl,g.fe,g.li,HXF.out.grown HG7.out (fun q hq=>by injection hq with hq;omega)⟩)
 have HY7:=aa (show BoxAt W7 z2 zeroSt.box 75 from (HG7.out.block _ HY6.out.lt (fun e=>by injection e with e;have:=HZS.out;omega)).trans HY6.out)
 have HW7:=aa (HW6.out.grown HG7.out HW6.out.size (fun q hq=>by injection hq with hq;have:=HZE.out;omega))
 clear hs2 hzx
 have hzx7:z<W7.heap.size:=HX8'.out.lt
 have HQS:=aa (StaM.box_size (s2))
 have HQO:=aa (StaM.one (s2))
 have HZB:=aa zeroSt.box_size
 go_wp2_with (first|(refine ak 75 (by rfl) _ (by rfl) am aJ HX8'.out (by rfl) HQS.out ?_)|(refine ai 75 (by rfl) _ _ (by rfl) am (by rfl) (by rfl) (cs:=StaM.box (s2)) (by rfl) HQS.out HQO.out HY7.out HZB.out ?_;intro W8 HX8 HG8 HZ8))
 refine bodyPost_ret (aD am aJ (by rfl) (by rfl) HX8.out HQS.out) rfl ?_
 have hs:=HZS.out
 have hze:=HZE.out
 refine HFD.out _ _ s2 rfl HP2.out ((HF7.out.grown HG8.out (fun q hq=>by injection hq with hq;omega)).less (by omega)) (HW7.out.grown HG8.out HW7.out.size (fun q hq=>by injection hq with hq;omega))

theorem lA (s:StaM) (m:RecM) (B:Nat) (w:World) (hs:StaM.good w B s) (hm:RecM.tame w B m) (hB:B<=w.heap.size):Calls Tryz.prog 83 #[s.v,m.v] w (eh s m.p w):=by
 by_cases hy:mayR m.p=true
 ·rcases ko hy with k|k|k|k|k
  ·exact wL s m B w hs hm hB k hy
  ·exact wM s m B w hs hm hB k hy
  ·exact wN s m B w hs hm hB k hy
  ·exact wO s m B w hs hm hB k hy
  ·exact wP s m B w hs hm hB k hy
 ·exact wK s m B w hs hm hB (by simpa using hy)

def foldsM (l:List RecM):StaM:=l.foldl oQ zeroSt
def foldsP (l:List RecP):StaP:=l.foldl foldP cZ
theorem BN {l:List RecM} {k:Nat} {x:RecM} (h:l[k]?=some x):foldsM (l.take (k+1))=oQ (foldsM (l.take k)) x:=by
 obtain ⟨h1,rfl⟩:=List.getElem?_eq_some_iff.1 h
 rw [List.take_succ_eq_append_getElem h1,foldsM,List.foldl_append]
 rfl
theorem BO {l:List RecM} {k:Nat} {x:RecM} (h:l[k]?=some x):foldsP ((l.take (k+1)).map RecM.p)=foldP (foldsP ((l.take k).map RecM.p)) x.p:=by
 obtain ⟨h1,rfl⟩:=List.getElem?_eq_some_iff.1 h
 rw [List.take_succ_eq_append_getElem h1,List.map_append,foldsP,List.foldl_append]
 rfl
theorem BP (l:List RecM):∀s:StaM,(l.foldl oQ s).p=(l.map RecM.p).foldl foldP s.p:=by
 induction l with
 | nil=>intro s;rfl
 | cons x l ih=>intro s;rw [List.foldl_cons,ih,BM];rfl
theorem Eu (l:List RecM):(foldsM l).p=foldsP (l.map RecM.p):=BP l zeroSt
theorem qA {w:World} {row:Option Nat} (l:List RecM) (h:∀m∈l,m.ok'/\m.r.few/\RAside w row m.r/\CAside w row m.cf):∀s,SAside w row s->SAside w row (l.foldl oQ s):=by
 induction l with
 | nil=>intro s hs;exact hs
 | cons x l ih =>
  intro s hs
  have hx:=h x List.mem_cons_self
  exact ih (fun m hm=>h m (List.mem_cons_of_mem _ hm)) _ (qz hs hx.1 hx.2.1 hx.2.2.1 hx.2.2.2)
theorem BQ {w:World} {B:Nat} (l:List RecM) (hB:B<=w.heap.size) (h:∀m∈l,RecM.tame w B m):StaM.good w w.heap.size (foldsM l) :=
 (qA (row:=none) l (fun m hm=>⟨(h m hm).g.1,(h m hm).f,RAside.low (h m hm).g.2.1 hB (fun z e=>by cases e),CAside.low (h m hm).g.2.2 hB (fun z e=>by cases e)⟩) zeroSt (SAside.zero w none)).good
theorem BS (a:StaP):gU a a=true:=by
 unfold gU
 rw [iM (fun i _=>decide_eq_true rfl)]
 simp
theorem lB (s:StaP) (i:Nat) (x:SlotP):(s.setF i x).setF i x=s.setF i x:=by
 unfold StaP.setF
 simp only
 congr 1
 funext k
 split <;> rfl
theorem BT (s:StaP) (p:RecP):foldP (foldP s p) p=foldP s p:=by
 unfold foldP
 split
 ·unfold doP
  split
  ·exact lB _ _ _
  split
  ·exact lB _ _ _
  split
  ·simp only [StaP.mk.injEq,true_and,and_true]
   omega
  split
  ·rfl
  split <;> rfl
 ·rfl
theorem RecM.tame.below {w w':World} {B:Nat} {m:RecM} (h:RecM.tame w B m) (hb:Below B w w'):RecM.tame w' B m:=⟨h.g.below hb,h.f⟩
theorem RecM.tame.more {w:World} {B B':Nat} {m:RecM} (h:RecM.tame w B m) (hB:B<=B'):RecM.tame w B' m:=⟨h.g.more hB,h.f⟩
theorem BU {w:World} {B:Nat} {l:List RecM} (h:∀m∈l,RecM.wide w B m) (hl:∀m∈l,m.least):∀m∈l,RecM.tame w B m:=fun m hm=>by
 obtain ⟨h1,h2,h3,h4⟩:=(h m hm).tame (hl m hm)
 exact ⟨⟨h1,h2,h3⟩,h4⟩


def jc (p:RecP):List UInt8:=numB p.ke++(balB p.pc p.pn p.pl++(balB p.ac p.an p.al++regB p.r))
def oS (p:RecP):List UInt8:=if p.ki=1 then jc p else if p.ki=2 then numB p.ke else if p.ki=3 then numB p.fe else if p.ki=4 then numB p.li else if p.ki=5 then confB p.cf else []
def recB (p:RecP):List UInt8:=numB p.ki++oS p
def tF (p:RecP):List UInt8 × Int:=if mayR p then (recB p,0) else ([],3)
theorem kq {p:RecP} (h:mayR p=true):tF p=(recB p,0):=by unfold tF;rw [if_pos h]
theorem rL {p:RecP} (h:mayR p=false):tF p=([],3):=by unfold tF;rw [h];rfl
theorem rM {p:RecP} (h:mayR p=true) (hk:p.ki=1):mayG p.r=true:=by
 unfold mayR iJ tB at h
 rw [Bool.and_eq_true,if_pos hk] at h
 simp only [Bool.and_eq_true] at h
 exact h.2.2.2.2.2
theorem gW:(Tryz.prog.info? 49).map (·.size)=some 3:=by kernel_rfl
theorem rN:∃d,Tryz.prog.underlying 49=some d/\d.isRow=true:=⟨_,Tryz.underlying49,rfl⟩
theorem gX:(Tryz.prog.info? 31).map (·.size)=some 8:=by kernel_rfl
theorem rO:∃d,Tryz.prog.underlying 31=some d/\d.isRow=true:=⟨_,Tryz.underlying31,rfl⟩
theorem rP:(Tryz.prog.info? 52).map (·.size)=some 3:=by kernel_rfl
theorem BV:∃d,Tryz.prog.underlying 52=some d/\d.isRow=true:=⟨_,Tryz.underlying52,rfl⟩
theorem RecM.ex_p (m:RecM):m.box.extract 2 (2+3) = #[.int .u64 m.pc, .int .u8 m.pn, .int .u32 m.pl]:=rfl
theorem RecM.ex_a (m:RecM):m.box.extract 5 (5+3) = #[.int .u64 m.ac, .int .u8 m.an, .int .u32 m.al]:=rfl
theorem RecM.ex_r (m:RecM):m.box.extract 8 (8+8)=m.r.cs.toArray:=rfl
theorem RecM.ex_c (m:RecM):m.box.extract 18 (18+3)=m.cf.cs.toArray:=rfl

theorem qB (p r:List UInt8) (k cap:Nat) (A:Option Addr) (m:RecM) (B:Nat) (w:World) (hk:p.length=k) (hp:k<=100) (hs:Sees w B A (bv p)) (hm:RecM.good w B m) (hB:B<=w.heap.size) (hg:mayG m.r.p=true) (hres:p++jc m.p=r) :
  Calls Tryz.prog 52 #[.slice A k cap,m.v] w (yR (r,0) w):=by
 obtain ⟨⟨⟨-,hke⟩,hbp,hba, -, -⟩,hrg, -⟩:=hm
 obtain ⟨q1,hq1⟩:∃q,p++numB m.ke=q:=⟨_,rfl⟩
 obtain ⟨q2,hq2⟩:∃q,q1++balB m.pc m.pn m.pl=q:=⟨_,rfl⟩
 obtain ⟨q3,hq3⟩:∃q,q2++balB m.ac m.an m.al=q:=⟨_,rfl⟩
 have HQ1:=aa hq1
 have HQ2:=aa hq2
 have HQ3:=aa hq3
 have HR:=aa (show th q3 m.r.p=(r,0) from by rw [oE hg,<- hq3,<- hq2,<- hq1,<- hres];simp [jc,RecM.p])
 have HL1:=aa (show q1.length<=110 by rw [<- hq1,List.length_append];have:=av m.ke (by omega);omega)
 have HL2:=aa (show q2.length<=140 by rw [<- hq2,List.length_append];have:=eI hbp.1 hbp.2.1 hbp.2.2;have:=HL1.out;omega)
 have HL3:=aa (show q3.length<=170 by rw [<- hq3,List.length_append];have:=eI hba.1 hba.2.1 hba.2.2;have:=HL2.out;omega)
 have HBP:=aa hbp
 have HBA:=aa hba
 have HRG:=aa (fun (u:World) (h:Below w.heap.size w u)=>reg_stable.below (reg_stable.more hrg hB) h)
 have HS:=aa (fun (u:World) (h:Below w.heap.size w u)=>(⟨hs.below (h.mono hB),Nat.le_trans hB h.size⟩:Sees u B A (bv p)/\B<=u.heap.size))
 have HK:=aa hk
 have HKE:=aa (show m.ke<18446744073709551616 from by omega)
 have HEP:=aa m.ex_p
 have HEA:=aa m.ex_a
 have HER:=aa m.ex_r
 have HRN:=aa (show m.r.cs.toArray.size=8 from rfl)
 have HRV:=aa (show m.r.v = .agg m.r.cs.toArray from rfl)
 have HC1:=aa (show m.box[1]?=some (.int .u8 m.ke) from rfl)
 have HV:=aa (show m.v = .agg m.box from rfl)
 have HSZ:=aa (show m.box.size=21 from rfl)
 obtain ⟨V,hV⟩:∃V,m.v=V:=⟨_,rfl⟩
 rw [hV] at HV ⊢
 obtain ⟨RC,hRC⟩:∃V,m.r.cs.toArray=V:=⟨_,rfl⟩
 rw [hRC] at HER HRN HRV
 have hke255:m.ke<=255:=hke
 obtain ⟨pc,hpc⟩:∃x,m.pc=x:=⟨_,rfl⟩
 obtain ⟨pn,hpn⟩:∃x,m.pn=x:=⟨_,rfl⟩
 obtain ⟨pl,hpl⟩:∃x,m.pl=x:=⟨_,rfl⟩
 obtain ⟨ac,hac⟩:∃x,m.ac=x:=⟨_,rfl⟩
 obtain ⟨an,han⟩:∃x,m.an=x:=⟨_,rfl⟩
 obtain ⟨al,hal⟩:∃x,m.al=x:=⟨_,rfl⟩
 obtain ⟨ke,hkee⟩:∃x,m.ke=x:=⟨_,rfl⟩
 rw [hpc,hpn,hpl] at HQ2 HBP HEP
 rw [hac,han,hal] at HQ3 HBA HEA
 rw [hkee] at HQ1 HKE HC1 hke255
 clear hV hRC hk hs hB hres hg hq1 hq2 hq3 hbp hba hrg hke hpc hpn hpl hac han hal hkee
 go_enter Tryz.func52,Tryz.ntmps52
 go_wp2_with (refine aw 54 (by rfl) _ (by rfl) (by rfl) HV.out ?_;intro W0 HX0 HB0 HZ0;have r1:=(HX0.out.cell 1).trans HC1.out;have hz0:w.heap.size<W0.heap.size:=HX0.out.lt)
 refine (aK p q1 ke B A k cap _ HK.out HQ1.out HKE.out (HS.out _ HB0.out).1 (HS.out _ HB0.out).2 (by have:=HK.out;omega)).mono ?_
 rintro en w1 ⟨A1,c1,rfl,ho1,hb1⟩
 have HS1:=aa (Sees.own ho1)
 have HB1:=aa (HB0.out.trans (hb1.mono HB0.out.size))
 have HX1:=aa (HX0.out.below hb1)
 clear ho1 hb1 r1 hz0 HX0 HB0 HZ0
 have hz0:w.heap.size<w1.heap.size:=HX1.out.lt
 go_wp2_with (first|(refine bi 49 (by rfl) _ (by rfl) gW rN HX1.out (i:=2) (by rfl) HEP.out (by rfl) ?_)|fail)
 refine (lq q1 q2 pc pn pl w1.heap.size A1 _ c1 w1 rfl HQ2.out HBP.out.1 HBP.out.2.1 HBP.out.2.2 HS1.out (Nat.le_refl _) (by have:=HL1.out;omega)).mono ?_
 rintro en w2 ⟨A2,c2,rfl,ho2,hb2⟩
 have HS2:=aa (Sees.own ho2)
 have HB2:=aa (HB1.out.trans (hb2.mono HB1.out.size))
 have HX2:=aa (HX1.out.below hb2)
 clear ho2 hb2 hz0 HX1 HB1 HS1
 have hz0:w.heap.size<w2.heap.size:=HX2.out.lt
 go_wp2_with (first|(refine bi 49 (by rfl) _ (by rfl) gW rN HX2.out (i:=5) (by rfl) HEA.out (by rfl) ?_)|fail)
 refine (lq q2 q3 ac an al w2.heap.size A2 _ c2 w2 rfl HQ3.out HBA.out.1 HBA.out.2.1 HBA.out.2.2 HS2.out (Nat.le_refl _) (by have:=HL2.out;omega)).mono ?_
 rintro en w3 ⟨A3,c3,rfl,ho3,hb3⟩
 have HS3:=aa (Sees.own ho3)
 have HB3:=aa (HB2.out.trans (hb3.mono HB2.out.size))
 have HX3:=aa (HX2.out.below hb3)
 clear ho3 hb3 hz0 HX2 HB2 HS2
 have hz0:w.heap.size<w3.heap.size:=HX3.out.lt
 have HPR:=aa (ti q3 _ c3 A3 m.r w3.heap.size w3 rfl (by have:=HL3.out;omega) HS3.out (reg_stable.more (HRG.out _ HB3.out) HB3.out.size) (Nat.le_refl _))
 rw [HR.out,HRV.out] at HPR
 go_wp2_with (first|(refine bi 31 (by rfl) _ (by rfl) gX rO HX3.out (i:=8) (by rfl) HER.out HRN.out ?_)|fail)
 refine HPR.out.mono ?_
 rintro en w4 ⟨A4,c4,rfl,ho4,hb4⟩
 have HO4:=aa (az (base':=w.heap.size) ho4 HB3.out.size)
 have HB4:=aa (HB3.out.trans (hb4.mono HB3.out.size))
 clear ho4 hb4
 go_wp2
 go_ret2
 exact ⟨A4,c4,rfl,HO4.out,HB4.out⟩

theorem lC (m:RecM) (B:Nat) (w:World) (hm:RecM.good w B m) (hB:B<=w.heap.size):Calls Tryz.prog 18 #[m.v] w (yR (tF m.p) w):=by
 have HMY:=aa (fun (u:World) (h:Below w.heap.size w u)=>cJ m w.heap.size u ((hm.more hB).below h) h.size)
 have HPS:=aa (fun (hg:mayG m.r.p=true) (p r:List UInt8) (k cap:Nat) (A:Option Addr) (u:World) (h:Below w.heap.size w u) (hk:p.length=k) (hp:k<=100) (hs:Sees u u.heap.size A (bv p)) (hres:p++jc m.p=r)=>qB p r k cap A m u.heap.size u hk hp hs (((hm.more hB).below h).more h.size) (Nat.le_refl _) hg hres)
 have HCF:=aa (fun (p r:List UInt8) (k cap:Nat) (A:Option Addr) (u:World) (h:Below w.heap.size w u) (hk:p.length=k) (hp:k<=10000) (hs:Sees u u.heap.size A (bv p)) (hres:p++confB m.p.cf=r)=>qn p r k cap A m.cf u.heap.size u hk hp hs (((hm.2.2.more hB).below h).more h.size) (Nat.le_refl _) hres)
 have HRG:=aa (fun (h1:mayR m.p=true) (h2:m.p.ki=1)=>rM h1 h2)
 have HYK:=aa (show mayR m.p=true->(m.ki=1∨m.ki=2∨m.ki=3∨m.ki=4∨m.ki=5) from ko)
 have HY:=aa (fun h:mayR m.p=true=>kq h)
 have HN:=aa (fun h:mayR m.p=false=>rL h)
 have HRB:=aa (show recB m.p=numB m.ki++(if m.ki=1 then jc m.p else if m.ki=2 then numB m.ke else if m.ki=3 then numB m.fe else if m.ki=4 then numB m.li else if m.ki=5 then confB m.p.cf else []) from rfl)
 obtain ⟨q,hq⟩:∃q,mayR m.p=q:=⟨_,rfl⟩
 simp only [hq] at HMY HRG HYK HY HN
 obtain ⟨R,hR⟩:∃R,tF m.p=R:=⟨_,rfl⟩
 rw [hR] at HY HN ⊢
 obtain ⟨out,hout⟩:∃x,recB m.p=x:=⟨_,rfl⟩
 rw [hout] at HRB
 simp only [hout] at HY
 obtain ⟨⟨hki,hke⟩, -, -,hfe,hli⟩:=hm.1
 have HKI:=aa hki
 have HC0:=aa (show m.box[0]?=some (.int .u8 m.ki) from rfl)
 have HC1:=aa (show m.box[1]?=some (.int .u8 m.ke) from rfl)
 have HC2:=aa (show m.box[16]?=some (.int .u64 m.fe) from rfl)
 have HC3:=aa (show m.box[17]?=some (.int .u32 m.li) from rfl)
 have HEC:=aa m.ex_c
 have HCN:=aa (show m.cf.cs.toArray.size=3 from rfl)
 have HCV:=aa (show m.cf.v = .agg m.cf.cs.toArray from rfl)
 have HV:=aa (show m.v = .agg m.box from rfl)
 have HSZ:=aa (show m.box.size=21 from rfl)
 obtain ⟨V,hV⟩:∃V,m.v=V:=⟨_,rfl⟩
 rw [hV] at HV ⊢
 simp only [hV] at HMY HPS
 obtain ⟨RC,hRC⟩:∃V,m.cf.cs.toArray=V:=⟨_,rfl⟩
 rw [hRC] at HEC HCN HCV
 simp only [HCV.out] at HCF
 obtain ⟨sb,hsb⟩:∃x,jc m.p=x:=⟨_,rfl⟩
 obtain ⟨cb,hcb⟩:∃x,confB m.p.cf=x:=⟨_,rfl⟩
 rw [hsb,hcb] at HRB
 simp only [hsb] at HPS
 simp only [hcb] at HCF
 have HRG2:=aa (show q=true->m.ki=1->mayG m.r.p=true from HRG.out)
 obtain ⟨ki,hkie⟩:∃x,m.ki=x:=⟨_,rfl⟩
 obtain ⟨ke,hkee⟩:∃x,m.ke=x:=⟨_,rfl⟩
 obtain ⟨fe,hfee⟩:∃x,m.fe=x:=⟨_,rfl⟩
 obtain ⟨li,hlie⟩:∃x,m.li=x:=⟨_,rfl⟩
 simp only [hkie,hkee,hfee,hlie] at HRG2 HYK HRB HKI HC0 HC1 HC2 HC3 hki hke hfe hli
 have hfe':fe<18446744073709551616:=by unfold N64 at hfe;omega
 have hli':li<=4294967295:=hli
 have HNK:=aa (av ki (by omega))
 have HFE:=aa (show fe<18446744073709551616 by omega)
 have HKE:=aa (show ke<18446744073709551616 by omega)
 have HLI:=aa (show li<18446744073709551616 by omega)
 clear hq hR hout hV hRC hsb hcb hm hB HRG hkie hkee hfee hlie hfe hli hfe'
 go_enter Tryz.func18,Tryz.ntmps18
 go_wp2_with (first|(refine aw 54 (by rfl) _ (by rfl) (by rfl) HV.out ?_;intro W0 HX0 HB0 HZ0;have hz0:w.heap.size<W0.heap.size:=HX0.out.lt)|(refine ak 54 (by rfl) _ (by rfl) au aH HX0.out (by rfl) HSZ.out ?_;rw [<- HV.out]))
 refine (HMY.out _ HB0.out).mono ?_
 rintro en w1 ⟨rfl,hb1⟩
 have HX1:=aa (HX0.out.below hb1)
 have HB1:=aa (HB0.out.trans (hb1.mono HB0.out.size))
 clear hb1 hz0 HX0 HB0 HZ0 HMY
 have hz0:w.heap.size<w1.heap.size:=HX1.out.lt
 cases q with
 | false =>
  obtain rfl:=(HN.out rfl).symm
  go_wp2
  go_ret2
  exact ⟨none,0,rfl,World.ownsRow_nil _ _ _ _,HB1.out⟩
 | true =>
 obtain rfl:=(HY.out rfl).symm
 have r0:=(HX1.out.cell 0).trans HC0.out
 have hk5:=HYK.out rfl
 obtain ⟨q1,hq1⟩:∃x,numB ki=x:=⟨_,rfl⟩
 have HQ1:=aa hq1
 rw [hq1] at HRB HNK
 clear hq1 HN HY HYK
 go_wp2_with fail
 refine (aK [] q1 ki w1.heap.size none 0 0 w1 rfl HQ1.out (by omega) (Sees.empty _ _ _) (Nat.le_refl _) (by simp)).mono ?_
 rintro en w2 ⟨A2,c2,rfl,ho2,hb2⟩
 have HO2:=aa (az (base':=w.heap.size) ho2 HB1.out.size)
 have HX2:=aa (HX1.out.below hb2)
 have HB2:=aa (HB1.out.trans (hb2.mono HB1.out.size))
 clear ho2 hb2 hz0 r0 HX1
 have hz0:w.heap.size<w2.heap.size:=HX2.out.lt
 have r0:=(HX2.out.cell 0).trans HC0.out
 have HS2:=aa (Sees.own HO2.out)
 have HLQ:=aa (show q1.length<=10 from HNK.out)
 rcases hk5 with hk|hk|hk|hk|hk
 ·subst hk
  have HRB1:=aa (show q1++sb=out from HRB.out.symm)
  go_wp2_with (first|(refine ak 54 (by rfl) _ (by rfl) au aH HX2.out (by rfl) HSZ.out ?_;rw [<- HV.out]))
  refine (HPS.out (HRG2.out (by first|trivial|rfl) (by first|trivial|rfl)) q1 out _ c2 A2 w2 HB2.out rfl (by have:=HLQ.out;omega) HS2.out HRB1.out).mono ?_
  rintro en w3 ⟨A3,c3,rfl,ho3,hb3⟩
  have HO3:=aa (az (base':=w.heap.size) ho3 HB2.out.size)
  have HB3:=aa (HB2.out.trans (hb3.mono HB2.out.size))
  clear ho3 hb3
  go_wp2
  go_ret2
  exact ⟨A3,c3,rfl,HO3.out,HB3.out⟩
 ·subst hk
  have HRB1:=aa (show q1++numB ke=out from HRB.out.symm)
  have r1:=(HX2.out.cell 1).trans HC1.out
  go_wp2_with fail
  refine (aK q1 out ke w2.heap.size A2 _ c2 w2 rfl HRB1.out HKE.out HS2.out (Nat.le_refl _) (by have:=HLQ.out;omega)).mono ?_
  rintro en w3 ⟨A3,c3,rfl,ho3,hb3⟩
  have HO3:=aa (az (base':=w.heap.size) ho3 HB2.out.size)
  have HB3:=aa (HB2.out.trans (hb3.mono HB2.out.size))
  clear ho3 hb3
  go_wp2
  go_ret2
  exact ⟨A3,c3,rfl,HO3.out,HB3.out⟩
 ·subst hk
  have HRB1:=aa (show q1++numB fe=out from HRB.out.symm)
  have r1:=(HX2.out.cell 16).trans HC2.out
  go_wp2_with fail
  refine (aK q1 out fe w2.heap.size A2 _ c2 w2 rfl HRB1.out HFE.out HS2.out (Nat.le_refl _) (by have:=HLQ.out;omega)).mono ?_
  rintro en w3 ⟨A3,c3,rfl,ho3,hb3⟩
  have HO3:=aa (az (base':=w.heap.size) ho3 HB2.out.size)
  have HB3:=aa (HB2.out.trans (hb3.mono HB2.out.size))
  clear ho3 hb3
  go_wp2
  go_ret2
  exact ⟨A3,c3,rfl,HO3.out,HB3.out⟩
 ·subst hk
  have HRB1:=aa (show q1++numB li=out from HRB.out.symm)
  have r1:=(HX2.out.cell 17).trans HC3.out
  go_wp2_with fail
  refine (aK q1 out li w2.heap.size A2 _ c2 w2 rfl HRB1.out HLI.out HS2.out (Nat.le_refl _) (by have:=HLQ.out;omega)).mono ?_
  rintro en w3 ⟨A3,c3,rfl,ho3,hb3⟩
  have HO3:=aa (az (base':=w.heap.size) ho3 HB2.out.size)
  have HB3:=aa (HB2.out.trans (hb3.mono HB2.out.size))
  clear ho3 hb3
  go_wp2
  go_ret2
  exact ⟨A3,c3,rfl,HO3.out,HB3.out⟩
 ·subst hk
  have HRB1:=aa (show q1++cb=out from HRB.out.symm)
  go_wp2_with (first|(refine bi 52 (by rfl) _ (by rfl) rP BV HX2.out (i:=18) (by rfl) HEC.out HCN.out ?_)|fail)
  refine (HCF.out q1 out _ c2 A2 w2 HB2.out rfl (by have:=HLQ.out;omega) HS2.out HRB1.out).mono ?_
  rintro en w3 ⟨A3,c3,rfl,ho3,hb3⟩
  have HO3:=aa (az (base':=w.heap.size) ho3 HB2.out.size)
  have HB3:=aa (HB2.out.trans (hb3.mono HB2.out.size))
  clear ho3 hb3
  go_wp2
  go_ret2
  exact ⟨A3,c3,rfl,HO3.out,HB3.out⟩

structure RecP.snd (p:RecP):Prop where
 may:mayR p=true
 nk:p.ki<=255/\p.ke<=255
 bp:BalIn p.pc p.pn p.pl
 ba:BalIn p.ac p.an p.al
 fe:N64 p.fe
 li:N32 p.li
 get:∀t,getS (regB p.r++t,0)=(p.r,(t,0))
 cc:p.cf.1<18446744073709551616
 co:p.cf.2.1.length<=64
 cn:p.cf.2.2.length<=64
 cm:p.ki=5->mayC p.cf.1 p.cf.2.1 p.cf.2.2=true
 nm:p=fo p
 len:(recB p).length<=2048
theorem qC {p:RecP} (h:mayR p=true):p=fo p:=by
 unfold mayR at h
 rw [Bool.and_eq_true] at h
 exact of_decide_eq_true h.1
theorem kr {p:RecP} (h:mayR p=true):mayG p.r=true:=by
 by_cases hk:p.ki=1
 ·exact rM h hk
 ·have e:=qC h
  have:p.r=zeroP:=by
   rw [e]
   unfold fo
   rw [if_neg hk]
   (repeat' split) <;> rfl
  rw [this]
  rfl
theorem rQ {p:RecP} (h:mayR p=true) (hk:p.ki=5):mayC p.cf.1 p.cf.2.1 p.cf.2.2=true:=by
 unfold mayR iJ at h
 rw [Bool.and_eq_true,if_neg (by omega),if_neg (by omega),if_neg (by omega),if_neg (by omega),if_pos hk] at h
 exact h.2
theorem zC {C:Nat} {o n:List UInt8} (h:mayC C o n=true):o.length<=64/\n.length<=64:=by
 by_cases hC:C % 2=1
 ·rw [rA hC] at h
  simp only [Bool.and_eq_true,okL] at h
  exact ⟨mB h.1.1.2,mB h.1.2.2⟩
 ·rw [kg hC] at h
  simp only [Bool.and_eq_true,okL,decide_eq_true_eq] at h
  exact ⟨by omega,mB h.1.2⟩
theorem oT {p:RecP} (h:mayR p=true):p.cf.2.1.length<=64/\p.cf.2.2.length<=64:=by
 by_cases hk:p.ki=5
 ·exact zC (rQ h hk)
 ·have e:=qC h
  have:p.cf.2.1=[]/\p.cf.2.2=[]:=by
   rw [e]
   unfold fo
   (repeat' split) <;> first|exact ⟨rfl,rfl⟩|(exfalso;omega)
  rw [this.1,this.2]
  exact ⟨by simp,by simp⟩
theorem rR {n:Nat} (h:n<128):(numB n).length<=1:=dw 0 n (by omega)
theorem jC {n:Nat} (h:n<16384):(numB n).length<=2:=dw 1 n (by omega)
theorem dR {n:Int} (h0:0<=n) (h:n<128):(natB n).length<=1:=rR (by omega)
theorem jD {n:Int} (h0:0<=n) (h:n<16384):(natB n).length<=2:=jC (by omega)
theorem wQ {l:List Int} (h:∀x∈l,I64 x) (h1:l.length<=8):(varB l).length<=81:=by
 unfold varB
 rw [List.length_append]
 have h2:=dR (n:=(l.length:Int)) (by omega) (by omega)
 have h3:=cV l fun t ht=>dL t (h t ht)
 omega
theorem BW {w:World} {B:Nat} {r:RegM} (hr:RegM.ok w B r) (hm:mayG r.p=true):(regB r.p).length<=1600:=by
 have hk:=hr.1.1
 unfold U8 at hk
 have h1:=jD (n:=r.p.ki) (by show 0<=r.ki;omega) (by show r.ki<_;omega)
 unfold regB
 rw [List.length_append]
 by_cases hk0:r.p.ki=0
 ·rw [if_pos hk0]
  simp
  omega
 ·rw [if_neg hk0]
  obtain ⟨hinc,⟨hst,hva⟩,⟨hdl,hdc⟩,⟨hol,hoc⟩,hml⟩:=gS (mV hm hk0).1
  obtain ⟨⟨_,hu2,_,hu4⟩,hov,hod,hoo,hom⟩:=hr
  have e1:=bK r.p.inc hu2
  have e2:=dR (n:=r.p.st) hst.1 (by omega)
  have e3:=wQ (l:=r.p.va) hov.2.2.2 hva
  have e4:=dR (n:=(r.p.dn.length:Int)) (by omega) (by omega)
  have e5:(r.p.dn.flatMap donB).length<=107 * r.p.dn.length:=cV (f:=donB) r.p.dn fun z hz=>by
   obtain ⟨d,hd,rfl⟩:=List.mem_map.1 hz
   have g:=hod.2.2.2 d hd
   have q:=(hdc _ hz).2
   have g1:=g.1.1
   have g2:=bK d.sq g.1.2.1
   have g4:=bK d.inc g.1.2.2.2.1
   unfold U8 at g1
   have a1:=jD (n:=d.cl) g1.1 (by omega)
   have a3:=dR (n:=d.er) q.1.1 (by have:=q.1.2;simp only [DoneM.p] at this;omega)
   have a5:=dR (n:=d.st) q.2.1.1 (by have:=q.2.1.2;simp only [DoneM.p] at this;omega)
   have a6:=wQ (l:=d.va.l) g.2.2.2.2 q.2.2
   unfold donB DoneM.p
   simp only [List.length_append]
   omega
  have e6:=dR (n:=(r.p.ou.length:Int)) (by omega) (by omega)
  have e7:(r.p.ou.flatMap celB).length<=24 * r.p.ou.length:=cV (f:=celB) r.p.ou fun z hz=>by
   have g:=hoo.2.2.2 z hz
   have q:=hoc z hz
   have g1:=g.2.1
   unfold U8 at g1
   have a1:=bK z.1 g.1
   have a2:=jD (n:=z.2.1) g1.1 (by omega)
   have a3:=dR (n:=z.2.2.1) q.1 (by omega)
   have a4:=dL z.2.2.2 g.2.2.2
   unfold celB
   simp only [List.length_append]
   omega
  have e8:=bK r.p.la hu4
  have e9:=dR (n:=(r.p.ma.length:Int)) (by omega) (by omega)
  have e10:(r.p.ma.flatMap mrkB).length<=22 * r.p.ma.length:=cV (f:=mrkB) r.p.ma fun z hz=>by
   have g:=hom.2.2.2 z hz
   have g1:=g.1
   unfold U8 at g1
   have a1:=jD (n:=z.1) g1.1 (by omega)
   have a2:=bK z.2.1 g.2.1
   have a3:=bK z.2.2 g.2.2
   unfold mrkB
   simp only [List.length_append]
   omega
  simp only [List.length_append]
  omega
theorem oU {f:List UInt8} (h:f.length<=64):(bG f).length<=129:=by
 have h1:=rR (n:=f.length) (by omega)
 have h2:=cV (f:=ndB) (q:=2) f (fun x _=>jC (by have:=x.toNat_lt;omega))
 unfold bG
 rw [List.length_append]
 omega
theorem BZ {w:World} {B:Nat} {m:RecM} (hm:RecM.good w B m) (h:mayR m.p=true):(recB m.p).length<=2048:=by
 obtain ⟨⟨⟨hki,hke⟩,hbp,hba,hfe,hli⟩,hr,hc⟩:=hm
 unfold N64 at hfe
 unfold N32 at hli
 have hcl:=oT h
 have a1:=jC (n:=m.p.ki) (by show m.ki<_;omega)
 have a2:=jC (n:=m.p.ke) (by show m.ke<_;omega)
 have a3:=eI hbp.1 hbp.2.1 hbp.2.2
 have a4:=eI hba.1 hba.2.1 hba.2.2
 have a5:(regB m.p.r).length<=1600:=BW hr (kr h)
 have a6:=av m.p.fe (by show m.fe<_;omega)
 have a7:=av m.p.li (by show m.li<_;omega)
 have a8:=av m.p.cf.1 hc.1
 have a9:=oU hcl.1
 have a10:=oU hcl.2
 unfold recB oS
 rw [List.length_append]
 have a3':(balB m.p.pc m.p.pn m.p.pl).length<=30:=a3
 have a4':(balB m.p.ac m.p.an m.p.al).length<=30:=a4
 (repeat' split) <;> first|(simp only [jc,confB,List.length_append];omega)|(simp only [List.length_nil];omega)|omega
theorem RecM.good.snd {w:World} {B:Nat} {m:RecM} (hm:RecM.good w B m) (h:mayR m.p=true):RecP.snd m.p:=by
 have hcl:=oT h
 exact ⟨h,hm.1.1,hm.1.2.1,hm.1.2.2.1,hm.1.2.2.2.1,hm.1.2.2.2.2,wB hm.2.1 (kr h),hm.2.2.1,hcl.1,hcl.2,rQ h,qC h,BZ hm h⟩

theorem iP {g n:Nat} {t:List UInt8} {w:World} (h:Rdr w g (numB n++t) 0) (hn:n<=255) (hl:(numB n++t).length<=1000000) :
  Calls Tryz.prog 132 #[.pointer (some ⟨g,0,none⟩)] w (eW w g (.int .u8 n) t 0):=by
 have HC:=aa (iH 255 h hn (by omega) hl)
 clear h hl
 go_enter Tryz.func132,Tryz.ntmps132
 go_wp2_with fail
 refine HC.out.mono ?_
 rintro e w1 ⟨rfl,hr,hg⟩
 go_wp2
 go_ret
 exact ⟨rfl,hr,hg⟩

theorem fP:(Tryz.prog.info? 54).map (fun i=>(i.zero,i.size))=some (some (.agg zeroRec.box),21):=eU
def bf (k:Nat):RecM:={ zeroRec with ki:=k }
theorem zD (k:Nat) (u:World):(Instr.build 54 #[(0, .int .u8 k)]).run Tryz.prog u = .ok (.agg (bf k).box) u:=by kernel_rfl
theorem EY (u:World):(Instr.build 54 #[]).run Tryz.prog u = .ok (.agg zeroRec.box) u:=by kernel_rfl
theorem RecM.one' (m:RecM):m.box.all (·.oneCell')=true:=by simp [RecM.box,Value.oneCell']
theorem RecM.size' (m:RecM):m.box.size=21:=rfl
theorem Ev (k:Nat):¬RegM.ft zeroM k:=by
 rintro (h|h|h|h) <;> rcases h with ⟨_,h,_⟩ | ⟨_,h,_⟩ <;> first|cases h|(simp [zeroM] at h)
theorem CFresh.zero (w:World) (lo:Nat):CFresh w lo zeroCf:=⟨by decide,NFresh.nil w lo,NFresh.nil w lo⟩
theorem CFresh.box {w w':World} {lo z:Nat} {x:CfM} {cs:Array Value} {t:TypeId} (h:CFresh w lo x) (hb:BoxAt w z cs t) (ht:t≠5) (hg:w.grownBy w' (some z)):CFresh w' lo x :=
 ⟨h.1,⟨aM h.2.1.1 (hb.apart9 ht h.2.1.1) hg,h.2.1.2⟩,⟨aM h.2.2.1 (hb.apart9 ht h.2.2.1) hg,h.2.2.2⟩⟩
theorem CFresh.below {w w':World} {lo:Nat} {x:CfM} (h:CFresh w lo x) (hb:Below w.heap.size w w'):CFresh w' lo x :=
 ⟨h.1,⟨ao h.2.1.1 hb,h.2.1.2⟩,⟨ao h.2.2.1 hb,h.2.2.2⟩⟩
theorem CFresh.less {w:World} {lo lo':Nat} {x:CfM} (h:CFresh w lo x) (hl:lo'<=lo):CFresh w lo' x :=
 ⟨h.1,⟨az h.2.1.1 hl,h.2.1.2⟩,⟨az h.2.2.1 hl,h.2.2.2⟩⟩


structure RFresh (w:World) (lo:Nat) (x:RecM):Prop where
 reg:RegM.ok w w.heap.size x.r
 lies:Lies RegM.ft x.r lo w.heap.size
 cf:CFresh w lo x.cf
theorem RFresh.box {w w':World} {lo z:Nat} {x:RecM} {cs:Array Value} (h:RFresh w lo x) (hb:BoxAt w z cs 54) (hz:z<lo) (hg:w.grownBy w' (some z)):RFresh w' lo x :=
 ⟨Local.grown reg_local h.reg hg (fun k hk e=>by injection e with e;have:=(h.lies k hk).1;omega),h.lies.more (Nat.le_refl _) hg.size,h.cf.box hb (by decide) hg⟩
theorem RFresh.below {w w':World} {lo:Nat} {x:RecM} (h:RFresh w lo x) (hb:Below w.heap.size w w'):RFresh w' lo x :=
 ⟨Local.below reg_local h.reg hb,h.lies.more (Nat.le_refl _) hb.size,h.cf.below hb⟩
theorem RFresh.less {w:World} {lo lo':Nat} {x:RecM} (h:RFresh w lo x) (hl:lo'<=lo):RFresh w lo' x:=⟨h.reg,h.lies.more hl (Nat.le_refl _),h.cf.less hl⟩

def DQ (p:RecP) (t:List UInt8) (g:Nat) (w:World) (e:Ending) (w':World):Prop :=
 ∃x:RecM,e = .returned x.v/\x.p=p/\RFresh w' (w.heap.size+2) x/\Rdr w' g t 0/\w.grownBy w' (some g)

theorem zE (p:RecP) (t:List UInt8) (g:Nat) (w:World) (hp:p.snd) (h:Rdr w g (recB p++t) 0) (hl:(recB p++t).length<=1000000) :
  Calls Tryz.prog 66 #[.pointer (some ⟨g,0,none⟩)] w (DQ p t g w):=by
 obtain ⟨R,hR⟩:∃R,DQ p t g w=R:=⟨_,rfl⟩
 rw [hR]
 have HFD:=aa (fun (e:Ending) (w':World) (x:RecM) (h1:e = .returned x.v) (h2:x.p=p) (h3:RFresh w' (w.heap.size+2) x) (h4:Rdr w' g t 0) (h5:w.grownBy w' (some g))=>show R e w' from by rw [<- hR];exact ⟨x,h1,h2,h3,h4,h5⟩)
 have HK:=aa (ko hp.may)
 have HNM:=aa hp.nm
 obtain ⟨hmay,⟨hki,hke⟩,hbp,hba,hfe,hli,hget,hcc,hco,hcn,hcm, -, -⟩:=hp
 obtain ⟨ki,ke,pc,pn,pl,ac,an,al,rp,fe,li,cf⟩:=p
 simp only at hki hke hbp hba hfe hli hget hcc hco hcn hcm HK
 have HGET:=aa hget
 have HBP:=aa hbp
 have HBA:=aa hba
 have HCM:=aa hcm
 have HCC:=aa hcc
 have HCO:=aa hco
 have HCN:=aa hcn
 have HFE:=aa hfe
 have HLI:=aa hli
 have HGL:=aa h.glt
 obtain ⟨s1,hs1⟩:∃s,oS ⟨ki,ke,pc,pn,pl,ac,an,al,rp,fe,li,cf⟩++t=s:=⟨_,rfl⟩
 have e0:recB ⟨ki,ke,pc,pn,pl,ac,an,al,rp,fe,li,cf⟩++t=numB ki++s1:=by rw [<- hs1];simp [recB]
 rw [e0] at h hl
 have HL:=aa (show s1.length<=1000000 from by rw [List.length_append] at hl;omega)
 have HLL:=aa hl
 have HS1:=aa hs1
 have HR0:=aa h
 clear hmay hget hbp hba hcm hcc hco hcn hfe hli hs1 e0 h hl hR
 go_enter Tryz.func66,Tryz.ntmps66
 go_wp2_with (refine aq 54 (by rfl) (by rfl) fP ?_;intro W0 HY0 HB0 HZ0)
 have HR1:=aa (HR0.out.below HB0.out)
 have HG0:=aa (ef (World.grownBy.refl w (some g)) HB0.out)
 have hz0:w.heap.size<W0.heap.size:=HY0.out.lt
 refine (iP HR1.out hki HLL.out).mono ?_
 rintro en w1 ⟨rfl,hr1,hg1⟩
 have HG1:=aa (ag HG0.out hg1)
 have HY1:=aa (show BoxAt w1 w.heap.size zeroRec.box 54 from aB hg1 HY0.out (by have:=HGL.out;omega))
 have HR2:=aa hr1
 have HLO:=aa (show w.heap.size+1<=w1.heap.size from by have:=hg1.size;have:=HZ0.out;omega)
 clear hr1 hg1 HR0 HR1 HG0 HY0 HB0 HZ0 hz0 HLL
 have HBK:=aa (fun u=>zD ki u)
 have HK0:=aa (show (bf ki).box[0]?=some (.int .u8 ki) from rfl)
 have HKS:=aa (bf ki).size'
 have HKO:=aa (bf ki).one'
 obtain ⟨kb,hkb⟩:∃b,(bf ki).box=b:=⟨_,rfl⟩
 simp only [hkb] at HBK HK0 HKS HKO
 have HKB:=aa hkb
 clear hkb
 go_upto_region 2 with (first|(refine fN 54 _ (by rfl) (by rfl) #[(0, .int .u8 ki)] (by kernel_rfl) (HBK.out _) ?_)|(refine aq 54 (by rfl) (by rfl) fP ?_;intro W2 HX2 HB2 HS2)|(refine ai 54 (by rfl) _ _ (by rfl) au (by rfl) (by rfl) (cs:=kb) (by rfl) HKS.out HKO.out HX2.out (by rfl) ?_;intro W3 HX3 HG3 HS3))
 obtain ⟨z1,hz1⟩:∃z,w1.heap.size=z:=⟨_,rfl⟩
 have HZ1:=aa (show w.heap.size<z1 from by rw [<- hz1];exact HY1.out.lt)
 have HZB:=aa (show w.heap.size+2<=W3.heap.size from by have:=HS3.out;have:=HS2.out;have:=HLO.out;omega)
 have HR3:=aa ((HR2.out.below HB2.out).other HG3.out (fun k e=>by injection e with e;have:=HGL.out;have:=HZ1.out;omega))
 have HY3:=aa (show BoxAt W3 w.heap.size zeroRec.box 54 from aB HG3.out (HY1.out.below HB2.out) (by have:=HZ1.out;omega))
 have HG4:=aa (aQ (ef HG1.out (HB2.out.mono HG1.out.size)) HG3.out (fun k e=>by injection e with e;have:=HZ1.out;omega))
 rw [hz1] at HX3 ⊢
 rw [<- HKB.out] at HX3
 clear HX2 HB2 HS2 HG3 HS3 HR2 HY1 HG1 HLO HBK HKS HKO hz1 HK0
 rcases HK.out with hk|hk|hk|hk|hk
 ·subst hk
  have HX4:=aa (show BoxAt W3 z1 (bf 1).box 54 from HX3.out)
  clear HX3 HK
  have HS:=aa (show s1=numB ke++(balB pc pn pl++(balB ac an al++(regB rp++t))) from HS1.out.symm.trans (by simp [oS,jc]))
  rw [HS.out] at HR3 HL
  clear HS HS1
  have r0:=(HX4.out.cell 0).trans (show (bf 1).box[0]?=some (.int .u8 1) from rfl)
  have f0:=HX4.out.free9 0
  have hzx:z1<W3.heap.size:=HX4.out.lt
  have HL2:=aa (show (balB pc pn pl++(balB ac an al++(regB rp++t))).length<=1000000/\(balB ac an al++(regB rp++t)).length<=1000000/\(regB rp++t).length<=1000000 from by have:=HL.out;simp only [List.length_append] at this ⊢;omega)
  go_wp2_with fail
  refine (iP HR3.out hke HL.out).mono ?_
  rintro en w5 ⟨rfl,hr,hg⟩
  have HR5:=aa hr
  have HX5:=aa (show BoxAt w5 z1 _ _ from aB hg HX4.out (by have:=HGL.out;have:=HZ1.out;omega))
  have HY5:=aa (show BoxAt w5 w.heap.size zeroRec.box 54 from aB hg HY3.out (by have:=HGL.out;omega))
  have HG5:=aa (ag HG4.out hg)
  clear hr hg r0 f0 hzx
  have hzx:z1<w5.heap.size:=HX5.out.lt
  have r0:=(HX5.out.cell 1).trans (show (bf 1).box[1]?=some (.int .u8 0) from rfl)
  have f0:=HX5.out.free9 1
  go_upto_region 6 with fail
  generalize hw6:w5.setCell ⟨z1,1,none⟩ (.int .u8 ke)=w6
  have HX6:=aa (show BoxAt w6 z1 (RecM.box { bf 1 with ke:=ke }) 54 from hw6 ▸ HX5.out.set9 1 (.int .u8 ke))
  have HY6:=aa (show BoxAt w6 w.heap.size zeroRec.box 54 from hw6 ▸ ee HY5.out (by have:=HZ1.out;omega))
  have HR6:=aa (show Rdr w6 g _ 0 from hw6 ▸ HR5.out.stored (by have:=HZ1.out;have:=HGL.out;omega))
  have HG6:=aa (show w.grownBy w6 (some g) from hw6 ▸ ab HG5.out (by have:=HZ1.out;omega))
  clear hw6 r0 f0 hzx HX5 HY5 HR5 HG5 HX4 HY3 HR3 HG4
  have hzx:z1<w6.heap.size:=HX6.out.lt
  go_wp2_with fail
  refine (lu HR6.out HBP.out HL2.out.1).mono ?_
  rintro en w7 ⟨rfl,hr,hg⟩
  have HR7:=aa hr
  have HX7:=aa (show BoxAt w7 z1 _ _ from aB hg HX6.out (by have:=HGL.out;have:=HZ1.out;omega))
  have HY7:=aa (show BoxAt w7 w.heap.size zeroRec.box 54 from aB hg HY6.out (by have:=HGL.out;omega))
  have HG7:=aa (ag HG6.out hg)
  clear hr hg hzx HR6 HX6 HY6 HG6
  have hzx:z1<w7.heap.size:=HX7.out.lt
  go_upto_region 7 with (refine bu 49 (by rfl) _ _ (by rfl) gW (i:=2) (by rfl) (by rfl) (cells := #[.int .u64 pc, .int .u8 pn, .int .u32 pl]) (by rfl) (by rfl) (by simp [Value.oneCell']) HX7.out (by rw [RecM.size'];omega) ?_;intro w8 HXW HGW HSW)
  have HX8:=aa (show BoxAt w8 z1 (RecM.box { bf 1 with ke:=ke,pc:=pc,pn:=pn,pl:=pl }) 54 from HXW.out)
  have HY8:=aa (show BoxAt w8 w.heap.size zeroRec.box 54 from aB HGW.out HY7.out (by have:=HZ1.out;omega))
  have HR8:=aa (HR7.out.other HGW.out (fun k e=>by injection e with e;have:=HGL.out;have:=HZ1.out;omega))
  have HG8:=aa (aQ HG7.out HGW.out (fun k e=>by injection e with e;have:=HZ1.out;omega))
  have HZ8:=aa (show w8.heap.size=w7.heap.size from HSW.out)
  clear hzx HXW HGW HSW HR7 HX7 HY7 HG7
  have hzx:z1<w8.heap.size:=HX8.out.lt
  go_wp2_with fail
  refine (lu HR8.out HBA.out HL2.out.2.1).mono ?_
  rintro en w9 ⟨rfl,hr,hg⟩
  have HR9:=aa hr
  have HX9:=aa (show BoxAt w9 z1 _ _ from aB hg HX8.out (by have:=HGL.out;have:=HZ1.out;omega))
  have HY9:=aa (show BoxAt w9 w.heap.size zeroRec.box 54 from aB hg HY8.out (by have:=HGL.out;omega))
  have HG9:=aa (ag HG8.out hg)
  clear hr hg hzx HR8 HX8 HY8 HG8
  have hzx:z1<w9.heap.size:=HX9.out.lt
  go_upto_region 8 with (refine bu 49 (by rfl) _ _ (by rfl) gW (i:=5) (by rfl) (by rfl) (cells := #[.int .u64 ac, .int .u8 an, .int .u32 al]) (by rfl) (by rfl) (by simp [Value.oneCell']) HX9.out (by rw [RecM.size'];omega) ?_;intro w10 HXW HGW HSW)
  have HX10:=aa (show BoxAt w10 z1 (RecM.box { bf 1 with ke:=ke,pc:=pc,pn:=pn,pl:=pl,ac:=ac,an:=an,al:=al }) 54 from HXW.out)
  have HY10:=aa (show BoxAt w10 w.heap.size zeroRec.box 54 from aB HGW.out HY9.out (by have:=HZ1.out;omega))
  have HR10:=aa (HR9.out.other HGW.out (fun k e=>by injection e with e;have:=HGL.out;have:=HZ1.out;omega))
  have HG10:=aa (aQ HG9.out HGW.out (fun k e=>by injection e with e;have:=HZ1.out;omega))
  have HZ10:=aa (show w10.heap.size=w9.heap.size from HSW.out)
  clear hzx HXW HGW HSW HR9 HX9 HY9 HG9
  have hzx:z1<w10.heap.size:=HX10.out.lt
  go_wp2_with fail
  refine (tA HGET.out HR10.out HL2.out.2.2).mono ?_
  rintro en w11 ⟨y,rfl,hyp,hyo,hyl,hr,hg⟩
  have HYP:=aa hyp
  have HZW:=aa (show w.heap.size+2<=w10.heap.size from by have h1:=HG10.out.size;have h2:=HX10.out.lt;have h3:=HZ1.out;omega)
  have HR11:=aa hr
  have HX11:=aa (show BoxAt w11 z1 _ _ from aB hg HX10.out (by have:=HGL.out;have:=HZ1.out;omega))
  have HY11:=aa (show BoxAt w11 w.heap.size zeroRec.box 54 from aB hg HY10.out (by have:=HGL.out;omega))
  have HG11:=aa (ag HG10.out hg)
  have HYO:=aa hyo
  have HYZ:=aa (hyl.more (show z1+1<=w10.heap.size from HX10.out.lt) (Nat.le_refl _))
  have HYL:=aa (hyl.more HZW.out (Nat.le_refl _))
  clear hr hg hzx HR10 HX10 HY10 HG10 hyp hyo hyl
  have hzx:z1<w11.heap.size:=HX11.out.lt
  have HRV:=aa (show y.v = .agg y.cs.toArray from rfl)
  have HRN:=aa (show y.cs.toArray.size=8 from rfl)
  have HRO:=aa (show y.cs.toArray.all (·.oneCell')=true from by simp [RegM.cs,Sl.v,Value.oneCell'])
  have HSP:=aa (show splice (RecM.box { bf 1 with ke:=ke,pc:=pc,pn:=pn,pl:=pl,ac:=ac,an:=an,al:=al }) 8 y.cs.toArray.toList=RecM.box { bf 1 with ke:=ke,pc:=pc,pn:=pn,pl:=pl,ac:=ac,an:=an,al:=al,r:=y } from rfl)
  obtain ⟨yc,hyc⟩:∃c,y.cs.toArray=c:=⟨_,rfl⟩
  rw [hyc] at HRV HRN HRO HSP
  rw [HRV.out]
  clear hyc
  go_upto_region 17 with (refine bu 31 (by rfl) _ _ (by rfl) gX (i:=8) (by rfl) (by rfl) (cells:=yc) (by rfl) HRN.out HRO.out HX11.out (by rw [RecM.size'];omega) ?_;intro w12 HXW HGW HSW)
  have HX12:=aa HXW.out
  rw [HSP.out] at HX12
  have HY12:=aa (show BoxAt w12 w.heap.size zeroRec.box 54 from aB HGW.out HY11.out (by have:=HZ1.out;omega))
  have HR12:=aa (HR11.out.other HGW.out (fun k e=>by injection e with e;have:=HGL.out;have:=HZ1.out;omega))
  have HG12:=aa (aQ HG11.out HGW.out (fun k e=>by injection e with e;have:=HZ1.out;omega))
  have HF12:=aa (show RFresh w12 (w.heap.size+2) { bf 1 with ke:=ke,pc:=pc,pn:=pn,pl:=pl,ac:=ac,an:=an,al:=al,r:=y } from ⟨Local.grown reg_local HYO.out HGW.out (fun k hk e=>by injection e with e;have:=(HYZ.out k hk).1;omega),HYL.out.more (Nat.le_refl _) HGW.out.size,CFresh.zero _ _⟩)
  clear hzx HXW HGW HSW HR11 HX11 HY11 HG11 HRV HRN HRO HSP
  have hzx:z1<w12.heap.size:=HX12.out.lt
  have hzy:w.heap.size<w12.heap.size:=HY12.out.lt
  rw [<- HYP.out] at HNM HFD
  have HFR:=aa (show RFresh w12 (w.heap.size+2) { bf 1 with ke:=ke,pc:=pc,pn:=pn,pl:=pl,ac:=ac,an:=an,al:=al,r:=y } from HF12.out)
  have HXP:=aa (show RecM.p { bf 1 with ke:=ke,pc:=pc,pn:=pn,pl:=pl,ac:=ac,an:=an,al:=al,r:=y }=_ from Eq.trans (by rfl) HNM.out.symm)
  have HXE:=aa (show BoxAt w12 z1 (RecM.box { bf 1 with ke:=ke,pc:=pc,pn:=pn,pl:=pl,ac:=ac,an:=an,al:=al,r:=y }) 54 from HX12.out)
  have HYE:=aa HY12.out
  have HRE:=aa HR12.out
  have HGE:=aa HG12.out
  obtain ⟨x,hx⟩:∃x,{ bf 1 with ke:=ke,pc:=pc,pn:=pn,pl:=pl,ac:=ac,an:=an,al:=al,r:=y }=x:=⟨_,rfl⟩
  rw [hx] at HFR HXP HXE
  have HXV:=aa (show x.v = .agg x.box from rfl)
  have HXS:=aa x.size'
  have HXO:=aa x.one'
  obtain ⟨xb,hxb⟩:∃b,x.box=b:=⟨_,rfl⟩
  rw [hxb] at HXE HXV HXS HXO
  clear hx hxb
  go_wp2_with (first|(refine ak 54 (by rfl) _ (by rfl) au aH HXE.out (by rfl) HXS.out ?_)|(refine ai 54 (by rfl) _ _ (by rfl) au (by rfl) (by rfl) (cs:=xb) (by rfl) HXS.out HXO.out HYE.out (by rfl) ?_;intro W9 HX9 HG9 HS9))
  refine bodyPost_ret (aD au aH (by rfl) (by rfl) HX9.out HXS.out) rfl ?_
  exact HFD.out _ _ x (by rw [HXV.out]) HXP.out (HFR.out.box HYE.out (by omega) HG9.out) (HRE.out.other HG9.out (fun k e=>by injection e with e;have:=HGL.out;omega)) (aQ HGE.out HG9.out (fun k e=>by injection e with e;omega))
 ·subst hk
  have HX4:=aa (show BoxAt W3 z1 (bf 2).box 54 from HX3.out)
  clear HX3 HK
  have HS:=aa (show s1=numB ke++t from HS1.out.symm.trans (by simp [oS]))
  rw [HS.out] at HR3 HL
  clear HS HS1
  have r0:=(HX4.out.cell 0).trans (show (bf 2).box[0]?=some (.int .u8 2) from rfl)
  have f0:=HX4.out.free9 0
  have hzx:z1<W3.heap.size:=HX4.out.lt
  go_wp2_with fail
  refine (iP HR3.out hke HL.out).mono ?_
  rintro en w5 ⟨rfl,hr,hg⟩
  have HR5:=aa hr
  have HX5:=aa (show BoxAt w5 z1 _ _ from aB hg HX4.out (by have:=HGL.out;have:=HZ1.out;omega))
  have HY5:=aa (show BoxAt w5 w.heap.size zeroRec.box 54 from aB hg HY3.out (by have:=HGL.out;omega))
  have HG5:=aa (ag HG4.out hg)
  clear hr hg r0 f0 hzx
  have hzx:z1<w5.heap.size:=HX5.out.lt
  have r0:=(HX5.out.cell 1).trans (show (bf 2).box[1]?=some (.int .u8 0) from rfl)
  have f0:=HX5.out.free9 1
  go_upto_region 17 with fail
  generalize hw6:w5.setCell ⟨z1,1,none⟩ (.int .u8 ke)=w6
  have HX6:=aa (show BoxAt w6 z1 (RecM.box { bf 2 with ke:=ke }) 54 from hw6 ▸ HX5.out.set9 1 (.int .u8 ke))
  have HY6:=aa (show BoxAt w6 w.heap.size zeroRec.box 54 from hw6 ▸ ee HY5.out (by have:=HZ1.out;omega))
  have HR6:=aa (show Rdr w6 g _ 0 from hw6 ▸ HR5.out.stored (by have:=HZ1.out;have:=HGL.out;omega))
  have HG6:=aa (show w.grownBy w6 (some g) from hw6 ▸ ab HG5.out (by have:=HZ1.out;omega))
  clear hw6 r0 f0 hzx HX5 HY5 HR5 HG5 HX4 HY3 HR3 HG4
  have hzx:z1<w6.heap.size:=HX6.out.lt
  have hzy:w.heap.size<w6.heap.size:=HY6.out.lt
  have HFR:=aa (show RFresh w6 (w.heap.size+2) { bf 2 with ke:=ke } from ⟨bA _ _,cY _ _,CFresh.zero _ _⟩)
  have HXP:=aa (show RecM.p { bf 2 with ke:=ke }=_ from Eq.trans (by rfl) HNM.out.symm)
  have HXE:=aa (show BoxAt w6 z1 (RecM.box { bf 2 with ke:=ke }) 54 from HX6.out)
  have HYE:=aa HY6.out
  have HRE:=aa HR6.out
  have HGE:=aa HG6.out
  obtain ⟨x,hx⟩:∃x,{ bf 2 with ke:=ke }=x:=⟨_,rfl⟩
  rw [hx] at HFR HXP HXE
  have HXV:=aa (show x.v = .agg x.box from rfl)
  have HXS:=aa x.size'
  have HXO:=aa x.one'
  obtain ⟨xb,hxb⟩:∃b,x.box=b:=⟨_,rfl⟩
  rw [hxb] at HXE HXV HXS HXO
  clear hx hxb
  go_wp2_with (first|(refine ak 54 (by rfl) _ (by rfl) au aH HXE.out (by rfl) HXS.out ?_)|(refine ai 54 (by rfl) _ _ (by rfl) au (by rfl) (by rfl) (cs:=xb) (by rfl) HXS.out HXO.out HYE.out (by rfl) ?_;intro W9 HX9 HG9 HS9))
  refine bodyPost_ret (aD au aH (by rfl) (by rfl) HX9.out HXS.out) rfl ?_
  exact HFD.out _ _ x (by rw [HXV.out]) HXP.out (HFR.out.box HYE.out (by omega) HG9.out) (HRE.out.other HG9.out (fun k e=>by injection e with e;have:=HGL.out;omega)) (aQ HGE.out HG9.out (fun k e=>by injection e with e;omega))
 ·subst hk
  have HX4:=aa (show BoxAt W3 z1 (bf 3).box 54 from HX3.out)
  clear HX3 HK
  have HS:=aa (show s1=numB fe++t from HS1.out.symm.trans (by simp [oS]))
  rw [HS.out] at HR3 HL
  clear HS HS1
  have r0:=(HX4.out.cell 0).trans (show (bf 3).box[0]?=some (.int .u8 3) from rfl)
  have f0:=HX4.out.free9 0
  have hzx:z1<W3.heap.size:=HX4.out.lt
  go_wp2_with fail
  refine (iH 18446744073709551615 HR3.out (by have:=HFE.out;unfold N64 at this;omega) (by have:=HFE.out;unfold N64 at this;omega) HL.out).mono ?_
  rintro en w5 ⟨rfl,hr,hg⟩
  have HR5:=aa hr
  have HX5:=aa (show BoxAt w5 z1 _ _ from aB hg HX4.out (by have:=HGL.out;have:=HZ1.out;omega))
  have HY5:=aa (show BoxAt w5 w.heap.size zeroRec.box 54 from aB hg HY3.out (by have:=HGL.out;omega))
  have HG5:=aa (ag HG4.out hg)
  clear hr hg r0 f0 hzx
  have hzx:z1<w5.heap.size:=HX5.out.lt
  have r0:=(HX5.out.cell 16).trans (show (bf 3).box[16]?=some (.int .u64 0) from rfl)
  have f0:=HX5.out.free9 16
  go_upto_region 17 with fail
  generalize hw6:w5.setCell ⟨z1,16,none⟩ (.int .u64 fe)=w6
  have HX6:=aa (show BoxAt w6 z1 (RecM.box { bf 3 with fe:=fe }) 54 from hw6 ▸ HX5.out.set9 16 (.int .u64 fe))
  have HY6:=aa (show BoxAt w6 w.heap.size zeroRec.box 54 from hw6 ▸ ee HY5.out (by have:=HZ1.out;omega))
  have HR6:=aa (show Rdr w6 g _ 0 from hw6 ▸ HR5.out.stored (by have:=HZ1.out;have:=HGL.out;omega))
  have HG6:=aa (show w.grownBy w6 (some g) from hw6 ▸ ab HG5.out (by have:=HZ1.out;omega))
  clear hw6 r0 f0 hzx HX5 HY5 HR5 HG5 HX4 HY3 HR3 HG4
  have hzx:z1<w6.heap.size:=HX6.out.lt
  have hzy:w.heap.size<w6.heap.size:=HY6.out.lt
  have HFR:=aa (show RFresh w6 (w.heap.size+2) { bf 3 with fe:=fe } from ⟨bA _ _,cY _ _,CFresh.zero _ _⟩)
  have HXP:=aa (show RecM.p { bf 3 with fe:=fe }=_ from Eq.trans (by rfl) HNM.out.symm)
  have HXE:=aa (show BoxAt w6 z1 (RecM.box { bf 3 with fe:=fe }) 54 from HX6.out)
  have HYE:=aa HY6.out
  have HRE:=aa HR6.out
  have HGE:=aa HG6.out
  obtain ⟨x,hx⟩:∃x,{ bf 3 with fe:=fe }=x:=⟨_,rfl⟩
  rw [hx] at HFR HXP HXE
  have HXV:=aa (show x.v = .agg x.box from rfl)
  have HXS:=aa x.size'
  have HXO:=aa x.one'
  obtain ⟨xb,hxb⟩:∃b,x.box=b:=⟨_,rfl⟩
  rw [hxb] at HXE HXV HXS HXO
  clear hx hxb
  go_wp2_with (first|(refine ak 54 (by rfl) _ (by rfl) au aH HXE.out (by rfl) HXS.out ?_)|(refine ai 54 (by rfl) _ _ (by rfl) au (by rfl) (by rfl) (cs:=xb) (by rfl) HXS.out HXO.out HYE.out (by rfl) ?_;intro W9 HX9 HG9 HS9))
  refine bodyPost_ret (aD au aH (by rfl) (by rfl) HX9.out HXS.out) rfl ?_
  exact HFD.out _ _ x (by rw [HXV.out]) HXP.out (HFR.out.box HYE.out (by omega) HG9.out) (HRE.out.other HG9.out (fun k e=>by injection e with e;have:=HGL.out;omega)) (aQ HGE.out HG9.out (fun k e=>by injection e with e;omega))
 ·subst hk
  have HX4:=aa (show BoxAt W3 z1 (bf 4).box 54 from HX3.out)
  clear HX3 HK
  have HS:=aa (show s1=numB li++t from HS1.out.symm.trans (by simp [oS]))
  rw [HS.out] at HR3 HL
  clear HS HS1
  have r0:=(HX4.out.cell 0).trans (show (bf 4).box[0]?=some (.int .u8 4) from rfl)
  have f0:=HX4.out.free9 0
  have hzx:z1<W3.heap.size:=HX4.out.lt
  go_wp2_with fail
  refine (iH 4294967295 HR3.out (by have:=HLI.out;unfold N32 at this;omega) (by have:=HLI.out;unfold N32 at this;omega) HL.out).mono ?_
  rintro en w5 ⟨rfl,hr,hg⟩
  have HR5:=aa hr
  have HX5:=aa (show BoxAt w5 z1 _ _ from aB hg HX4.out (by have:=HGL.out;have:=HZ1.out;omega))
  have HY5:=aa (show BoxAt w5 w.heap.size zeroRec.box 54 from aB hg HY3.out (by have:=HGL.out;omega))
  have HG5:=aa (ag HG4.out hg)
  clear hr hg r0 f0 hzx
  have hzx:z1<w5.heap.size:=HX5.out.lt
  have r0:=(HX5.out.cell 17).trans (show (bf 4).box[17]?=some (.int .u32 0) from rfl)
  have f0:=HX5.out.free9 17
  have hli32:li<=4294967295:=HLI.out
  go_upto_region 17 with fail
  generalize hw6:w5.setCell ⟨z1,17,none⟩ (.int .u32 li)=w6
  have HX6:=aa (show BoxAt w6 z1 (RecM.box { bf 4 with li:=li }) 54 from hw6 ▸ HX5.out.set9 17 (.int .u32 li))
  have HY6:=aa (show BoxAt w6 w.heap.size zeroRec.box 54 from hw6 ▸ ee HY5.out (by have:=HZ1.out;omega))
  have HR6:=aa (show Rdr w6 g _ 0 from hw6 ▸ HR5.out.stored (by have:=HZ1.out;have:=HGL.out;omega))
  have HG6:=aa (show w.grownBy w6 (some g) from hw6 ▸ ab HG5.out (by have:=HZ1.out;omega))
  clear hw6 r0 f0 hzx HX5 HY5 HR5 HG5 HX4 HY3 HR3 HG4
  have hzx:z1<w6.heap.size:=HX6.out.lt
  have hzy:w.heap.size<w6.heap.size:=HY6.out.lt
  have HFR:=aa (show RFresh w6 (w.heap.size+2) { bf 4 with li:=li } from ⟨bA _ _,cY _ _,CFresh.zero _ _⟩)
  have HXP:=aa (show RecM.p { bf 4 with li:=li }=_ from Eq.trans (by rfl) HNM.out.symm)
  have HXE:=aa (show BoxAt w6 z1 (RecM.box { bf 4 with li:=li }) 54 from HX6.out)
  have HYE:=aa HY6.out
  have HRE:=aa HR6.out
  have HGE:=aa HG6.out
  obtain ⟨x,hx⟩:∃x,{ bf 4 with li:=li }=x:=⟨_,rfl⟩
  rw [hx] at HFR HXP HXE
  have HXV:=aa (show x.v = .agg x.box from rfl)
  have HXS:=aa x.size'
  have HXO:=aa x.one'
  obtain ⟨xb,hxb⟩:∃b,x.box=b:=⟨_,rfl⟩
  rw [hxb] at HXE HXV HXS HXO
  clear hx hxb
  go_wp2_with (first|(refine ak 54 (by rfl) _ (by rfl) au aH HXE.out (by rfl) HXS.out ?_)|(refine ai 54 (by rfl) _ _ (by rfl) au (by rfl) (by rfl) (cs:=xb) (by rfl) HXS.out HXO.out HYE.out (by rfl) ?_;intro W9 HX9 HG9 HS9))
  refine bodyPost_ret (aD au aH (by rfl) (by rfl) HX9.out HXS.out) rfl ?_
  exact HFD.out _ _ x (by rw [HXV.out]) HXP.out (HFR.out.box HYE.out (by omega) HG9.out) (HRE.out.other HG9.out (fun k e=>by injection e with e;have:=HGL.out;omega)) (aQ HGE.out HG9.out (fun k e=>by injection e with e;omega))
 ·subst hk
  have HX4:=aa (show BoxAt W3 z1 (bf 5).box 54 from HX3.out)
  clear HX3 HK
  have HS:=aa (show s1=confB cf++t from HS1.out.symm.trans (by simp [oS]))
  rw [HS.out] at HR3 HL
  clear HS HS1
  have r0:=(HX4.out.cell 0).trans (show (bf 5).box[0]?=some (.int .u8 5) from rfl)
  have f0:=HX4.out.free9 0
  have hzx:z1<W3.heap.size:=HX4.out.lt
  go_wp2_with fail
  refine (qy cf t g W3 HCC.out HCO.out HCN.out (HCM.out (by first|trivial|rfl)) HR3.out HL.out).mono ?_
  rintro en w5 ⟨y,rfl,hyp,hyf,hr,hg⟩
  have HYP:=aa hyp
  have HYF:=aa (hyf.less HZB.out)
  clear hyp hyf
  have HR5:=aa hr
  have HX5:=aa (show BoxAt w5 z1 _ _ from aB hg HX4.out (by have:=HGL.out;have:=HZ1.out;omega))
  have HY5:=aa (show BoxAt w5 w.heap.size zeroRec.box 54 from aB hg HY3.out (by have:=HGL.out;omega))
  have HG5:=aa (ag HG4.out hg)
  clear hr hg r0 f0 hzx
  have hzx:z1<w5.heap.size:=HX5.out.lt
  have HRV:=aa (show y.v = .agg y.cs.toArray from rfl)
  have HRN:=aa (show y.cs.toArray.size=3 from rfl)
  have HRO:=aa (show y.cs.toArray.all (·.oneCell')=true from by simp [CfM.cs,NdM.v,Value.oneCell'])
  have HSP:=aa (show splice (RecM.box (bf 5)) 18 y.cs.toArray.toList=RecM.box { bf 5 with cf:=y } from rfl)
  obtain ⟨yc,hyc⟩:∃c,y.cs.toArray=c:=⟨_,rfl⟩
  rw [hyc] at HRV HRN HRO HSP
  rw [HRV.out]
  clear hyc
  go_upto_region 17 with (refine bu 52 (by rfl) _ _ (by rfl) rP (i:=18) (by rfl) (by rfl) (cells:=yc) (by rfl) HRN.out HRO.out HX5.out (by rw [RecM.size'];omega) ?_;intro w6 HXW HGW HSW)
  have HX6:=aa HXW.out
  rw [HSP.out] at HX6
  have HY6:=aa (show BoxAt w6 w.heap.size zeroRec.box 54 from aB HGW.out HY5.out (by have:=HZ1.out;omega))
  have HR6:=aa (HR5.out.other HGW.out (fun k e=>by injection e with e;have:=HGL.out;have:=HZ1.out;omega))
  have HG6:=aa (aQ HG5.out HGW.out (fun k e=>by injection e with e;have:=HZ1.out;omega))
  have HF6:=aa (show RFresh w6 (w.heap.size+2) { bf 5 with cf:=y } from ⟨bA _ _,cY _ _,HYF.out.box HX5.out (by decide) HGW.out⟩)
  clear hzx HXW HGW HSW HX5 HY5 HR5 HG5 HX4 HY3 HR3 HG4 HRV HRN HRO HSP
  have hzx:z1<w6.heap.size:=HX6.out.lt
  have hzy:w.heap.size<w6.heap.size:=HY6.out.lt
  rw [<- HYP.out] at HNM HFD
  have HFR:=aa (show RFresh w6 (w.heap.size+2) { bf 5 with cf:=y } from HF6.out)
  have HXP:=aa (show RecM.p { bf 5 with cf:=y }=_ from Eq.trans (by rfl) HNM.out.symm)
  have HXE:=aa (show BoxAt w6 z1 (RecM.box { bf 5 with cf:=y }) 54 from HX6.out)
  have HYE:=aa HY6.out
  have HRE:=aa HR6.out
  have HGE:=aa HG6.out
  obtain ⟨x,hx⟩:∃x,{ bf 5 with cf:=y }=x:=⟨_,rfl⟩
  rw [hx] at HFR HXP HXE
  have HXV:=aa (show x.v = .agg x.box from rfl)
  have HXS:=aa x.size'
  have HXO:=aa x.one'
  obtain ⟨xb,hxb⟩:∃b,x.box=b:=⟨_,rfl⟩
  rw [hxb] at HXE HXV HXS HXO
  clear hx hxb
  go_wp2_with (first|(refine ak 54 (by rfl) _ (by rfl) au aH HXE.out (by rfl) HXS.out ?_)|(refine ai 54 (by rfl) _ _ (by rfl) au (by rfl) (by rfl) (cs:=xb) (by rfl) HXS.out HXO.out HYE.out (by rfl) ?_;intro W9 HX9 HG9 HS9))
  refine bodyPost_ret (aD au aH (by rfl) (by rfl) HX9.out HXS.out) rfl ?_
  exact HFD.out _ _ x (by rw [HXV.out]) HXP.out (HFR.out.box HYE.out (by omega) HG9.out) (HRE.out.other HG9.out (fun k e=>by injection e with e;have:=HGL.out;omega)) (aQ HGE.out HG9.out (fun k e=>by injection e with e;omega))

def GotR (p:RecP) (w:World) (e:Ending) (w':World):Prop :=
 ∃x:RecM,e = .returned (.tuple #[x.v, .int .i64 0])/\x.p=p/\RecM.good w' w'.heap.size x/\Below w.heap.size w w'
theorem RecP.snd.ok {p:RecP} {x:RecM} (hp:p.snd) (h:x.p=p):x.ok':=by
 subst h
 exact ⟨hp.nk,hp.bp,hp.ba,hp.fe,hp.li⟩
theorem RFresh.good {w:World} {lo:Nat} {x:RecM} (h:RFresh w lo x) (hk:x.ok'):RecM.good w w.heap.size x:=⟨hk,h.reg,h.cf.ok⟩

theorem qD (l:List UInt8) (p:RecP) (B:Nat) (A:Option Addr) (n c:Nat) (w:World) (hp:p.snd) (hl:recB p=l) (hn:l.length=n) (hs:Sees w B A (bv l)) (hB:B<=w.heap.size) :
  Calls Tryz.prog 22 #[.slice A n c] w (GotR p w):=by
 have HTK:=aa (fun (g:Nat) (u:World) (h:Rdr u g l 0)=>zE p [] g u hp (by rw [List.append_nil,hl];exact h) (by rw [List.append_nil];have:=hp.len;omega))
 have HOK:=aa (fun (x:RecM) (h:x.p=p)=>hp.ok h)
 have HMY:=aa (fun (x:RecM) (u:World) (h:x.p=p) (hx:RecM.good u u.heap.size x)=>show Calls Tryz.prog 20 #[x.v] u fun e w'=>e = .returned (.bool true)/\Below u.heap.size u w' from by have g:=cJ x u.heap.size u hx (Nat.le_refl _);rw [h,hp.may] at g;exact g)
 have HN:=aa hn
 have HNN:=aa (show n<=2048 from by have:=hp.len;rw [hl] at this;omega)
 have HS:=aa (fun (u:World) (h:Below w.heap.size w u)=>(⟨hs.below (h.mono hB),Nat.le_trans hB h.size⟩:Sees u B A (bv l)/\B<=u.heap.size))
 clear hp hl hn hs hB
 go_enter Tryz.func22,Tryz.ntmps22
 go_wp2_with (refine aq 54 (by rfl) (by rfl) fP ?_;intro W0 HY0 HB0 HZ0)
 have hz0:w.heap.size<W0.heap.size:=HY0.out.lt
 refine (mo l B A n c W0 HN.out (HS.out _ HB0.out).1 (HS.out _ HB0.out).2 (by have:=HNN.out;omega)).mono ?_
 rintro en w1 ⟨g,rfl,hg,hr1,hb1⟩
 have HB1:=aa (HB0.out.trans (hb1.mono HB0.out.size))
 have HY1:=aa (HY0.out.below hb1)
 have HR1:=aa hr1
 have HG:=aa (show w.heap.size<g from Nat.lt_of_lt_of_le HY0.out.lt hg)
 clear hg hr1 hb1 HY0 HB0 HZ0 hz0
 go_wp2_with fail
 refine (HTK.out g w1 HR1.out).mono ?_
 rintro en w2 ⟨x,rfl,hxp,hxf,hr2,hg2⟩
 have HXP:=aa hxp
 have HXF:=aa (show RFresh w2 (w.heap.size+1) x from hxf.less (by have:=HY1.out.lt;omega))
 have HR2:=aa hr2
 have HY2:=aa (show BoxAt w2 w.heap.size zeroRec.box 54 from aB hg2 HY1.out (by have:=HG.out;omega))
 have HB2:=aa (HB1.out.grown hg2 HB1.out.size fun j hj=>by injection hj with hj;have:=HG.out;omega)
 have HOX:=aa (HOK.out x hxp)
 clear hxp hxf hr2 hg2 HR1 HY1 HB1 HTK HOK
 have HXS:=aa x.size'
 have HXO:=aa x.one'
 have HXV:=aa (show x.v = .agg x.box from rfl)
 have HMX:=aa (fun (u:World) (hx:RecM.good u u.heap.size x)=>HMY.out x u HXP.out hx)
 obtain ⟨xb,hxb⟩:∃b,x.box=b:=⟨_,rfl⟩
 rw [hxb] at HXS HXO HXV
 simp only [HXV.out] at HMX
 rw [HXV.out]
 have HXB:=aa hxb
 clear hxb HMY
 go_upto_region 3 with (first|(refine aq 54 (by rfl) (by rfl) fP ?_;intro W3 HX3 HB3 HS3)|(refine ai 54 (by rfl) _ _ (by rfl) au (by rfl) (by rfl) (cs:=xb) (by rfl) HXS.out HXO.out HX3.out (by rfl) ?_;intro W4 HX4 HG4 HS4))
 have HLT:=aa (show g<w2.heap.size from HR2.out.glt)
 have HBW:=aa (show Below w2.heap.size w2 W4 from HB3.out.grown HG4.out HB3.out.size fun j hj=>by injection hj with hj;omega)
 have HR4:=aa (HR2.out.below HBW.out)
 have HY4:=aa (HY2.out.below HBW.out)
 have HF4:=aa (HXF.out.below HBW.out)
 have HB4:=aa (HB2.out.trans (HBW.out.mono HB2.out.size))
 obtain ⟨z5,hz5⟩:∃z,w2.heap.size=z:=⟨_,rfl⟩
 rw [hz5] at HX4 ⊢
 clear hz5 HX3 HB3 HS3 HG4 HS4 HBW HR2 HY2 HXF HB2 HLT
 have hzx:z5<W4.heap.size:=HX4.out.lt
 go_wp2_with fail
 refine (n9 (s:=([],0)) HR4.out).mono ?_
 rintro en w5 ⟨rfl,rfl⟩
 rw [show endS (([] : List UInt8),0)=0 from rfl]
 go_wp2_with (refine ak 54 (by rfl) _ (by rfl) au aH HX4.out (by rfl) HXS.out ?_)
 refine (HMX.out _ (HF4.out.good HOX.out)).mono ?_
 rintro en w6 ⟨rfl,hb6⟩
 have HB6:=aa (HB4.out.trans (hb6.mono HB4.out.size))
 have HX6:=aa (HX4.out.below hb6)
 have HY6:=aa (HY4.out.below hb6)
 have HF6:=aa (HF4.out.below hb6)
 clear hb6 hzx HX4 HY4 HF4 HB4 HMX
 have hzx:z5<w6.heap.size:=HX6.out.lt
 have hzy:w.heap.size<w6.heap.size:=HY6.out.lt
 go_wp2_with (first|(refine ak 54 (by rfl) _ (by rfl) au aH HX6.out (by rfl) HXS.out ?_)|(refine ai 54 (by rfl) _ _ (by rfl) au (by rfl) (by rfl) (cs:=xb) (by rfl) HXS.out HXO.out HY6.out (by rfl) ?_;intro W7 HX7 HG7 HS7))
 refine bodyPost_ret (v := .tuple #[.agg xb, .int .i64 0]) (lr au aH (by rfl) (by rfl) (by rfl) HX7.out HXS.out) rfl ?_
 exact ⟨x,by rw [HXV.out],HXP.out,(HF6.out.box HY6.out (by omega) HG7.out).good HOX.out,HB6.out.grown HG7.out HB6.out.size fun j hj=>by injection hj with hj;omega⟩

theorem gY:(Tryz.prog.info? 54).map (fun i=>(i.zero,i.size,i.bytes))=some (some zeroRec.v,21,240):=by kernel_rfl
theorem wR:(Tryz.prog.info? 72).map (fun i=>(i.zero,i.size))=some (some (.agg zeroSl.box),15):=by kernel_rfl
theorem tG:(Tryz.prog.info? 73).map (·.size)=some 240:=by kernel_rfl
theorem wS:∃d,Tryz.prog.underlying 73=some d/\d.isRow=true:=⟨_,Tryz.underlying73,rfl⟩
theorem rS:(Tryz.prog.info? 49).map (·.size)=some 3:=by kernel_rfl
theorem wT:∃d,Tryz.prog.underlying 49=some d/\d.isRow=true:=⟨_,Tryz.underlying49,rfl⟩
theorem wU:(Tryz.prog.info? 31).map (·.size)=some 8:=by kernel_rfl

theorem rT {k:Nat} (h:k<16) (w:World):(convert 3 5 (.int .i64 k)).run Tryz.prog w = .ok (.int .u8 k) w:=by
 rcases (show k=0∨k=1∨k=2∨k=3∨k=4∨k=5∨k=6∨k=7∨k=8∨k=9∨k=10∨k=11∨k=12∨k=13∨k=14∨k=15 from by omega) with h|h|h|h|h|h|h|h|h|h|h|h|h|h|h|h <;> subst h <;> kernel_rfl

def gZ (n:Nat):RecM:={ zeroRec with ki:=3,fe:=n }
def nh (n:Nat):RecM:={ zeroRec with ki:=4,li:=n }
def ni (c:CfM):RecM:={ zeroRec with ki:=5,cf:=c }
def kW (k:Nat) (x:SlotM):RecM:=⟨1,k,x.pc,x.pn,x.pl,x.ac,x.an,x.al,x.r,0,0,zeroCf⟩
def feL (y:StaM):List RecM:=if y.fe=0 then [] else [gZ y.fe]
def liL (y:StaM):List RecM:=if y.li=0 then [] else [nh y.li]
def cfL (y:StaM):List RecM:=if mayC y.cf.C y.cf.o.l y.cf.n.l=true then [ni y.cf] else []
def slL (y:StaM) (k:Nat):List RecM:=(List.range k).flatMap fun i=>if (y.f i).ha=true then [kW i (y.f i)] else []
theorem wV {y:StaM} {k:Nat} (h:(y.f k).ha=true):slL y (k+1)=slL y k++[kW k (y.f k)]:=by
 unfold slL
 rw [List.range_succ,List.flatMap_append,List.flatMap_singleton,if_pos h]
theorem As {y:StaM} {k:Nat} (h:(y.f k).ha=false):slL y (k+1)=slL y k:=by
 unfold slL
 rw [List.range_succ,List.flatMap_append,List.flatMap_singleton,if_neg (by rw [h];decide),List.append_nil]
theorem wW (y:StaM):∀k,(slL y k).length<=k
 | 0=>Nat.le_refl _
 | k+1=>by
  have:=wW y k
  cases h:(y.f k).ha with
  | true=>rw [wV h,List.length_append,List.length_singleton];omega
  | false=>rw [As h];omega
def flL (y:StaM):List RecM:=feL y++liL y
def hE (y:StaM):List RecM:=flL y++cfL y
def upR (y:StaM) (k:Nat):List RecM:=hE y++slL y k
theorem nj (y:StaM):(feL y).length<=1:=by unfold feL;split <;> simp
theorem B0 (y:StaM):(liL y).length<=1:=by unfold liL;split <;> simp
theorem B1 (y:StaM):(cfL y).length<=1:=by unfold cfL;split <;> simp
theorem np (y:StaM):(flL y).length<=2:=by have:=nj y;have:=B0 y;unfold flL;rw [List.length_append];omega
theorem hH (y:StaM):(hE y).length<=3:=by have:=np y;have:=B1 y;unfold hE;rw [List.length_append];omega
theorem wX (y:StaM) (k:Nat):(upR y k).length<=k+3:=by have:=hH y;have:=wW y k;unfold upR;rw [List.length_append];omega
theorem rU (y:StaM):upR y 0=hE y:=by simp [upR,slL]
theorem B2 {y:StaM} {k:Nat} (h:(y.f k).ha=true):upR y (k+1)=upR y k++[kW k (y.f k)]:=by unfold upR;rw [wV h,List.append_assoc]
theorem DR {y:StaM} {k:Nat} (h:(y.f k).ha=false):upR y (k+1)=upR y k:=by unfold upR;rw [As h]
def allR (y:StaM):List RecM:=upR y 16
def cA (l:List RecM):List Value:=l.flatMap RecM.cs
theorem hM (l:List RecM) (m:RecM):cA l++cA [m]=cA (l++[m]):=by simp [cA]
theorem fp:∀l:List RecM,(cA l).length=l.length * 21
 | []=>rfl
 | m::l=>by
  have:=fp l
  rw [cA] at this
  rw [cA,List.flatMap_cons,List.length_append,this,m.cs_len,List.length_cons]
  omega
theorem fQ (m:RecM):∀u∈cA [m],u.oneCell'=true:=fun u hu=>by
 simp [cA,RecM.cs,RecM.box] at hu
 rcases hu with h|h|h|h|h|h|h|h|h|h|h|h|h|h|h|h|h|h|h|h|h <;> subst h <;> rfl
theorem hN (m:RecM):cA [m]=m.box.toList:=by simp [cA,RecM.cs]

theorem fT (m:RecM) (u:World):(Instr.buildSlice 56 1 #[(0,Value.agg m.box)]).run Tryz.prog u = .ok (.slice (some ⟨u.heap.size,0,none⟩) 1 1) (u.alloc (.cells m.box 54)):=by
 obtain ⟨ki,ke,pc,pn,pl,ac,an,al,⟨rk,inc,st,⟨vA,vc,vl⟩,⟨dA,dc,dl⟩,⟨oA,oc,ol⟩,la,⟨mA,mc,ml⟩⟩,fe,li,⟨C,⟨xA,xc,xl⟩,⟨yA,yc,yl⟩⟩⟩:=m
 kernel_rfl
theorem rV (n:Nat) (u:World):(Instr.build 54 #[(0, .int .u8 3),(5, .int .u64 n)]).run Tryz.prog u = .ok (.agg (gZ n).box) u:=by kernel_rfl
theorem zF (n:Nat) (u:World):(Instr.build 54 #[(0, .int .u8 4),(6, .int .u32 n)]).run Tryz.prog u = .ok (.agg (nh n).box) u:=by kernel_rfl
theorem zG (c:CfM) (u:World):(Instr.build 54 #[(0, .int .u8 5),(7, .agg c.cs.toArray)]).run Tryz.prog u = .ok (.agg (ni c).box) u:=by
 obtain ⟨C,⟨xA,xc,xl⟩,⟨yA,yc,yl⟩⟩:=c
 kernel_rfl
theorem zH (k:Nat) (x:SlotM) (u:World):(Instr.build 54 #[(0, .int .u8 1),(1, .int .u8 k),(2, .agg #[.int .u64 x.pc, .int .u8 x.pn, .int .u32 x.pl]),(3, .agg #[.int .u64 x.ac, .int .u8 x.an, .int .u32 x.al]),(4, .agg x.r.cs.toArray)]).run Tryz.prog u = .ok (.agg (kW k x).box) u:=by
 obtain ⟨ha,pc,pn,pl,ac,an,al,⟨rk,inc,st,⟨vA,vc,vl⟩,⟨dA,dc,dl⟩,⟨oA,oc,ol⟩,la,⟨mA,mc,ml⟩⟩⟩:=x
 kernel_rfl
def StaM.sb (y:StaM):Array Value:=(bH y.f 0 16).toArray
theorem StaM.slots_get (y:StaM):y.box.extract 0 (0+240)=y.sb:=by
 unfold StaM.box StaM.L StaM.sb
 have:=iK [] (bH y.f 0 16) y.tl 0 240 rfl (by rw [aZ])
 simpa using this
theorem StaM.sb_size (y:StaM):y.sb.size=240:=by
 unfold StaM.sb
 rw [List.size_toArray,aZ]
theorem StaM.sb_slot (y:StaM) {i:Nat} (h:i<16):y.sb.extract (i * 15) (i * 15+15)=(y.f i).box:=by
 unfold StaM.sb
 have e:16=i+(1+(15 - i)):=by omega
 rw [show bH y.f 0 16=bH y.f 0 (i+(1+(15 - i))) from by rw [<- e],slotsL_add,slotsL_add,slotsL_one,Nat.zero_add,<- List.append_assoc]
 rw [iK _ _ _ _ _ (aZ y.f i 0) (y.f i).cs_len,SlotM.cs_box]
theorem B3 (y:StaM) {k:Nat} (h:k<16) (w:World):(Instr.index 73 (.agg y.sb) (.int .i64 k)).run Tryz.prog w = .ok (.agg (y.f k).box) w:=by
 have hk:(0:Int)<=k/\(k:Int)<16:=⟨by omega,by omega⟩
 have hx:=y.sb_slot h
 simp [Instr.index,run_underlying Tryz.underlying73,asIntOf,go_sem,hk]
 rw [if_pos h,hx]

section
variable {P : Program} {w : World} {ops : Array Oper} {rest : List Oper} {o : Oper} {a : Act} {Q : Exit -> Act -> World -> Prop}
theorem fq (ty:TypeId) (parts:Array (Nat × Operand)) (ho:o.op = .build ty parts) (hgd:Region.wanted o (yielded ops a.tmps)=true) (vals:Array (Nat × Value)) (hp:(parts.map fun (i,x)=>(i,a.eval x))=vals) {V:Value} (hr:(Instr.build ty vals).run P w = .ok V w) (h:wpList P ops Q rest (a.put o.dst V) w):wpList P ops Q (o::rest) a w:=by
 subst hp
 exact br ty parts ho hgd hr h
theorem rX (src dst:TypeId) (x:Operand) (ho:o.op = .convert src dst x) (hgd:Region.wanted o (yielded ops a.tmps)=true) {VX V:Value} (hx:a.eval x=VX) (hr:(convert src dst VX).run P w = .ok V w) (h:wpList P ops Q rest (a.put o.dst V) w):wpList P ops Q (o::rest) a w:=by
 refine gK hgd ?_ h
 unfold execOp
 simp only [ho,hx,Sem.run_bind,hr,Result.andThen_ok,Sem.run_pure]
theorem rY (ty:TypeId) (x i:Operand) (ho:o.op = .index ty x i) (hgd:Region.wanted o (yielded ops a.tmps)=true) {VX VI V:Value} (hx:a.eval x=VX) (hi:a.eval i=VI) (hr:(Instr.index ty VX VI).run P w = .ok V w) (h:wpList P ops Q rest (a.put o.dst V) w):wpList P ops Q (o::rest) a w:=by
 refine gK hgd ?_ h
 unfold execOp
 simp only [ho,hx,hi,Sem.run_bind,hr,Result.andThen_ok,Sem.run_pure]
end

def Au (s:StaM) (w:World) (e:Ending) (w':World):Prop:=∃(y:StaM) (A:Option Addr) (c:Nat),e = .returned (.slice A (allR y).length c)/\y.p=s.p/\StaM.good w' w'.heap.size y/\Sees w' w'.heap.size A (cA (allR y))/\Below w.heap.size w w'

theorem B4 (s:StaM) (B:Nat) (w:World) (hs:StaM.good w B s) (hB:B<=w.heap.size):Calls Tryz.prog 33 #[s.v] w (Au s w):=by
 have HCL:=aa (fun (u:World) (h:Below w.heap.size w u)=>cD s w.heap.size u ((hs.more hB).below h) h.size)
 obtain ⟨R,hR⟩:∃R,Au s w=R:=⟨_,rfl⟩
 rw [hR]
 have HFD:=aa (fun (e:Ending) (w':World) (y:StaM) (A:Option Addr) (c:Nat) (h1:e = .returned (.slice A (allR y).length c)) (h2:y.p=s.p) (h3:StaM.good w' w'.heap.size y) (h4:Sees w' w'.heap.size A (cA (allR y))) (h5:Below w.heap.size w w')=>show R e w' from by rw [<- hR];exact ⟨y,A,c,h1,h2,h3,h4,h5⟩)
 clear hR
 have HV:=aa (show s.v = .agg s.box from rfl)
 have HSZ:=aa s.box_size
 obtain ⟨V,hV⟩:∃V,s.v=V:=⟨_,rfl⟩
 rw [hV] at HV ⊢
 simp only [hV] at HCL
 clear hV hs
 go_enter Tryz.func33,Tryz.ntmps33
 go_upto_region 0 with fail
 refine wp_region_lit ?_
 refine aw 75 (by rfl) _ (by rfl) (by rfl) HV.out ?_
 intro W0 HX0 HB0 HZ0
 simp only [Act.put,List.setIfInBounds_toArray,List.set_cons_zero,List.set_cons_succ]
 have HZ1:=aa HZ0.out
 obtain ⟨z,hz⟩:∃z,w.heap.size=z:=⟨_,rfl⟩
 have HZE:=aa hz
 rw [hz] at HX0 ⊢
 clear HZ0 hz
 have hzx:z<W0.heap.size:=HX0.out.lt
 go_wp2_with (refine ak 75 (by rfl) _ (by rfl) am aJ HX0.out (by rfl) HSZ.out ?_;rw [<- HV.out])
 refine (HCL.out _ HB0.out).mono ?_
 rintro en w3 ⟨y,rfl,hyp,hyf,hb3⟩
 have HYP:=aa hyp
 have HX3:=aa (HX0.out.below hb3)
 have HB3:=aa (HB0.out.trans (hb3.mono HB0.out.size))
 have HF3:=aa (hyf.less (show z+1<=W0.heap.size+2 from by have:=HZ1.out;have:=HZE.out;omega))
 have HYS:=aa y.box_size
 have HYO:=aa y.one
 have HYV:=aa (show y.v = .agg y.box from rfl)
 obtain ⟨VY,hVY⟩:∃V,y.v=V:=⟨_,rfl⟩
 rw [hVY] at HYV ⊢
 clear hVY hyp hyf hb3 HCL HX0 hzx HB0
 have hzx:z<w3.heap.size:=HX3.out.lt
 go_upto_region 2 with (refine ai 75 (by rfl) _ _ (by rfl) am (by rfl) (by rfl) HYV.out HYS.out HYO.out HX3.out HSZ.out ?_;intro W4 HX4 HG4 HZ4)
 have HB4:=aa (HB3.out.grown HG4.out HB3.out.size (fun q hq=>by injection hq with hq;have:=HZE.out;omega))
 have HY4:=aa ((HF3.out.grown HG4.out (fun q hq=>by injection hq with hq;omega)).good)
 clear hzx HX3 HF3 HYO HYV HSZ HG4 HZ4 HB3 HV
 obtain ⟨b,hb⟩:∃b,W4.heap.size=b:=⟨_,rfl⟩
 have HBE:=aa hb
 clear hb
 obtain ⟨fe,hfe⟩:∃n,y.fe=n:=⟨_,rfl⟩
 obtain ⟨li,hli⟩:∃n,y.li=n:=⟨_,rfl⟩
 obtain ⟨mb,hmb⟩:∃x,mayC y.cf.C y.cf.o.l y.cf.n.l=x:=⟨_,rfl⟩
 have HFE:=aa hfe
 have HLI:=aa hli
 have HMB:=aa hmb
 clear hfe hli hmb
 have HCM:=aa (fun (u:World) (h:Below W4.heap.size W4 u)=>show Calls Tryz.prog 89 #[.agg y.cf.cs.toArray] u fun e w'=>e = .returned (.bool mb)/\Below u.heap.size u w' from by have g:=mC y.cf.C y.cf.o y.cf.n W4.heap.size u (HY4.out.cf.below h).2.1 (HY4.out.cf.below h).2.2 h.size;rw [HMB.out] at g;exact g)
 have HCG:=aa y.cf_get
 have HCN:=aa (show y.cf.cs.toArray.size=3 from rfl)
 have HBC:=aa (fun u=>zG y.cf u)
 obtain ⟨cc,hcc⟩:∃c,y.cf.cs.toArray=c:=⟨_,rfl⟩
 rw [hcc] at HCG HCN
 simp only [hcc] at HCM HBC
 clear hcc
 have HSG:=aa y.slots_get
 have HSN:=aa y.sb_size
 have HIX:=aa (fun (k:Nat) (h:k<16) (u:World)=>B3 y h u)
 obtain ⟨sb,hsb⟩:∃c,y.sb=c:=⟨_,rfl⟩
 rw [hsb] at HSG HSN
 simp only [hsb] at HIX
 clear hsb
 have HX5:=HX4
 have HO5:=aa (World.ownsRow_nil W4 b 54 21)
 have HB5:=aa (Below.refl b W4)
 go_upto_region 3 with fail
 have r0:=(HX5.out.cell 240).trans y.cell_fe
 rw [HFE.out] at r0
 have f0:=HX5.out.free9 240
 have hzx:z<W4.heap.size:=HX5.out.lt
 go_upto_if 10 with fail
 clear r0 f0 hzx
 go_cut [3] (fun q wx=>∃(A:Option Addr) (c:Nat),q = .slice A (feL y).length c/\Hid (wx.ownsRow b 54 21 (.slice A (feL y).length c) (feL y).length (cA (feL y)))/\Hid (Below b W4 wx))
 case first =>
  have r0:=(HX5.out.cell 240).trans y.cell_fe
  rw [HFE.out] at r0
  have f0:=HX5.out.free9 240
  have hzx:z<W4.heap.size:=HX5.out.lt
  by_cases h0:fe=0
  ·subst h0
   go_wp2_with fail
   go_meet
   have e:feL y=[]:=by simp [feL,HFE.out]
   exact ⟨none,0,by rw [e];rfl,by rw [e];exact HO5,HB5⟩
  ·have e:feL y=[]++[gZ fe]:=by simp [feL,HFE.out,h0]
   have HEQ:=aa e
   have hd1:(fe != 0)=true:=by simpa using h0
   have hd2:((fe:Int) != 0)=true:=by simpa using h0
   clear e
   have HSE:=aa (dm W4 (gZ fe).box 54 (cA [gZ fe]) (hN _))
   have HOA:=aa (HO5.out.alloc (.cells (gZ fe).box 54))
   have HSB:=aa (show b<=W4.heap.size from by have:=HB5.out.size;have:=HBE.out;omega)
   have HLB:=aa (show 0+1<=1000000 from by have:=nj y;have:=np y;have:=hH y;omega)
   go_wp2_with (first|(refine fq 54 _ (by rfl) (by rfl) #[(0, .int .u8 3),(5, .int .u64 fe)] (by kernel_rfl) (rV fe _) ?_)|(refine dP 56 1 _ (by rfl) (by rfl) #[(0,Value.agg (gZ fe).box)] (by kernel_rfl) (fT _ _) ?_)|(at_builtin;refine aF _ rfl _ _ 56 rfl b 54 _ 21 240 gY rfl (by omega) Tryz.underlying56 _ 0 (cA ([])) rfl HOA.out (W4.heap.size+1) (some ⟨W4.heap.size,0,none⟩) 1 1 (cA [gZ fe]) rfl (by rw [fp];rfl) HSE.out (fQ _) (by have:=HLB.out;omega) (by omega) (by have:=HSB.out;simp;omega) (0+1) rfl (cA ([]++[gZ fe])) (hM _ _) ?_;intro A2 c2 w7 hown hb7))
   go_meet
   have e:=HEQ.out
   exact ⟨A2,c2,by rw [e];rfl,by rw [e];exact aa hown,aa (HB5.out.trans (((Below.refl _ _).alloc HSB.out _).trans hb7))⟩
 case rest =>
 clear HO5 HB5 HX5
 obtain ⟨A1,c1,rfl,HO5,HB5⟩:=hcut
 have HX5:=aa (HX4.out.below (show Below W4.heap.size W4 wc from by rw [HBE.out];exact HB5.out))
 have r0:=(HX5.out.cell 241).trans y.cell_li
 rw [HLI.out] at r0
 have f0:=HX5.out.free9 241
 have hzx:z<wc.heap.size:=HX5.out.lt
 go_upto_if 19 with fail
 clear r0 f0 hzx
 go_cut [3] (fun q wx=>∃(A:Option Addr) (c:Nat),q = .slice A (flL y).length c/\Hid (wx.ownsRow b 54 21 (.slice A (flL y).length c) (flL y).length (cA (flL y)))/\Hid (Below b W4 wx))
 case first =>
  have r0:=(HX5.out.cell 241).trans y.cell_li
  rw [HLI.out] at r0
  have f0:=HX5.out.free9 241
  have hzx:z<wc.heap.size:=HX5.out.lt
  by_cases h0:li=0
  ·subst h0
   go_wp2_with fail
   go_meet
   have e:flL y=feL y:=by simp [flL,liL,HLI.out]
   exact ⟨A1,c1,by rw [e],by rw [e];exact HO5,HB5⟩
  ·have e:flL y=feL y++[nh li]:=by simp [flL,liL,HLI.out,h0]
   have HEQ:=aa e
   have hd1:(li != 0)=true:=by simpa using h0
   have hd2:((li:Int) != 0)=true:=by simpa using h0
   clear e
   have HSE:=aa (dm wc (nh li).box 54 (cA [nh li]) (hN _))
   have HOA:=aa (HO5.out.alloc (.cells (nh li).box 54))
   have HSB:=aa (show b<=wc.heap.size from by have:=HB5.out.size;have:=HBE.out;omega)
   have HLB:=aa (show (feL y).length+1<=1000000 from by have:=nj y;have:=np y;have:=hH y;omega)
   go_wp2_with (first|(refine fq 54 _ (by rfl) (by rfl) #[(0, .int .u8 4),(6, .int .u32 li)] (by kernel_rfl) (zF li _) ?_)|(refine dP 56 1 _ (by rfl) (by rfl) #[(0,Value.agg (nh li).box)] (by kernel_rfl) (fT _ _) ?_)|(at_builtin;refine aF _ rfl _ _ 56 rfl b 54 _ 21 240 gY rfl (by omega) Tryz.underlying56 _ (feL y).length (cA (feL y)) rfl HOA.out (wc.heap.size+1) (some ⟨wc.heap.size,0,none⟩) 1 1 (cA [nh li]) rfl (by rw [fp];rfl) HSE.out (fQ _) (by have:=HLB.out;omega) (by omega) (by have:=HSB.out;simp;omega) ((feL y).length+1) rfl (cA (feL y++[nh li])) (hM _ _) ?_;intro A2 c2 w7 hown hb7))
   go_meet
   have e:=HEQ.out
   exact ⟨A2,c2,by rw [e,List.length_append,List.length_singleton],by rw [e,List.length_append,List.length_singleton];exact aa hown,aa (HB5.out.trans (((Below.refl _ _).alloc HSB.out _).trans hb7))⟩
 case rest =>
 clear HO5 HB5 HX5
 obtain ⟨A1,c1,rfl,HO5,HB5⟩:=hcut
 have HX5:=aa (HX4.out.below (show Below W4.heap.size W4 wc from by rw [HBE.out];exact HB5.out))
 have hzx:z<wc.heap.size:=HX5.out.lt
 go_wp2_with (refine bi 52 (by rfl) _ (by rfl) aW da HX5.out (by rfl) HCG.out HCN.out ?_)
 refine (HCM.out _ (show Below W4.heap.size W4 wc from by rw [HBE.out];exact HB5.out)).mono ?_
 rintro en w8 ⟨rfl,hb8⟩
 have HO8:=aa (ao HO5.out hb8)
 have HX8:=aa (HX5.out.below hb8)
 have HB8:=aa (HB5.out.trans (hb8.mono (by have:=HB5.out.size;have:=HBE.out;omega)))
 clear hb8 hzx HO5 HX5 HB5 HCM
 obtain ⟨HO5,HX5,HB5⟩:=(⟨HO8,HX8,HB8⟩:_/\_/\_)
 go_upto_if 28 with fail
 go_cut [3] (fun q wx=>∃(A:Option Addr) (c:Nat),q = .slice A (hE y).length c/\Hid (wx.ownsRow b 54 21 (.slice A (hE y).length c) (hE y).length (cA (hE y)))/\Hid (Below b W4 wx))
 case first =>
  cases mb with
  | false =>
   go_wp2_with fail
   go_meet
   have e:hE y=flL y:=by simp [hE,cfL,HMB.out]
   exact ⟨A1,c1,by rw [e],by rw [e];exact HO5,HB5⟩
  | true =>
   have HEQ:=aa (show hE y=flL y++[ni y.cf] from by simp [hE,cfL,HMB.out])
   have HSE:=aa (dm w8 (ni y.cf).box 54 (cA [ni y.cf]) (hN _))
   have HOA:=aa (HO5.out.alloc (.cells (ni y.cf).box 54))
   have HSB:=aa (show b<=w8.heap.size from by have:=HB5.out.size;have:=HBE.out;omega)
   have HLB:=aa (show (flL y).length+1<=1000000 from by have:=nj y;have:=np y;have:=hH y;omega)
   have hzx:z<w8.heap.size:=HX5.out.lt
   go_wp2_with (first|(refine bi 52 (by rfl) _ (by rfl) aW da HX5.out (by rfl) HCG.out HCN.out ?_)|(refine fq 54 _ (by rfl) (by rfl) #[(0, .int .u8 5),(7, .agg cc)] (by kernel_rfl) (HBC.out _) ?_)|(refine dP 56 1 _ (by rfl) (by rfl) #[(0,Value.agg (ni y.cf).box)] (by kernel_rfl) (fT _ _) ?_)|(at_builtin;refine aF _ rfl _ _ 56 rfl b 54 _ 21 240 gY rfl (by omega) Tryz.underlying56 _ (flL y).length (cA (flL y)) rfl HOA.out (w8.heap.size+1) (some ⟨w8.heap.size,0,none⟩) 1 1 (cA [ni y.cf]) rfl (by rw [fp];rfl) HSE.out (fQ _) (by have:=HLB.out;omega) (by omega) (by have:=HSB.out;simp;omega) ((flL y).length+1) rfl (cA (flL y++[ni y.cf])) (hM _ _) ?_;intro A2 c2 w7 hown hb7))
   go_meet
   have e:=HEQ.out
   exact ⟨A2,c2,by rw [e,List.length_append,List.length_singleton],by rw [e,List.length_append,List.length_singleton];exact aa hown,aa (HB5.out.trans (((Below.refl _ _).alloc HSB.out _).trans hb7))⟩
 case rest =>
 clear HO5 HB5 HX5
 obtain ⟨A1,c1,rfl,HO5,HB5⟩:=hcut
 have HX5:=aa (HX4.out.below (show Below W4.heap.size W4 wc from by rw [HBE.out];exact HB5.out))
 rw [<- rU y] at HO5
 have hup:=congrArg List.length (rU y)
 have HL0:=aa hup.symm
 clear hup
 have hzx:z<wc.heap.size:=HX5.out.lt
 go_upto_region 10 with (refine bi 73 (by rfl) _ (by rfl) tG wS HX5.out (by rfl) HSG.out HSN.out ?_)
 clear hzx
 rw [HL0.out]
 go_loopw [3,37] (fun q i wr=>∃(k:Nat) (A:Option Addr) (c:Nat),k<=16/\i = .int .i64 k/\q = .slice A (upR y k).length c/\Hid (wr.ownsRow b 54 21 (.slice A (upR y k).length c) (upR y k).length (cA (upR y k)))/\Hid (Below b W4 wr)) (fun _ i _=>16 - (intOf i).toNat)
 case atStart=>exact ⟨0,A1,c1,by omega,rfl,rfl,HO5,HB5⟩
 case round =>
  obtain ⟨k,A,c,hk,rfl,rfl,HO,HB⟩:=hrel
  by_cases hlt:k<16
  case neg =>
   have hkn:k=16:=by omega
   subst hkn
   go_wp2
   have hbs:=HB.out.size
   have hbe:=HBE.out
   have hb4:=HB4.out.size
   refine HFD.out _ _ y A c rfl HYP.out ((HY4.out.below (show Below W4.heap.size W4 wr from by rw [hbe];exact HB.out)).more (by omega)) (Sees.ownRow9 HO.out) (HB4.out.trans (HB.out.mono (by omega)))
  case pos =>
   obtain ⟨hx,hhx⟩:∃x,(y.f k).ha=x:=⟨_,rfl⟩
   have HHA:=aa hhx
   clear hhx
   have HON:=aa (show (y.f k).box.all (·.oneCell')=true from by simp [SlotM.box,Value.oneCell'])
   have HIK:=aa (fun (u:World)=>HIX.out k hlt u)
   have HCV:=aa (fun (u:World)=>rT hlt u)
   have HUL:=aa (wX y k)
   go_upto_region 12 with (first|(refine rY 73 _ _ (by rfl) (by rfl) (by rfl) (by rfl) (HIK.out _) ?_)|(refine aq 72 (by rfl) (by rfl) wR ?_;intro W5 HY5 HB5a HZ5)|(refine ai 72 (by rfl) _ _ (by rfl) bN (by rfl) (by rfl) (cs:=(y.f k).box) rfl (by rfl) HON.out HY5.out (by rfl) ?_;intro W6 HY6 HG6 HZ6))
   have HBW:=aa (show Below wr.heap.size wr W6 from (Below.refl _ _).grown (ag (aP (World.grownBy.refl wr (some wr.heap.size)) HB5a.out) HG6.out) (Nat.le_refl _) (fun q hq=>by injection hq with hq;omega))
   have HO6:=aa (ao HO.out HBW.out)
   have HB6:=aa (HB.out.trans (HBW.out.mono (show b<=wr.heap.size from by have:=HB.out.size;have:=HBE.out;omega)))
   obtain ⟨gk,hgk⟩:∃g,wr.heap.size=g:=⟨_,rfl⟩
   rw [hgk] at HY6 ⊢
   clear hgk HY5 HB5a HZ5 HG6 HZ6 HO HB HBW HON
   have r0:=(HY6.out.cell 0).trans (show (y.f k).box[0]?=some (.bool (y.f k).ha) from rfl)
   rw [HHA.out] at r0
   have f0:=HY6.out.free9 0
   have hzx:gk<W6.heap.size:=HY6.out.lt
   cases hx with
   | false =>
    have HUP:=aa (DR HHA.out)
    go_wp2_with fail
    go_roundw
    case rel=>exact ⟨k+1,A,c,by omega,by go_num,by rw [HUP.out],by rw [HUP.out];exact HO6,HB6⟩
    case measure=>simp [intOf];omega
   | true =>
    have HUP:=aa (B2 HHA.out)
    have HM1:=aa (show (y.f k).box.extract 1 (1+3) = #[.int .u64 (y.f k).pc, .int .u8 (y.f k).pn, .int .u32 (y.f k).pl] from rfl)
    have HM2:=aa (show (y.f k).box.extract 4 (4+3) = #[.int .u64 (y.f k).ac, .int .u8 (y.f k).an, .int .u32 (y.f k).al] from rfl)
    have HM3:=aa (show (y.f k).box.extract 7 (7+8)=(y.f k).r.cs.toArray from rfl)
    have HM4:=aa (show (y.f k).r.cs.toArray.size=8 from rfl)
    have HBD:=aa (fun (u:World)=>zH k (y.f k) u)
    obtain ⟨rc,hrc⟩:∃c,(y.f k).r.cs.toArray=c:=⟨_,rfl⟩
    rw [hrc] at HM3 HM4
    simp only [hrc] at HBD
    clear hrc
    have HSE:=aa (dm W6 (kW k (y.f k)).box 54 (cA [kW k (y.f k)]) (hN _))
    have HOA:=aa (HO6.out.alloc (.cells (kW k (y.f k)).box 54))
    have HSB:=aa (show b<=W6.heap.size from by have:=HB6.out.size;have:=HBE.out;omega)
    have HLB:=aa (show (upR y k).length+1<=1000000 from by have:=HUL.out;omega)
    go_upto_region 14 with (first|(refine rX 3 5 _ (by rfl) (by rfl) (by rfl) (HCV.out _) ?_)|(refine bi 49 (by rfl) _ (by rfl) rS wT HY6.out (i:=1) (by rfl) HM1.out (by rfl) ?_)|(refine bi 49 (by rfl) _ (by rfl) rS wT HY6.out (i:=4) (by rfl) HM2.out (by rfl) ?_)|(refine bi 31 (by rfl) _ (by rfl) wU wC HY6.out (i:=7) (by rfl) HM3.out HM4.out ?_)|(refine fq 54 _ (by rfl) (by rfl) #[(0, .int .u8 1),(1, .int .u8 k),(2, .agg #[.int .u64 (y.f k).pc, .int .u8 (y.f k).pn, .int .u32 (y.f k).pl]),(3, .agg #[.int .u64 (y.f k).ac, .int .u8 (y.f k).an, .int .u32 (y.f k).al]),(4, .agg rc)] (by kernel_rfl) (HBD.out _) ?_)|(refine dP 56 1 _ (by rfl) (by rfl) #[(0,Value.agg (kW k (y.f k)).box)] (by kernel_rfl) (fT _ _) ?_)|(at_builtin;refine aF _ rfl _ _ 56 rfl b 54 _ 21 240 gY rfl (by omega) Tryz.underlying56 _ (upR y k).length (cA (upR y k)) rfl HOA.out (W6.heap.size+1) (some ⟨W6.heap.size,0,none⟩) 1 1 (cA [kW k (y.f k)]) rfl (by rw [fp];rfl) HSE.out (fQ _) (by have:=HLB.out;omega) (by omega) (by have:=HSB.out;simp;omega) ((upR y k).length+1) rfl (cA (upR y k++[kW k (y.f k)])) (hM _ _) ?_;intro A2 c2 w7 hown hb7))
    go_wp2_with fail
    go_roundw
    case rel=>exact ⟨k+1,A2,c2,by omega,by go_num,by rw [HUP.out,List.length_append,List.length_singleton],by rw [HUP.out,List.length_append,List.length_singleton];exact aa hown,aa (HB6.out.trans (((Below.refl _ _).alloc HSB.out _).trans hb7))⟩
    case measure=>simp [intOf];omega

theorem zI (y:StaM) (u:World):(Instr.field 75 (.agg y.box) 1).run Tryz.prog u = .ok (.int .u64 y.fe) u:=by
 have h:=y.cell_fe
 simp [Instr.field,run_underlying Tryz.underlying75,asAgg,go_sem,h]
theorem zJ (y:StaM) (u:World):(Instr.field 75 (.agg y.box) 2).run Tryz.prog u = .ok (.int .u32 y.li) u:=by
 have h:=y.cell_li
 simp [Instr.field,run_underlying Tryz.underlying75,asAgg,go_sem,h]
theorem zK (y:StaM) (u:World):(Instr.field 75 (.agg y.box) 3).run Tryz.prog u = .ok (.agg y.cf.cs.toArray) u:=by
 have h:y.box.extract 242 245=y.cf.cs.toArray:=y.cf_get
 simp [Instr.field,run_underlying Tryz.underlying75,asAgg,go_sem,h]
theorem zL (y:StaM) (u:World):(Instr.field 75 (.agg y.box) 0).run Tryz.prog u = .ok (.agg y.sb) u:=by
 have h:y.box.extract 0 240=y.sb:=y.slots_get
 simp [Instr.field,run_underlying Tryz.underlying75,asAgg,go_sem,h]
theorem zM (y:StaM) {k:Nat} (h:k<16) (w:World):(Instr.index 73 (.agg y.sb) (.int .u8 k)).run Tryz.prog w = .ok (.agg (y.f k).box) w:=by
 have hk:(0:Int)<=k/\(k:Int)<16:=⟨by omega,by omega⟩
 have hx:=y.sb_slot h
 simp [Instr.index,run_underlying Tryz.underlying73,asIntOf,go_sem,hk]
 rw [if_pos h,hx]
section
variable {P : Program} {w : World} {ops : Array Oper} {rest : List Oper} {o : Oper} {a : Act} {Q : Exit -> Act -> World -> Prop}
theorem jE (ty:TypeId) (x:Operand) (k:Nat) (ho:o.op = .field ty x k) (hgd:Region.wanted o (yielded ops a.tmps)=true) {VX V:Value} (hx:a.eval x=VX) (hr:(Instr.field ty VX k).run P w = .ok V w) (h:wpList P ops Q rest (a.put o.dst V) w):wpList P ops Q (o::rest) a w:=by
 refine gK hgd ?_ h
 unfold execOp
 simp only [ho,hx,Sem.run_bind,hr,Result.andThen_ok,Sem.run_pure]
end

def pFe (n:Nat):RecP:={ i8 with ki:=3,fe:=n }
def pLi (n:Nat):RecP:={ i8 with ki:=4,li:=n }
def pCf (c:CfP):RecP:={ i8 with ki:=5,cf:=c }
def pSl (k:Nat) (x:SlotP):RecP:=⟨1,k,x.pc,x.pn,x.pl,x.ac,x.an,x.al,x.r,0,0,(0,[],[])⟩

structure Inv14 (s:StaP):Prop where
 sl:∀i,i<16->(s.f i).ha=true->mayR (pSl i (s.f i))=true
 no:∀i,(s.f i).ha=false->s.f i=eX
 hi:∀i,16<=i->s.f i=eX
 cf:mayC s.cf.1 s.cf.2.1 s.cf.2.2=true∨s.cf=(0,[],[])
theorem tH:Inv14 cZ:=⟨fun _ _ h=>(by cases h),fun _ _=>rfl,fun _ _=>rfl, .inr rfl⟩
theorem tI {p:RecP} (h:mayR p=true):p=fo p:=by
 unfold mayR at h
 rw [Bool.and_eq_true] at h
 exact of_decide_eq_true h.1
theorem wY {p:RecP} (h:mayR p=true) (hk:p.ki=1):pSl p.ke (dE p)=p:=by
 have e:=tI h
 rw [fo,if_pos hk] at e
 rw [e]
 obtain ⟨ki,ke,pc,pn,pl,ac,an,al,r,fe,li,cf⟩:=p
 simp only at hk
 subst hk
 rfl
theorem B5 {p:RecP} (h:mayR p=true) (hk:p.ki=5):mayC p.cf.1 p.cf.2.1 p.cf.2.2=true:=by
 unfold mayR iJ at h
 rw [Bool.and_eq_true,if_neg (by omega),if_neg (by omega),if_neg (by omega),if_neg (by omega),if_pos hk] at h
 exact h.2
theorem lD {s:StaP} (hs:Inv14 s) (p:RecP):Inv14 (foldP s p):=by
 unfold foldP
 by_cases hy:mayR p=true
 ·rw [if_pos hy]
  unfold doP
  split
  ·rename_i hk
   have h16:=ng hy (.inl hk)
   refine ⟨fun i hi hh => ?_,fun i hh => ?_,fun i hi => ?_,hs.cf⟩
   ·by_cases e:i=p.ke
    ·subst e
     rw [show (s.setF p.ke (dE p)).f p.ke=dE p from if_pos rfl,wY hy hk]
     exact hy
    ·have e2:(s.setF p.ke (dE p)).f i=s.f i:=if_neg e
     rw [e2] at hh ⊢
     exact hs.sl i hi hh
   ·by_cases e:i=p.ke
    ·subst e
     rw [show (s.setF p.ke (dE p)).f p.ke=dE p from if_pos rfl] at hh
     cases hh
    ·have e2:(s.setF p.ke (dE p)).f i=s.f i:=if_neg e
     rw [e2] at hh ⊢
     exact hs.no i hh
   ·rw [show (s.setF p.ke (dE p)).f i=s.f i from if_neg (by omega)]
    exact hs.hi i hi
  split
  ·refine ⟨fun i hi hh => ?_,fun i hh => ?_,fun i hi => ?_,hs.cf⟩
   ·by_cases e:i=p.ke
    ·subst e
     rw [show (s.setF p.ke eX).f p.ke=eX from if_pos rfl] at hh
     cases hh
    ·have e2:(s.setF p.ke eX).f i=s.f i:=if_neg e
     rw [e2] at hh ⊢
     exact hs.sl i hi hh
   ·by_cases e:i=p.ke
    ·subst e
     exact if_pos rfl
    ·have e2:(s.setF p.ke eX).f i=s.f i:=if_neg e
     rw [e2] at hh ⊢
     exact hs.no i hh
   ·by_cases e:i=p.ke
    ·subst e
     exact if_pos rfl
    ·rw [show (s.setF p.ke eX).f i=s.f i from if_neg e]
     exact hs.hi i hi
  split
  ·exact ⟨hs.sl,hs.no,hs.hi,hs.cf⟩
  split
  ·exact ⟨hs.sl,hs.no,hs.hi,hs.cf⟩
  split
  ·rename_i hk
   exact ⟨hs.sl,hs.no,hs.hi, .inl (B5 hy hk)⟩
  ·exact hs
 ·rw [if_neg hy]
  exact hs
theorem qE (l:List RecP):Inv14 (foldsP l):=by
 unfold foldsP
 have:∀(l:List RecP) (s:StaP),Inv14 s->Inv14 (l.foldl foldP s):=by
  intro l
  induction l with
  | nil=>exact fun s h=>h
  | cons p l ih=>exact fun s h=>ih _ (lD h p)
 exact this l _ tH

theorem Aw {n:Nat} (h:¬n=0):mayR (pFe n)=true:=by
 unfold mayR iJ
 rw [Bool.and_eq_true]
 exact ⟨decide_eq_true rfl,show decide (0<n)=true from decide_eq_true (by omega)⟩
theorem Ax {n:Nat} (h:¬n=0):mayR (pLi n)=true:=by
 unfold mayR iJ
 rw [Bool.and_eq_true]
 exact ⟨decide_eq_true rfl,show decide (0<n)=true from decide_eq_true (by omega)⟩
theorem Ay {c:CfP} (h:mayC c.1 c.2.1 c.2.2=true):mayR (pCf c)=true:=by
 unfold mayR iJ
 rw [Bool.and_eq_true]
 exact ⟨decide_eq_true rfl,h⟩
def feP (s:StaP):List RecP:=if s.fe=0 then [] else [pFe s.fe]
def liP (s:StaP):List RecP:=if s.li=0 then [] else [pLi s.li]
def qF (s:StaP):List RecP:=if mayC s.cf.1 s.cf.2.1 s.cf.2.2=true then [pCf s.cf] else []
def slP (s:StaP) (k:Nat):List RecP:=(List.range k).flatMap fun i=>if (s.f i).ha=true then [pSl i (s.f i)] else []
def upP (s:StaP) (k:Nat):List RecP:=feP s++liP s++qF s++slP s k
theorem wZ (y:StaM) (k:Nat):(upR y k).map RecM.p=upP y.p k:=by
 unfold upR hE flL upP
 simp only [List.map_append]
 congr 1
 ·congr 1
  ·congr 1
   ·unfold feL feP
    show _=if y.fe=0 then _ else _
    split <;> rfl
   ·unfold liL liP
    show _=if y.li=0 then _ else _
    split <;> rfl
  ·unfold cfL qF
   show _=if mayC y.cf.C y.cf.o.l y.cf.n.l=true then _ else _
   split <;> rfl
 ·unfold slL slP
  rw [List.map_flatMap]
  congr 1
  funext i
  show _=if (y.f i).ha=true then _ else _
  split <;> rfl
theorem xd {s:StaP} (hs:Inv14 s) {k:Nat} (hk:k<=16):∀p∈upP s k,mayR p=true:=by
 intro p hp
 unfold upP at hp
 simp only [List.mem_append] at hp
 rcases hp with ((h|h)|h)|h
 ·unfold feP at h
  split at h
  ·cases h
  ·rename_i h0
   rw [List.mem_singleton.1 h]
   exact Aw h0
 ·unfold liP at h
  split at h
  ·cases h
  ·rename_i h0
   rw [List.mem_singleton.1 h]
   exact Ax h0
 ·unfold qF at h
  split at h
  ·rename_i h0
   rw [List.mem_singleton.1 h]
   exact Ay h0
  ·cases h
 ·unfold slP at h
  obtain ⟨i,hi,hm⟩:=List.mem_flatMap.1 h
  rw [List.mem_range] at hi
  split at hm
  ·rename_i h0
   rw [List.mem_singleton.1 hm]
   exact hs.sl i (by omega) h0
  ·cases hm
theorem xe {s:StaP} (hs:Inv14 s):∀(k:Nat) (_:k<=16) (t:StaP) (_:∀i,t.f i=eX),(slP s k).foldl foldP t={ t with f:=fun i=>if i<k then s.f i else eX }
 | 0,_,t,ht=>by
  show t=_
  obtain ⟨f,fe,li,cf⟩:=t
  simp only at ht
  congr 1
  funext i
  rw [ht i,if_neg (by omega)]
 | k+1,hk,t,ht=>by
  have ih:=xe hs k (by omega) t ht
  have e:slP s (k+1)=slP s k++(if (s.f k).ha=true then [pSl k (s.f k)] else []):=by
   unfold slP
   rw [List.range_succ,List.flatMap_append,List.flatMap_singleton]
  rw [e,List.foldl_append,ih]
  by_cases h:(s.f k).ha=true
  ·rw [if_pos h,List.foldl_cons,List.foldl_nil,foldP,if_pos (hs.sl k (by omega) h),doP,if_pos (show (pSl k (s.f k)).ki=1 from rfl)]
   unfold StaP.setF
   simp only
   congr 1
   funext i
   by_cases hi:i=k
   ·subst hi
    rw [show (pSl i (s.f i)).ke=i from rfl,if_pos rfl,if_pos (by omega)]
    generalize s.f i=x at h ⊢
    obtain ⟨ha,pc,pn,pl,ac,an,al,r⟩:=x
    simp only at h
    subst h
    rfl
   ·rw [show (pSl k (s.f k)).ke=k from rfl,if_neg hi]
    by_cases h2:i<k
    ·rw [if_pos h2,if_pos (by omega)]
    ·rw [if_neg h2,if_neg (by omega)]
  ·rw [if_neg h,List.foldl_nil]
   congr 1
   funext i
   by_cases hi:i=k
   ·subst hi
    rw [if_neg (by omega),if_pos (by omega),hs.no i (by simpa using h)]
   ·by_cases h2:i<k
    ·rw [if_pos h2,if_pos (by omega)]
    ·rw [if_neg h2,if_neg (by omega)]
theorem zN {s:StaP} (hs:Inv14 s):foldsP (upP s 16)=s:=by
 unfold foldsP upP
 rw [List.foldl_append,List.foldl_append,List.foldl_append]
 have e1:(feP s).foldl foldP cZ={ cZ with fe:=s.fe }:=by
  unfold feP
  split
  ·rename_i h
   rw [h]
   rfl
  ·rename_i h
   rw [List.foldl_cons,List.foldl_nil,foldP,if_pos (Aw h)]
   show ({ cZ with fe:=max 0 s.fe }:StaP)=_
   rw [Nat.zero_max]
 have e2:(liP s).foldl foldP { cZ with fe:=s.fe }={ cZ with fe:=s.fe,li:=s.li }:=by
  unfold liP
  split
  ·rename_i h
   rw [h]
   rfl
  ·rename_i h
   rw [List.foldl_cons,List.foldl_nil,foldP,if_pos (Ax h)]
   rfl
 have e3:(qF s).foldl foldP { cZ with fe:=s.fe,li:=s.li }={ cZ with fe:=s.fe,li:=s.li,cf:=s.cf }:=by
  unfold qF
  split
  ·rename_i h
   rw [List.foldl_cons,List.foldl_nil,foldP,if_pos (Ay h)]
   rfl
  ·rename_i h
   rcases hs.cf with h2|h2
   ·exact absurd h2 h
   ·rw [h2]
    rfl
 rw [e1,e2,e3,xe hs 16 (Nat.le_refl _) _ (fun _=>rfl)]
 obtain ⟨f,fe,li,cf⟩:=s
 congr 1
 funext i
 by_cases hi:i<16
 ·exact if_pos hi
 ·exact (if_neg hi).trans (hs.hi i (by omega)).symm

theorem zO (s:StaP):∀(k:Nat),(∀p∈slP s k,p.ke<k/\p.ki=1)/\List.Pairwise (fun a b=>a.ke<b.ke) (slP s k)
 | 0=>⟨fun p hp=>(by cases hp),List.Pairwise.nil⟩
 | k+1=>by
  obtain ⟨h1,h2⟩:=zO s k
  have e:slP s (k+1)=slP s k++(if (s.f k).ha=true then [pSl k (s.f k)] else []):=by
   unfold slP
   rw [List.range_succ,List.flatMap_append,List.flatMap_singleton]
  rw [e]
  split
  ·refine ⟨fun p hp => ?_,?_⟩
   ·rcases List.mem_append.1 hp with h|h
    ·exact ⟨by have:=(h1 p h).1;omega,(h1 p h).2⟩
    ·rw [List.mem_singleton.1 h]
     exact ⟨Nat.lt_succ_self k,rfl⟩
   ·rw [List.pairwise_append]
    refine ⟨h2,List.pairwise_singleton _ _,fun a ha b hb => ?_⟩
    rw [List.mem_singleton.1 hb]
    exact (h1 a ha).1
  ·rw [List.append_nil]
   exact ⟨fun p hp=>⟨by have:=(h1 p hp).1;omega,(h1 p hp).2⟩,h2⟩
end Go.Proofs.YtnkjdijbfnmnhaaGreat
