import Derived.Test.YtnkjdijbfnmnhaaGreatJ51
import Derived.Test.YtnkjdijbfnmnhaaGreatJ03
namespace Go.Proofs.YtnkjdijbfnmnhaaGreat.storeNil
set_option maxRecDepth 100000
set_option maxHeartbeats 12800000
open Go.ChangeShapes Go.WideShapes Go.ChangeAt Go.RowKit

theorem walk (m0:RecM) (y:Nat) (hy:y<=255) (w:World) (h2:RecM.wide w w.heap.size m0) :
  Calls Tryz.prog 6 #[m0.v, .int .u8 (y:Int)] w fun e w'=>e = .returned (.bool true)/\Below w.heap.size w w':=by
 have HMW:=aa (fun (u:World) (h:Below w.heap.size w u)=>recw_stable.below h2 h)
 obtain ⟨m,hmm⟩:∃x,x=m0:=⟨_,rfl⟩
 subst hmm
 have HVM:=aa (show m.v = .agg m.box from rfl)
 have HMZ:=aa (show m.box.size=21 from rfl)
 clear h2
 have HBS:=aa (fun (u:World)=>show (Instr.buildSlice 56 1 #[(0,Value.agg m.box)]).run Tryz.prog u = .ok (.slice (some ⟨u.heap.size,0,none⟩) 1 1) (u.alloc (.cells m.box 54)) from by obtain ⟨ki,ke,pc,pn,pl,ac,an,al,⟨rk,inc,st,⟨vA,vc,vl⟩,⟨dA,dc,dl⟩,⟨oA,oc,ol⟩,la,⟨mA,mc,ml⟩⟩,fe,li,⟨C,⟨xA,xc,xl⟩,⟨yA,yc,yl⟩⟩⟩:=m;kernel_rfl)
 obtain ⟨V,hV⟩:∃V,m.v=V:=⟨_,rfl⟩
 rw [hV] at HVM ⊢
 clear hV
 go_enter Tryz.func6,Tryz.ntmps6
 go_wp2_with (first|(refine au 54 (by rfl) _ (by rfl) (by rfl) HVM.out ?_;intro W0 HX0 HB0 HZ0)|(refine aj 54 (by rfl) _ (by rfl) av aH HX0.out (by rfl) HMZ.out ?_)|(refine bslice_known 56 1 _ (by rfl) (by rfl) #[(0,Value.agg m.box)] (by kernel_rfl) (HBS.out _) ?_))
 have HG2:=aa (qx ⟨some ⟨W0.heap.size,0,none⟩,1,[m]⟩ (W0.heap.size+1) (W0.alloc (.cells m.box 54)) ⟨by simp,by simp [maxLen],by simpa [RecM.cs] using de W0 m.box 54 m.box.toList (by simp),fun x hx=>by rw [List.mem_singleton.1 hx];exact recw_stable.more (HMW.out _ (HB0.out.trans ((Below.refl _ _).alloc (Nat.le_refl _) _ |>.mono HB0.out.size))) (by have:=HB0.out.size;omega)⟩ (by simp))
 simp only [Sl.v,List.length_singleton] at HG2
 have HB2:=aa (HB0.out.alloc HB0.out.size (.cells m.box 54))
 have HX2:=aa (HX0.out.alloc (.cells m.box 54))
 refine HG2.out.mono ?_
 rintro e w1 ⟨b2,rfl,hb2, -⟩
 have HB1:=aa (HB2.out.trans (hb2.mono HB2.out.size))
 have HX1:=aa (HX2.out.below hb2)
 clear hb2 HG2 HB2 HX2 HX0 HB0 HZ0 HBS HMW
 cases b2 with
 | true =>
  go_wp2_with fail
  refine (kP _).mono ?_
  rintro e wz ⟨rfl,hbz⟩
  go_wp2
  go_ret
  exact ⟨rfl,HB1.out.trans (hbz.mono HB1.out.size)⟩
 | false =>
 go_wp2_with fail
 refine (ry 64 5 _ (by omega) (by omega) (by omega) (by omega)).mono ?_
 rintro e w3 ⟨L,rfl,hd,hb3, -⟩
 have HB3:=aa (HB1.out.trans (hb3.mono HB1.out.size))
 have HX3:=aa (HX1.out.below hb3)
 have HO:=aa (il (qX hd (show (5:Nat)<6 by omega)))
 obtain ⟨bc,hbc⟩:∃b,L.b=b:=⟨_,rfl⟩
 rw [hbc] at HO ⊢
 clear hd hb3 hbc HB1 HX1
 go_wp2_with fail
 refine HO.out.mono ?_
 rintro e w4 ⟨rfl,hb4⟩
 have HB4:=aa (HB3.out.trans (hb4.mono HB3.out.size))
 have HX4:=aa (HX3.out.below hb4)
 clear hb4 HB3 HX3 HO
 go_wp2_with fail
 refine (il (xR _)).mono ?_
 rintro e w5 ⟨rfl,hb5⟩
 have HB5:=aa (HB4.out.trans (hb5.mono HB4.out.size))
 have HX5:=aa (HX4.out.below hb5)
 clear hb5 HB4 HX4
 have hl5:w.heap.size<w5.heap.size:=HX5.out.lt
 go_upto_region 9 with fail
 go_wp2_with (refine aj 54 (by rfl) _ (by rfl) av aH HX5.out (by rfl) HMZ.out ?_;rw [<- HVM.out])
 refine (zZ V m HVM.out _).mono ?_
 rintro e w6 ⟨rfl,hb6⟩
 have HB6:=aa (HB5.out.trans (hb6.mono HB5.out.size))
 have HWH:=aa (xT (KnowsAt.nil w6) (bO _ _) zeroSt (bO _ _) (StaEq.refl _) y hy)
 rw [show zeroSt.v = .agg zeroSt.box from rfl] at HWH
 clear hb6 HB5 HX5 hl5
 go_wp2_with (refine aX 75 _ (by rfl) (by rfl) (V := .agg zeroSt.box) (by kernel_rfl) ?_)
 refine HWH.out.mono ?_
 rintro e w7 ⟨rfl,hb7⟩
 have HB7:=aa (HB6.out.trans (hb7.mono HB6.out.size))
 clear hb7 HB6 HWH
 go_wp2_with fail
 refine (kP _).mono ?_
 rintro e wz ⟨rfl,hbz⟩
 go_wp2
 go_ret
 exact ⟨rfl,HB7.out.trans (hbz.mono HB7.out.size)⟩

theorem own:ownKnob Tryz.prog.godebug=none:=by kernel_rfl
theorem laid:laidOutB Tryz.prog=true:=by kernel_rfl

theorem contract (H:Type) (enc:TypeId × Value->H) (W:World) (base:Nat) (args:Array Value) (ds gs:List (DataW H)) (before:List MemPlace)
  (hval:∀(j:Nat) t v,Tryz.f6.params[j]?=some t->args[j]?=some v->Value.okWide Tryz.prog W .any base t v)
  (hW:DataW.Whole enc Tryz.prog Tryz.f6.params.toList Rows.storeNilSpec.vars false W args.toList ds gs before) :
  Calls Tryz.prog 6 args W fun e W'=>∃v,e = .returned v/\Rows.storeNilSpec.post enc Tryz.prog Tryz.f6 false true false false W args v W':=by
 have hW':=hW
 obtain ⟨p,q,hA0,hV,rfl,hfz,hnd⟩:=hW
 have hA:DataW.TrodAll enc Tryz.prog W 0 (fun _=>true) true Tryz.f6.params.toList args.toList ds p:=hA0
 rw [Tryz.params6] at hA hval
 obtain ⟨v0,vs0,d0,ds0,p0,q0,hargs,rfl,rfl,h0,r0⟩:=trodAll_cons hA
 obtain ⟨v1,vs1,d1,ds1,p1,q1,rfl,rfl,rfl,h1,r1⟩:=trodAll_cons r0
 obtain ⟨rfl,rfl,rfl⟩:=trodAll_nil r1
 obtain rfl:args = #[v0,v1]:=by cases args;simp_all
 obtain ⟨rfl,rfl⟩:=trodVars_none hV
 obtain ⟨u0,rfl,bu0⟩:=zv (hval 0 54 v0 rfl rfl) h0
 obtain ⟨a1,rfl,rfl,rfl,w1⟩:=open_int Tryz.underlying5 (hval 1 5 v1 rfl rfl) h1
 have b1:0<=a1/\a1<=255:=by simpa [Lit.wf,IntKind.min,IntKind.max,IntKind.signed,IntKind.bits] using w1
 have fin:∀(e:Ending) (W':World),e = .returned (.bool true)/\Below W.heap.size W W'->∃v,e = .returned v/\Rows.storeNilSpec.post enc Tryz.prog Tryz.f6 false true false false W #[RecM.v u0, .int .u8 a1] v W' :=
  fun e W' ⟨he,hb⟩=>⟨_,he,yD laid (by kernel_rfl) rfl rfl rfl Tryz.underlying4 hW' hb⟩
 obtain ⟨y,rfl⟩:=Int.eq_ofNat_of_zero_le b1.1
 exact (walk u0 y (by omega) W bu0).mono fin

theorem lifted (os:Os) (started:os.Started) (H:Type) (enc:TypeId × Value->H) :
  ReturnsInHanded {} Tryz.checked os 6 .any (Rows.storeNilSpec.pre6 enc Tryz.prog Tryz.f6 Rows.storeNilRow.domain false) (Rows.storeNilSpec.post enc Tryz.prog Tryz.f6 false true false false):=by
 refine returnsInHanded_of_change (C:=Tryz.checked) (s:=Rows.storeNilSpec) own started (by kernel_rfl) Tryz.func6
  (ChangeSpec.witness6 (enc:=enc) (C:=Tryz.checked) false ⟨#[],#[.agg #[.int .u8 0, .int .u8 0, .int .u64 0, .int .u8 0, .int .u32 0, .int .u64 0, .int .u8 0, .int .u32 0, .int .u8 0, .int .u64 0, .int .i64 0, .slice none 0 0, .slice none 0 0, .slice none 0 0, .int .u64 0, .slice none 0 0, .int .u64 0, .int .u32 0, .int .u64 0, .slice none 0 0, .slice none 0 0], .int .u8 0],[]⟩ 8 (by kernel_rfl) (by kernel_rfl) (by kernel_rfl) (by kernel_rfl)) ?_
 intro W base args ds gs before hval hW _ _
 exact contract H enc W base args ds gs before hval hW

theorem proved:Rows.StoreNilSaid :=
 OpenClaim.holds_of_wide 6 Tryz.f6 rfl rfl rfl rfl rfl rfl rfl ⟨rfl,rfl,rfl,rfl,rfl⟩ rfl rfl rfl rfl rfl (by kernel_rfl) Tryz.func6 closed
  (of_decide_eq_true (by kernel_rfl)) (by unfold Func.isWrapper;first|(rw [if_pos (by decide +kernel)];kernel_rfl)|(rw [if_neg (by decide +kernel)];exact ⟨rfl,rfl⟩))
  (fun os started H enc _=>lifted os started H enc)

end Go.Proofs.YtnkjdijbfnmnhaaGreat.storeNil
