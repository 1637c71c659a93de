/-
  Texts of this claim put together: Jn11, Jn12, Jn13, Jn14, Jn15, Jn16, Jn17, Jn18, Jn19, Two13.
-/
import Derived.Test.YtnkjdijbfnmnhaaGreatJ48
import Derived.Test.YtnkjdijbfnmnhaaGreatJ49
import Derived.Sort.CutIn
import Derived.Maps.AppendAt
import Derived.WalkMore
import Derived.Deep.RegionHeld
import Derived.StillTailTactics
import Derived.Test.YtnkjdijbfnmnhaaGreatJ19

namespace Go.Proofs.YtnkjdijbfnmnhaaGreat
set_option maxRecDepth 100000
set_option maxHeartbeats 12800000
open Go.RowKit Go.Shelf

attribute [local go_sem] Oper.semAt_some

theorem bs (n:Int):IntKind.u64.wrap n=n % 18446744073709551616:=by simp [IntKind.wrap,IntKind.bits,IntKind.signed]
theorem sg:(Tryz.prog.info? 50).map (fun i=>(i.zero,i.size,i.bytes))=some (some (.slice none 0 0),1,24):=by kernel_rfl
theorem AA (a b:Value) (w:World):(Instr.index 292 (.agg #[a,b]) (.int .i64 0)).run Tryz.prog w = .ok a w/\(Instr.index 292 (.agg #[a,b]) (.int .i64 1)).run Tryz.prog w = .ok b w:=by
 refine ⟨?_,?_⟩ <;> simp [Instr.index,run_underlying Tryz.underlying292,asIntOf,go_sem]

structure Rnd (w:World) (C:Nat) (L:Lay) (D:Dk) (jb b0 t g K u:Nat) (rs:List (List UInt8)) (v:Value) (vs:List Value) (W wr:World):Prop where
 s:ScanI w.heap.size (w.heap.size+6) L D jb w.heap.size (w.heap.size+1) t g K u rs v vs wr
 c:Chg (fun q=>q=jb) w wr
 p:KpJ L b0 W wr
 k:KeepsFrom C W wr
section
variable {w W wr w' : World} {C : Nat} {L : Lay} {D : Dk} {jb b0 t g K u : Nat} {rs : List (List UInt8)} {v : Value} {vs : List Value}
theorem qQ {X Y:World} (h:Below X.heap.size X Y):KeepsFrom C X Y:=⟨h.size,fun k _ _ hk _=>(h.block k (Array.getElem?_eq_some_iff.1 hk).1).trans hk⟩
theorem kB {X Y:World} {b:Nat} {cs:Array Value} {T:TypeId} (hx:BoxAt X b cs T) (hg:X.grownBy Y (some b)):KeepsFrom C X Y:=⟨hg.size,fun k o _ hk ho=>(hg.block k (Array.getElem?_eq_some_iff.1 hk).1 (fun e=>by
 cases e
 rw [show X.heap[b]?=_ from hx] at hk
 cases hk
 cases ho)).trans hk⟩
theorem Rnd.below (h:Rnd w C L D jb b0 t g K u rs v vs W wr) (hb0:b0+4<=wr.heap.size) (hb:Below wr.heap.size wr w'):Rnd w C L D jb b0 t g K u rs v vs W w' :=
 ⟨h.s.below hb,h.c.trans (Chg.of_below (S:=fun q=>q=jb) hb) (fun _ e _=>e),h.p.trans (KpJ.of_below h.s.j.d hb0 hb),h.k.trans (qQ hb)⟩
theorem Rnd.typed {b:Nat} {cs:Array Value} {T:TypeId} (h:Rnd w C L D jb b0 t g K u rs v vs W wr) (hx:BoxAt wr b cs T) (hT:T≠136/\T≠137/\T≠50/\T≠5) (hb:b0+4<=b) (hB:w.heap.size<=b0) (hg:wr.grownBy w' (some b)):Rnd w C L D jb b0 t g K u rs v vs W w':=by
 have hne:∀k,k≠b->k<wr.heap.size->w'.heap[k]?=wr.heap[k]?:=fun k hk hl=>hg.block k hl (fun e=>hk (by cases e;rfl))
 refine ⟨h.s.typed hx hT (by omega) hg,h.c.trans (Chg.of_grown (S:=fun q=>q=jb∨w.heap.size<=q) hg (.inl (.inr (by omega)))) (fun q e hq => ?_),h.p.trans ⟨hg.size,fun k hk => ?_⟩,h.k.trans (kB hx hg)⟩
 ·rcases e with e|e
  ·exact e
  ·omega
 ·rcases hk with e|e
  ·have:=h.s.lt k e
   exact hne k (by omega) (h.s.j.d.lt e)
  ·exact hne k (by omega) (by have:=hx.lt;omega)
end
section
variable {w W wr : World} {C : Nat} {L : Lay} {D : Dk} {jb b0 t g K u : Nat} {rs : List (List UInt8)} {v : Value} {vs : List Value}
theorem Rnd.push {w5:World} {r:List UInt8} {A:Option Addr} {c:Nat} {v':Value} {o:Obj} (h:Rnd w C L D jb b0 t g K u rs v vs W wr) (hr:wr.ownsRow 0 5 1 (.slice A r.length c) r.length (bv r))
  (hown:w5.ownsRow (w.heap.size+6) 50 1 v' (rs.length+1) (vs++[.slice A r.length c])) (hgr:(wr.alloc o).grownBy w5 v.ownBlock) (hb0:b0=w.heap.size+2):Rnd w C L D jb b0 t g K u (rs++[r]) v' (vs++[.slice A r.length c]) W (w5.setCell ⟨w.heap.size+1,0,none⟩ v'):=by
 have hvb:∀q,v.ownBlock=some q->w.heap.size+6<=q:=fun q e=>(h.s.ow.lt q e).1
 have gs:=aE w5 (w.heap.size+1) 0 v'
 have hal:Below wr.heap.size wr (wr.alloc o):=(Below.refl _ _).alloc (Nat.le_refl _) _
 have hsz:=h.s.sz
 have hne:∀k,k<wr.heap.size->v.ownBlock≠some k->k≠w.heap.size+1->(w5.setCell ⟨w.heap.size+1,0,none⟩ v').heap[k]?=wr.heap[k]?:=fun k hl e1 e2=>by
  rw [Below.heap_setCell _ _ _ _ e2,hgr.block k (Nat.lt_of_lt_of_le hl hal.size) (fun e=>e1 e.symm)]
  exact hal.block k hl
 have hsz2:wr.heap.size<=(w5.setCell ⟨w.heap.size+1,0,none⟩ v').heap.size:=Nat.le_trans hal.size (Nat.le_trans hgr.size gs.size)
 refine ⟨h.s.push hr hown hgr,⟨gs.os.trans (hgr.os.trans (hal.os.trans h.c.os)),gs.tape.trans (hgr.tape.trans (hal.tape.trans h.c.tape)),gs.output.trans (hgr.output.trans (hal.output.trans h.c.output)),Nat.le_trans h.c.size hsz2,fun k hk hn=>(hne k (Nat.lt_of_lt_of_le hk h.c.size) (fun e=>by have:=hvb k e;omega) (by omega)).trans (h.c.block k hk hn)⟩,h.p.trans ⟨hsz2,fun k hk => ?_⟩,h.k.trans ⟨hsz2,fun k ob _ hk ho=>(hne k (Array.getElem?_eq_some_iff.1 hk).1 (fun e => ?_) (fun e => ?_)).trans hk⟩⟩
 ·rcases hk with e|e
  ·have:=h.s.lt k e
   exact hne k (h.s.j.d.lt e) (fun e'=>by have:=hvb k e';omega) (by omega)
  ·exact hne k (by omega) (fun e'=>by have:=hvb k e';omega) (by omega)
 ·rcases h.s.ow.2 with ⟨rfl,_⟩ | ⟨q,cap,cur,rfl,_,hq,_⟩
  ·cases e
  ·injection e with e
   subst e
   rw [hq] at hk
   cases hk
   cases ho
 ·subst e
  rw [show wr.heap[w.heap.size+1]?=_ from h.s.xl] at hk
  cases hk
  cases ho
theorem Rnd.count (h:Rnd w C L D jb b0 t g K u rs v vs W wr) (u':Nat) (hb0:b0=w.heap.size+2):Rnd w C L D jb b0 t g K u' rs v vs W (wr.setCell ⟨jb,4,none⟩ (.int .i64 (u':Int))):=by
 have gs:=aE wr jb 4 (.int .i64 (u':Int))
 have hne:∀k,k≠jb->k<wr.heap.size->(wr.setCell ⟨jb,4,none⟩ (.int .i64 (u':Int))).heap[k]?=wr.heap[k]?:=fun k hk hl=>gs.block k hl (fun e=>hk (by cases e;rfl))
 have hj:=h.s.hj
 have hsz:=h.s.sz
 refine ⟨h.s.count u',h.c.trans (Chg.of_grown (S:=fun q=>q=jb) gs (.inl rfl)) (fun _ e _=>e),h.p.trans ⟨gs.size,fun k hk => ?_⟩,h.k.trans (kB h.s.j.x gs)⟩
 rcases hk with e|e
 ·exact hne k (fun e'=>h.s.j.h (e' ▸ e)) (h.s.j.d.lt e)
 ·exact hne k (by omega) (by omega)
end
theorem Sees.putObj13 {W:World} {B l:Nat} {A:Option Addr} {xs:List Value} {o o':Obj} (h:Sees W B A xs) (hl:W.heap[l]?=some o) (ho:o.isCells=false):Sees (W.putObj l o') B A xs:=fun hn=>by
 obtain ⟨ad,e,hb,hc⟩:=h hn
 refine ⟨ad,e,hb,fun j u hu => ?_⟩
 have h1:=hc j u hu
 refine (World.cell?_of_block (World.putObj_heap_other fun e' => ?_)).trans h1
 rw [World.cell?,e',hl] at h1
 cases o with
 | cells=>cases ho
 | _=>simp at h1

theorem Ch {w:World} {L:Lay} {D:Dk} {jb t g K:Nat} (h:JBox w L D jb t g K 0) (hc:D.calm) (hw:D.waits=[]) (h6:6<=D.c) (rs:List (List UInt8)) (hK:rs.length=K) (hK2:K<=2047) (hg:g<=100000) (hrl:∀r∈rs,r.length<=2048)
  (hsec:secs D.kept (bw D.c g) (usedN g D.n 1 rs)=framesB g D.n 1 rs) (hfit:usedN g D.n 1 rs<=aI D.c) :
  CallsIn .wide 6 Tryz.prog 142 #[.pointer (some ⟨jb,0,none⟩)] w fun e w'=>∃A c vs,e = .returned (.tuple #[.slice A K c, .int .i64 0])/\JBox w' L D jb t g K (usedN g D.n 1 rs)/\w'.ownsRow w.heap.size 50 1 (.slice A K c) K vs/\RowsOf w' rs vs/\Chg (fun q=>q=jb) w w':=by
 have hn1:=h.d.ok.n1
 have hcc:=h.d.ok.c2
 have hae:aI D.c<=2047:=by unfold aI;omega
 have hfe:=o0 (c:=D.c) (g:=g)
 have HFR:=aa (show ∀u,Below w.heap.size w u->Calls Tryz.prog 214 #[.pointer (some ⟨jb,0,none⟩), .int .u64 (g:Int)] u fun e w'=>e = .returned (.int .i64 (bw D.c g:Int))/\w'=u from fun u hu=>(o3 (h.below hu) h6 g hg).mono fun e w' h=>⟨h.1,h.2.symm⟩)
 have HAR:=aa (show ∀u,Below w.heap.size w u->Calls Tryz.prog 159 #[.pointer (some ⟨jb,0,none⟩)] u fun e w'=>e = .returned (.int .i64 (aI D.c:Int))/\w'=u from fun u hu=>(jG (h.below hu) h6).mono fun e w' h=>⟨h.1,h.2.symm⟩)
 obtain ⟨W1,hW1⟩:∃W,(w.alloc (.cells #[.pointer (some ⟨jb,0,none⟩)] 136)).alloc (.cells #[.slice none 0 0] 137)=W:=⟨_,rfl⟩
 have hb1:Below w.heap.size w W1:=hW1 ▸ ((Below.refl _ _).alloc (Nat.le_refl _) _).alloc (by simp) _
 have hs1:W1.heap.size=w.heap.size+2:=by rw [<- hW1];simp
 have x1:BoxAt W1 w.heap.size #[.pointer (some ⟨jb,0,none⟩)] 136:=hW1 ▸ (BoxAt.new w _ _).alloc _
 have xl:BoxAt W1 (w.heap.size+1) #[.slice none 0 0] 137:=by
  have:=BoxAt.new (w.alloc (.cells #[.pointer (some ⟨jb,0,none⟩)] 136)) #[.slice none 0 0] 137
  rw [hW1] at this
  simpa using this
 have hS1:ScanI w.heap.size w.heap.size L D jb w.heap.size (w.heap.size+1) t g K 0 [] (.slice none 0 0) [] W1:=⟨h.below hb1,x1,xl,World.ownsRow_nil _ _ _ _,⟨rfl,fun i r e=>by simp at e⟩,fun q hq=>h.d.lt hq,h.x.lt,Nat.le_refl _,Nat.le_succ _,hb1.size,Nat.le_refl _⟩
 have HW1:=aa hW1
 have HB1:=aa hb1
 have HS1:=aa hS1
 have HZ1:=aa hs1
 have H:=aa h
 obtain ⟨c0,c1,c2,c3,c4,c5⟩:=(h.below hb1).cells
 have cx:=x1.cell 0
 have cl:=xl.cell 0
 simp only [List.getElem?_toArray,List.getElem?_cons_zero] at cx cl
 obtain ⟨B,hB⟩:∃B,w.heap.size=B:=⟨_,rfl⟩
 have HBB:=aa hB
 rw [hB] at cx cl
 obtain ⟨fr,hfr⟩:∃q,bw D.c g=q:=⟨_,rfl⟩
 obtain ⟨ar,har⟩:∃q,aI D.c=q:=⟨_,rfl⟩
 rw [hfr,har] at hfe
 rw [hfr] at HFR hsec
 rw [har] at HAR hfit hae
 have hfr9:fr<=2049:=by
  rw [<- hfr]
  unfold bw
  have:g % 2<2:=Nat.mod_lt _ (by omega)
  have h2:g % 2 * aI D.c<=1 * 2047:=Nat.mul_le_mul (by omega) (by rw [har];exact hae)
  omega
 obtain ⟨z,hz⟩:∃z,fr+ar=z:=⟨_,rfl⟩
 have hzw:IntKind.i64.wrap ((fr:Int)+(ar:Int))=(z:Int):=by rw [IntKind.wrap_i64];omega
 have hzc:z<=D.c:=by omega
 have HSEC:=aa hsec
 have HFIT:=aa hfit
 have HRL:=aa hrl
 clear h hb1 hs1 x1 xl hS1 hW1 hsec hfit hrl hB hfr har
 refine callsIn_of_wp_marks Tryz.func142 rfl trivial ?_ rfl
 simp only [Tryz.ntmps142,List.size_toArray,List.length_cons,List.length_nil,Nat.reduceAdd,Nat.reduceSub,Array.replicate_succ,Array.replicate_zero,List.push_toArray,List.append_toArray,List.nil_append,List.cons_append]
 refine wpIn_wide.2 ?_
 go_wp2
 refine wp_scope_straight ?_
 go_wp2
 rw [HW1.out,HBB.out]
 have HF1:=aa (fun (u:World) (hu:∃q,u=W1.drewN q)=>HFR.out u (HB1.out.trans (by obtain ⟨q,rfl⟩:=hu;exact dS (Below.refl _ _) q)))
 have HA1:=aa (fun (u:World) (hu:∃q,u=W1.drewN q)=>HAR.out u (HB1.out.trans (by obtain ⟨q,rfl⟩:=hu;exact dS (Below.refl _ _) q)))
 go_quiet (first|(go_at_call 214;refine Calls.quiet_of_same (HF1.out _ ⟨_,rfl⟩)))
 go_wp2
 obtain ⟨W2,hW2⟩:∃u,W1.drewN nq=u:=⟨_,rfl⟩
 have hb12:Below W1.heap.size W1 W2:=hW2 ▸ dS (Below.refl _ _) nq
 have HS2:=aa (HS1.out.below hb12)
 have HB2:=aa (HB1.out.trans (hb12.mono HB1.out.size))
 have HZ2:=aa (show W2.heap.size=w.heap.size+2 from by rw [<- hW2];exact HZ1.out)
 have HA2:=aa (show ∀u,Below W2.heap.size W2 u->_ from fun u hu=>HAR.out u (HB2.out.trans (hu.mono HB2.out.size)))
 rw [hW2]
 obtain ⟨d0,d1,d2,d3,d4,d5⟩:=HS2.out.j.cells
 have dx:=HS2.out.xj.cell 0
 simp only [List.getElem?_toArray,List.getElem?_cons_zero] at dx
 rw [HBB.out] at dx
 clear hW2 hb12 HF1 HA1 HFR HAR c0 c1 c2 c3 c4 c5 cx cl
 go_step3
 go_wp2
 refine wp_region_still_tail 14 (by kernel_rfl) (by kernel_rfl) ?_
 simp only [List.take_succ_cons,List.take_zero,List.drop_succ_cons,List.drop_zero]
 repeat still_step
 refine wpStill_step (fun Kx hKx => ?_)
 go_simp
 refine ⟨_,HA2.out _ ((Below.refl _ _).drew),hKx _ ?_⟩
 clear hKx Kx
 repeat still_step
 refine wpStill_nil ?_
 obtain ⟨W3,hW3⟩:∃u,W2.drew=u:=⟨_,rfl⟩
 have hb3:Below W2.heap.size W2 W3:=hW3 ▸ (Below.refl _ _).drew
 have HS3:=aa (HS2.out.below hb3)
 have HB3:=aa (HB2.out.trans (hb3.mono HB2.out.size))
 have HZ3:=aa (show W3.heap.size=B+2 from by rw [<- hW3,<- HBB.out];exact HZ2.out)
 change wpList _ _ _ _ _ W2.drew
 rw [hW3]
 clear hW3 hb3
 go_wp2_with (go_at_call 215;refine (callsIn_wide.1 (xI _ _ _ _ _)).mono ?_;rintro _ _ ⟨rfl,rfl⟩)
 obtain ⟨W4,hW4⟩:∃W,(((W3.alloc (.cells #[.pointer (some ⟨L.b,0,none⟩)] 65)).alloc (.cells #[.int .i64 (fr:Int)] 3)).alloc (.cells #[.int .i64 (z:Int)] 3)).alloc (.cells #[.int .u64 (K:Int)] 25)=W:=⟨_,rfl⟩
 have hb34:Below W3.heap.size W3 W4:=hW4 ▸ ((((Below.refl _ W3).alloc (Nat.le_refl _) _).alloc (by simp) _).alloc (by simp;omega) _).alloc (by simp;omega) _
 have hs4:W4.heap.size=W3.heap.size+4:=by rw [<- hW4];simp
 have y0:BoxAt W4 W3.heap.size #[.pointer (some ⟨L.b,0,none⟩)] 65:=hW4 ▸ (((BoxAt.new W3 _ _).alloc _).alloc _).alloc _
 have y1:BoxAt W4 (W3.heap.size+1) #[.int .i64 (fr:Int)] 3:=by
  have:=((BoxAt.new (W3.alloc (.cells #[.pointer (some ⟨L.b,0,none⟩)] 65)) #[.int .i64 (fr:Int)] 3).alloc (.cells #[.int .i64 (z:Int)] 3)).alloc (.cells #[.int .u64 (K:Int)] 25)
  rw [hW4] at this
  simpa using this
 have y2:BoxAt W4 (W3.heap.size+1+1) #[.int .i64 (z:Int)] 3:=by
  have:=(BoxAt.new ((W3.alloc (.cells #[.pointer (some ⟨L.b,0,none⟩)] 65)).alloc (.cells #[.int .i64 (fr:Int)] 3)) #[.int .i64 (z:Int)] 3).alloc (.cells #[.int .u64 (K:Int)] 25)
  rw [hW4] at this
  simpa using this
 have y3:BoxAt W4 (W3.heap.size+1+1+1) #[.int .u64 (rs.length:Int)] 25:=by
  have:=BoxAt.new (((W3.alloc (.cells #[.pointer (some ⟨L.b,0,none⟩)] 65)).alloc (.cells #[.int .i64 (fr:Int)] 3)).alloc (.cells #[.int .i64 (z:Int)] 3)) #[.int .u64 (K:Int)] 25
  rw [hW4] at this
  rw [hK]
  simpa using this
 have HS4:=aa ((HS3.out.below hb34).nil (R':=w.heap.size+6) (by omega) (by rw [hs4,HZ3.out,HBB.out];exact Nat.le_refl _))
 have HB4:=aa (HB3.out.trans (hb34.mono HB3.out.size))
 obtain ⟨b0,hb0⟩:∃b,W3.heap.size=b:=⟨_,rfl⟩
 rw [hb0] at hs4 y0 y1 y2 y3
 have hbB:b0=B+2:=hb0.symm.trans HZ3.out
 have HFH:=aa (o9 HS4.out.j.d hc hw fr z b0 g rs hg (by omega) HRL.out HSEC.out (by have:=HFIT.out;omega) hzc y0 y1 y2 y3)
 have hLm:L.m<W4.heap.size:=Nat.lt_of_lt_of_le HS4.out.j.d.map.lt (Nat.le_refl _)
 have hLt:∀q,L.has q->q<B:=fun q hq=>by have:=HS4.out.lt q hq;rw [HBB.out] at this;exact this
 have HLT:=aa hLt
 have HBB0:=aa hbB
 rw [hW4,hb0]
 clear hbB hW4 hb34 y0 y1 y2 y3 hb0 hLt d0 d1 d2 d3 d4 d5 dx HS2 HB2 HZ2 HA2 HS3 HB3 HZ3 HS1 HB1 HZ1
 refine (wpIn_wide (n:=6)).1 ?_
 refine xH rfl (by omega) (gf:=277) (lb := #[.pointer (some ⟨b0+1,0,none⟩), .pointer (some ⟨b0+1+1+1,0,none⟩), .pointer (some ⟨b0+1+1,0,none⟩), .pointer (some ⟨b0,0,none⟩)]) rfl trivial (enters_of Tryz.func277 (by kernel_rfl) rfl)
  (encs:=rcE) (fun _=>rfl) HFH.out (fun h k=>h.trans k)
  (fun W l o o' hl h _ _=>⟨(grownBy_putObj' W l o').size,fun k hk=>World.putObj_heap_other (by
   rcases hk with e|e
   ·have:=HLT.out k e
    have:=HBB0.out
    omega
   ·omega)⟩)
  (fun pre x W l o o' hl h ho ⟨r,e1,e2,e3,e4⟩=>⟨r,e1,e2,e3,by
   have e5:=(e4.putObj13 (o':=o') h ho).more (grownBy_putObj' W l o').size
   exact e5⟩)
  (fun pre W=>∃v vs,ScanI w.heap.size (w.heap.size+6) L D jb w.heap.size (w.heap.size+1) t g K (usedN g D.n 1 (rs.take pre.length)) (rs.take pre.length) v vs W/\Chg (fun q=>q=jb) w W/\KpJ L b0 W4 W)
  (fun pre X Y row ⟨v,vs,i1,i2,i3⟩ hgr hr=>⟨v,vs,i1.turn hLm hgr hr,⟨hgr.os.trans i2.os,hgr.tape.trans i2.tape,hgr.output.trans i2.output,Nat.le_trans i2.size hgr.size,fun k hk hn=>(hgr.block k (Nat.lt_of_lt_of_le hk i2.size) (fun e=>by have:=(hr k e.symm).1;have:=HBB.out;have:=HBB0.out;omega)).trans (i2.block k hk hn)⟩,⟨Nat.le_trans i3.1 hgr.size,fun k hk=>(hgr.block k (by
   have:=i3.1
   rcases hk with e|e
   ·have:=HLT.out k e
    have:=HBB0.out
    omega
   ·omega) (fun e=>by
   have:=(hr k e.symm).1
   rcases hk with e|e
   ·have:=HLT.out k e
    have:=HBB0.out
    omega
   ·omega)).trans (i3.2 k hk)⟩⟩)
  ⟨_,_,HS4.out,Chg.of_below HB4.out,Nat.le_refl _,fun _ _=>rfl⟩
  (fun x=>{ tmps := #[.pointer (some ⟨jb,0,none⟩), .pointer (some ⟨B,0,none⟩), .slice none 0 0, .int .i64 0, .pointer (some ⟨B+1,0,none⟩), .int .i64 (fr:Int), .slice x.A x.m x.c, .int .i64 (x.s:Int),undef,undef,undef,undef, .pointer (some ⟨jb,0,none⟩), .pointer (some ⟨jb,0,none⟩), .pointer (some ⟨jb,0,none⟩), .pointer (some ⟨jb,1,none⟩), .pointer (some ⟨jb,2,none⟩), .int .u64 (g:Int), .int .i64 (fr:Int), .pointer (some ⟨jb,0,none⟩), .pointer (some ⟨jb,0,none⟩), .pointer (some ⟨jb,0,none⟩), .pointer (some ⟨L.b,0,none⟩), .int .i64 (fr:Int), .int .i64 (fr:Int), .pointer (some ⟨jb,0,none⟩), .int .i64 (ar:Int), .int .i64 (z:Int), .pointer (some ⟨jb,0,none⟩), .pointer (some ⟨jb,0,none⟩), .pointer (some ⟨jb,1,none⟩), .pointer (some ⟨jb,3,none⟩), .int .u64 (K:Int), .func (.func 277) #[] #[.pointer (some ⟨b0+1,0,none⟩), .pointer (some ⟨b0+1+1+1,0,none⟩), .pointer (some ⟨b0+1+1,0,none⟩), .pointer (some ⟨b0,0,none⟩)], .slice x.A x.m x.c, .int .i64 (x.s:Int),undef,undef,undef,undef,undef,undef,undef,undef,undef,undef,undef,undef,undef,undef,undef,undef,undef,undef,undef,undef,undef,undef,undef,undef,undef,undef,undef,undef,undef,undef,undef,undef,undef,undef,undef,undef,undef,undef,undef,undef,undef,undef,undef,undef,undef,undef,undef],defers:=[] })
  ?assign ?body ?done
 case assign =>
  rintro l ⟨xA,xm,xc,xs⟩ W Kx hKx
  simp only [rcE]
  gi_wp2
  exact hKx
 case body =>
  rintro l pre ⟨xA,xm,xc,xs⟩ W hl ⟨v,vs,hS,hC,hP⟩ ⟨r,hr,hm,hs,hsee⟩
  simp only at hm hs hsee
  obtain ⟨k,hk⟩:∃k,pre.length=k:=⟨_,rfl⟩
  have HPK:=aa hk
  rw [hk] at hS hr hm hs hsee
  have hkK:k<rs.length:=(List.getElem?_eq_some_iff.1 hr).1
  have htl:(rs.take k).length=k:=by rw [List.length_take];omega
  have hkk:k<=2046:=by omega
  obtain ⟨Av,cv,rfl⟩:=bg hS.ow
  rw [htl] at hS
  have hrl:=HRL.out r (List.mem_of_getElem? hr)
  have hlb:=fv (g:=g) (i:=1+k) (r:=r) (by omega) (by omega) (by omega)
  have hb4:b0+4<=W.heap.size:=by have:=hP.1;omega
  have HR0:=aa (show Rnd w W4.heap.size L D jb b0 t g K (usedN g D.n 1 (rs.take k)) (rs.take k) (.slice Av k cv) vs W W from ⟨hS,hC,⟨Nat.le_refl _,fun _ _=>rfl⟩,KeepsFrom.refl _ _⟩)
  have HN:=aa (mo (jrecB g (1+k) r) W.heap.size xA xm xc W hm.symm hsee (Nat.le_refl _) (by omega))
  have HTL:=aa htl
  have HRR:=aa hr
  have HXS:=aa hs
  have HPP:=aa hP
  clear hm hs hsee hS hC hP htl hr hk
  gi_wp2_with (refine ⟨trivial,?_⟩;gi_at_call 65;refine (CallsIn.inRound l (callsIn_wide.2 HN.out)).mono ?_;rintro e w1 ⟨g8,rfl,hg8,hr1,hb1⟩;(have HR1:=aa (HR0.out.below hb4 hb1));(have HD1:=aa hr1);(have hw1:=hb1.size);(obtain ⟨e0,e1,e2,e3,e4,e5⟩:=HR1.out.s.j.cells);(have ex:=HR1.out.s.xj.cell 0);(have el:=HR1.out.s.xl.cell 0);(simp only [List.getElem?_toArray,List.getElem?_cons_zero] at ex el);(rw [HBB.out] at ex el);clear hr1 hb1)
  refine iU (by kernel_rfl) (by kernel_rfl) (by kernel_rfl) ?_
  repeat quiet_step_in (fail)
  refine wpQuietIn_nil ?_
  rintro _ ⟨nq,rfl⟩
  have hu1:IntKind.u64.wrap (k:Int)=(k:Int):=by rw [bs];omega
  have hu2:IntKind.u64.wrap ((k:Int)+1)=((1+k:Nat):Int):=by rw [bs];omega
  rw [hu1,hu2]
  obtain ⟨w2,hw2⟩:∃u,w1.drewN nq=u:=⟨_,rfl⟩
  have hb2:Below w1.heap.size w1 w2:=hw2 ▸ dS (Below.refl _ _) nq
  have hb41:b0+4<=w1.heap.size:=Nat.le_trans hb4 hw1
  have HR2:=aa (HR1.out.below hb41 hb2)
  have HD2:=aa (HD1.out.below hb2)
  rw [hw2]
  have hbB0:w.heap.size<=b0:=by rw [HBB.out,HBB0.out];omega
  have hg80:b0+4<=g8:=Nat.le_trans hb4 hg8
  obtain ⟨y,hy⟩:∃y,1+k=y:=⟨_,rfl⟩
  rw [hy] at HD2 ⊢
  have HY:=aa hy
  have hy9:y<=100000:=by omega
  have hlb2:(numB g++(numB y++rowB r)).length<=900000:=by
   rw [hy,jrecB,List.append_assoc] at hlb
   omega
  have HLB:=aa (show (numB y++rowB r).length<=900000/\(rowB r).length<=900000 from by
   rw [List.length_append] at hlb2
   constructor
   ·omega
   ·rw [List.length_append] at hlb2
    omega)
  clear hw2 hb2 HD1 hu1 hu2 e0 e1 e2 e3 e4 e5 ex el hy hlb hlb2
  gi_wp2
  gi_loopw [48] (fun i wr=>∃rest:List UInt8,((i = .int .i64 0/\rest=numB g++(numB y++rowB r))∨(i = .int .i64 1/\rest=numB y++rowB r)∨(i = .int .i64 2/\rest=rowB r))/\Hid (Rdr wr g8 rest 0)/\Hid (Rnd w W4.heap.size L D jb b0 t g K (usedN g D.n 1 (rs.take k)) (rs.take k) (.slice Av k cv) vs W wr)) (fun i _=>2 - (intOf i).toNat)
  case atStart=>exact ⟨_, .inl ⟨rfl,rfl⟩,aa (by have:=HD2.out;rw [jrecB,List.append_assoc] at this;exact this),HR2⟩
  case round =>
   obtain ⟨rest,hcase,HD3,HR3⟩:=hrel
   clear HR2 HD2
   have hstep:∀u:World,wr.grownBy u (some g8)->Rnd w W4.heap.size L D jb b0 t g K (usedN g D.n 1 (rs.take k)) (rs.take k) (.slice Av k cv) vs W u:=fun u hgu=>by
    obtain ⟨A',c',hx,_⟩:=HD3.out
    exact HR3.out.typed hx (by decide) hg80 hbB0 hgu
   have HST:=aa hstep
   rcases hcase with ⟨rfl,rfl⟩ | ⟨rfl,rfl⟩ | ⟨rfl,rfl⟩
   ·have hix:=(AA (.int .u64 (g:Int)) (.int .u64 (y:Int)) wr).1
    have HNU:=aa (ib HD3.out hg HLB.out.1)
    clear hstep
    gi_wp2_with (refine ⟨trivial,?_⟩;gi_at_call 135;refine (CallsIn.inRound l (callsIn_wide.2 HNU.out)).mono ?_;rintro e w3 ⟨rfl,hr3,hg3⟩;(have HD4:=aa hr3);(have HR4:=aa (HST.out _ hg3));clear hr3 hg3)
    go_roundw
    case rel=>exact ⟨_, .inr (.inl ⟨rfl,rfl⟩),HD4,HR4⟩
    case measure=>simp [intOf]
   ·have hix:=(AA (.int .u64 (g:Int)) (.int .u64 (y:Int)) wr).2
    have HNU:=aa (ib HD3.out hy9 HLB.out.2)
    clear hstep
    gi_wp2_with (refine ⟨trivial,?_⟩;gi_at_call 135;refine (CallsIn.inRound l (callsIn_wide.2 HNU.out)).mono ?_;rintro e w3 ⟨rfl,hr3,hg3⟩;(have HD4:=aa hr3);(have HR4:=aa (HST.out _ hg3));clear hr3 hg3)
    go_roundw
    case rel=>exact ⟨_, .inr (.inr ⟨rfl,rfl⟩),HD4,HR4⟩
    case measure=>simp [intOf]
   ·have hrow:=yV (l:=rowB r) 2048 HD3.out (by have:=HLB.out.2;omega) (by omega) (by omega)
    have hput:=vx r [] 2048 (by omega) (by omega)
    rw [List.append_nil] at hput
    rw [hput] at hrow
    have HROW:=aa (show Calls Tryz.prog 216 #[.pointer (some ⟨g8,0,none⟩), .int .i64 2048] wr fun e w'=>∃A c,(e = .returned (.slice A r.length c)/\Rdr w' g8 [] 0/\wr.grownBy w' (some g8))/\w'.ownsRow wr.heap.size 5 1 (.slice A r.length c) r.length (bv r) from hrow)
    obtain ⟨i0,hi,hz0,hz1,hz2⟩:=info_parts sg
    obtain ⟨rl,hrl2⟩:∃q,r.length=q:=⟨_,rfl⟩
    have HRL2:=aa hrl2
    rw [hrl2] at HROW
    clear hstep hrow hput hrl hrl2
    gi_upto_region 15 with (first|(refine ⟨trivial,?_⟩;gi_at_call 216;refine (CallsIn.inRound l (callsIn_wide.2 HROW.out)).mono ?_;rintro e w4 ⟨A4,c4,⟨rfl,hr4,hg4⟩,hown4⟩;(have HR4:=aa (HST.out _ hg4));(have HO4:=aa (az hown4 (Nat.zero_le _)));(have HEN:=aa (show Calls Tryz.prog 67 #[.pointer (some ⟨g8,0,none⟩)] w4 fun e w'=>e = .returned (.int .i64 0)/\w4=w' from by have:=n9 (s:=([],0)) hr4;simpa [endS] using this));(have el4:=HR4.out.s.xl.cell 0);(simp only [List.getElem?_toArray,List.getElem?_cons_zero] at el4);(rw [HBB.out] at el4);(have how:=HR4.out.s.ow);(rw [HTL.out] at how);(have HOW:=aa how);(have hsz4:=HR4.out.s.sz);clear hr4 hg4 hown4 how)|(refine ⟨trivial,?_⟩;gi_at_call 67;refine (CallsIn.inRound l (callsIn_wide.2 HEN.out)).mono ?_;rintro _ _ ⟨rfl,rfl⟩)|(gi_at_builtin;refine wpListIn_append_own _ rfl _ _ 137 rfl (w.heap.size+6) 50 i0 _ 1 24 Tryz.underlying137 hi hz0 hz1 hz2 rfl (by decide) _ k vs rfl (HOW.out.alloc _) ⟨w4.heap.size,0,none⟩ 1 1 [.slice A4 rl c4] rfl rfl (cell_one_new _ _ _) (by simp [Value.oneCell']) (by unfold maxLen;omega) (by omega) (by simp;omega) ?_;intro v' w5 hown5 hgr5 _;(obtain ⟨g5,cap5,rfl⟩:=ownsRow_succ hown5);(have HOW5:=aa hown5);(have HGR5:=aa hgr5);(have HL5:=aa (HR4.out.s.pushBox hgr5));(have c5:=HL5.out.cell 0);(have f5:=HL5.out.free9 0);(simp only [List.getElem?_toArray,List.getElem?_cons_zero] at c5);(rw [HBB.out] at c5 f5);clear hown5 hgr5))
    have HB0:=aa (show b0=w.heap.size+2 from by rw [HBB.out];exact HBB0.out)
    have HR5:=aa (HR4.out.push (r:=r) (by rw [HRL2.out];exact HO4.out) (by rw [HTL.out,HRL2.out];exact HOW5.out) HGR5.out HB0.out)
    obtain ⟨W6,hW6⟩:∃u,w5.setCell ⟨B+1,0,none⟩ (.slice (some ⟨g5,0,none⟩) (k+1) cap5)=u:=⟨_,rfl⟩
    rw [HBB.out,hW6] at HR5
    rw [hW6]
    obtain ⟨u,hu⟩:∃u,usedN g D.n 1 (rs.take k)=u:=⟨_,rfl⟩
    have HU:=aa hu
    rw [hu] at HR5
    have hrx:=HRR.out
    have hkl:k<rs.length:=(List.getElem?_eq_some_iff.1 hrx).1
    have hrr:rs[k]=r:=(List.getElem?_eq_some_iff.1 hrx).2
    have htk:rs.take (k+1)=rs.take k++[r]:=by rw [List.take_succ_eq_append_getElem hkl,hrr]
    have hus:usedN g D.n 1 (rs.take (k+1))=u+xs:=by
     rw [htk,usedN_app,HTL.out,HXS.out,hu]
     simp [usedN]
    have hu9:u+xs<=2047:=by
     have h1:=usedN_app (g:=g) (n:=D.n) 1 (rs.take (k+1)) (rs.drop (k+1))
     rw [List.take_append_drop,hus] at h1
     have:=HFIT.out
     omega
    have HUS:=aa hus
    have HTK:=aa htk
    obtain ⟨e0,e1,e2,e3,e4,e5⟩:=HR5.out.s.j.cells
    have f4:=HR5.out.s.j.x.free9 4
    have ex:=HR5.out.s.xj.cell 0
    simp only [List.getElem?_toArray,List.getElem?_cons_zero] at ex
    rw [HBB.out] at ex
    clear hW6 hu hrx hkl hrr htk hus c5 f5
    gi_wp2
    have hcu:=HR5.out.count (u+xs) HB0.out
    rw [show ((u+xs:Nat):Int)=(u:Int)+(xs:Int) from by omega,hs4] at hcu
    refine ⟨hcu.k,hcu.p,⟨.slice (some ⟨g5,0,none⟩) (k+1) cap5,vs++[.slice A4 r.length c4],?_⟩,hcu.c,HPP.out.trans hcu.p⟩
    rw [HPK.out,HUS.out,HTK.out]
    exact hcu.s
 case done =>
  rintro Dd xs W hD hxs ⟨v,vs,hS,hC,hP⟩ hKd
  rw [hxs,List.take_length] at hS
  obtain ⟨Av,cv,rfl⟩:=bg hS.ow
  rw [hK] at hS
  have hDl:Dd<W.heap.size:=(Array.getElem?_eq_some_iff.1 hKd).1
  obtain ⟨e0,e1,e2,e3,e4,e5⟩:=hS.j.cells
  have ex:=hS.xj.cell 0
  have el:=hS.xl.cell 0
  simp only [List.getElem?_toArray,List.getElem?_cons_zero] at ex el
  rw [HBB.out] at ex el
  have HS:=aa hS
  have HC:=aa hC
  have HKD:=aa hKd
  have HDD:=aa hD
  have hu1:IntKind.u64.wrap (K:Int)=(K:Int):=by rw [bs];omega
  clear hS hC hP hKd hD
  go_wp2
  go_quiet (fail)
  obtain ⟨W6,hW6⟩:∃u,W.drewN nq=u:=⟨_,rfl⟩
  have hb6:Below W.heap.size W W6:=hW6 ▸ dS (Below.refl _ _) nq
  have HS6:=aa (HS.out.below hb6)
  have HC6:=aa (HC.out.trans (Chg.of_below (S:=fun q=>q=jb) hb6) (fun _ e _=>e))
  have HK6:=aa (show W6.heap[Dd]?=some (.deferred (some [])) from (hb6.block _ hDl).trans HKD.out)
  rw [hW6]
  have el6:=HS6.out.xl.cell 0
  simp only [List.getElem?_toArray,List.getElem?_cons_zero] at el6
  rw [HBB.out] at el6
  clear hW6 hb6 e0 e1 e2 e3 e4 e5 ex el
  go_wp2
  rw [Exit.noGoto_ret]
  refine ⟨by simp, .inl ⟨_,_,rfl,run_takeDeferred HK6.out,?_⟩⟩
  refine ⟨.tuple #[.slice Av K cv, .int .i64 0],by simp [results,Tryz.f142,go_sem],Av,cv,vs,rfl,?_⟩
  have hgp:=grownBy_putObj' W6 Dd (.deferred none)
  have hst:=HS6.out.turn hLm hgp (fun r e=>by cases e;exact ⟨HDD.out,_,HK6.out,rfl⟩)
  have how:=hst.ow
  rw [hK] at how
  refine ⟨hst.j,az how (by omega),hst.rw,⟨HC6.out.os,HC6.out.tape,HC6.out.output,Nat.le_trans HC6.out.size hgp.size,fun k hk hn=>(World.putObj_heap_other (by have:=HDD.out;have:=HBB.out;have:=HBB0.out;omega)).trans (HC6.out.block k hk hn)⟩⟩

theorem zY {w:World} {L:Lay} {D:Dk} {jb t g K:Nat} (h:JBox w L D jb t g K 0) (hc:D.calm) (hw:D.waits=[]) (h6:6<=D.c) (rs:List (List UInt8)) (hK:rs.length=K) (hK2:K<=2047) (hg:g<=100000) (hrl:∀r∈rs,r.length<=2048)
  (hsec:secs D.kept (bw D.c g) (usedN g D.n 1 rs)=framesB g D.n 1 rs) (hfit:usedN g D.n 1 rs<=aI D.c) :
  Calls Tryz.prog 142 #[.pointer (some ⟨jb,0,none⟩)] w fun e w'=>∃A c vs,e = .returned (.tuple #[.slice A K c, .int .i64 0])/\JBox w' L D jb t g K (usedN g D.n 1 rs)/\w'.ownsRow w.heap.size 50 1 (.slice A K c) K vs/\RowsOf w' rs vs/\Chg (fun q=>q=jb) w w' :=
 (callsIn_wide (n:=6)).1 (Ch h hc hw h6 rs hK hK2 hg hrl hsec hfit)
open Go.RowKit

structure JAt (w:World) (L:Lay) (D:Dk) (jb:Nat) (S:JS):Prop where
 b:JBox w L D jb (2 * S.m) S.gen S.recs.length (S.used D.n)
 f:Fits13 D S
theorem JAt.below {w w':World} {L:Lay} {D:Dk} {jb:Nat} {S:JS} (h:JAt w L D jb S) (hb:Below w.heap.size w w'):JAt w' L D jb S:=⟨h.b.below hb,h.f⟩

def xK (w:World) (L:Lay) (D:Dk) (S:JS) (e:Ending) (w':World):Prop :=
 ∃jb A c vs,e = .returned (.tuple #[.pointer (some ⟨jb,0,none⟩), .slice A S.recs.length c, .int .i64 0])/\w.heap.size<=jb/\JAt w' L D jb S/\w'.ownsRow w.heap.size 50 1 (.slice A S.recs.length c) S.recs.length vs/\RowsOf w' S.recs vs/\Below w.heap.size w w'

theorem zZ {w:World} {L:Lay} {D:Dk} {S:JS} (h:DiskAt w L D) (f:Fits13 D S):Calls Tryz.prog 141 #[.pointer (some ⟨L.b,0,none⟩)] w fun e w'=>e = .returned (.tuple #[.agg #[.int .u64 ((2 * S.m:Nat):Int), .int .u64 (S.gen:Int), .int .u64 (S.recs.length:Int)], .int .i64 0])/\Below w.heap.size w w':=by
 have hc2:=h.ok.c2
 have hm:=f.many (by have:=h.ok.n1;omega) hc2
 have hs:=f.small
 have h6:=f.c6
 rcases f.seals with ⟨e1,e2,e3,e4,e5⟩ | ⟨e1,e2,e3⟩
 ·have:=nB h f.calm f.w (by omega) e4 e5
  rw [e1,e2,e3]
  exact this
 ·exact kY h f.calm f.w (by omega) S.m S.gen S.recs.length e1 hs.1 (by omega) (by omega) e2 e3

theorem si {w:World} {L:Lay} {D:Dk} {S:JS} (h:DiskAt w L D) (f:Fits13 D S):Calls Tryz.prog 69 #[.pointer (some ⟨L.b,0,none⟩)] w (xK w L D S):=by
 have hc2:=h.ok.c2
 have hm:=f.many (by have:=h.ok.n1;omega) hc2
 have hs:=f.small
 have h6:=f.c6
 have HCT:=aa (j5 h)
 have HON:=aa (show Calls Tryz.prog 140 #[.pointer (some ⟨L.b,0,none⟩)] w fun e w'=>e = .returned (.bool true)/\w=w' from by have:=rt h;rwa [f.calm.1] at this)
 have HLS:=aa (zZ h f)
 obtain ⟨t,ht⟩:∃t,2 * S.m=t:=⟨_,rfl⟩
 obtain ⟨g,hg⟩:∃g,S.gen=g:=⟨_,rfl⟩
 obtain ⟨k,hk⟩:∃k,S.recs.length=k:=⟨_,rfl⟩
 rw [ht,hg,hk] at HLS
 have HT:=aa ht
 have HG:=aa hg
 have HK:=aa hk
 have H:=aa h
 have HF:=aa f
 obtain ⟨c,hc⟩:∃c,D.c=c:=⟨_,rfl⟩
 rw [hc] at HCT h6
 have hno:¬c<6:=by omega
 obtain ⟨bc,hbc⟩:∃b,L.b=b:=⟨_,rfl⟩
 rw [hbc] at HCT HON HLS ⊢
 have HBC:=aa hbc
 clear h f hc2 hs ht hg hk hc hbc
 go_enter Tryz.func69,Tryz.ntmps69
 go_upto_region 6 with (first|(go_at_call 80;refine HCT.out.mono ?_;rintro _ _ ⟨rfl,rfl⟩)|(go_at_call 140;refine HON.out.mono ?_;rintro _ _ ⟨rfl,rfl⟩)|(go_at_call 141;refine HLS.out.mono ?_;rintro _ w1 ⟨rfl,hb1⟩))
 obtain ⟨W2,hW2⟩:∃W,w1.alloc (.cells #[.int .u64 (t:Int), .int .u64 (g:Int), .int .u64 (k:Int)] 218)=W:=⟨_,rfl⟩
 obtain ⟨g5,hg5⟩:∃g,w1.heap.size=g:=⟨_,rfl⟩
 have hb2:Below w1.heap.size w1 W2:=hW2 ▸ (Below.refl _ _).alloc (Nat.le_refl _) _
 have HX:=aa (show BoxAt W2 g5 #[.int .u64 (t:Int), .int .u64 (g:Int), .int .u64 (k:Int)] 218 from hg5 ▸ hW2 ▸ BoxAt.new w1 _ _)
 have HB2:=aa (show Below w.heap.size w W2 from hb1.trans (hb2.mono hb1.size))
 rw [hW2,hg5]
 have cx:=HX.out.cell
 clear hW2 hg5 hb1 hb2 HCT HON HLS
 go_upto_region 9 with fail
 obtain ⟨W3,hW3⟩:∃W,W2.alloc (.cells #[.pointer (some ⟨bc,0,none⟩), .int .u64 (t:Int), .int .u64 (g:Int), .int .u64 (k:Int), .int .i64 0, .bool false] 222)=W:=⟨_,rfl⟩
 obtain ⟨jb,hjb⟩:∃g,W2.heap.size=g:=⟨_,rfl⟩
 have hb3:Below W2.heap.size W2 W3:=hW3 ▸ (Below.refl _ _).alloc (Nat.le_refl _) _
 have HB3:=aa (HB2.out.trans (hb3.mono HB2.out.size))
 have hwj:w.heap.size<=jb:=by rw [<- hjb];exact HB2.out.size
 have hJ:JBox W3 L D jb t g k 0:=⟨H.out.below HB3.out,by
  rw [jcs,HBC.out]
  exact hjb ▸ hW3 ▸ BoxAt.new W2 _ _,fun e=>by have:=H.out.lt e;omega⟩
 have har:=HF.out.area
 have hfi:=HF.out.fit
 unfold JS.used at har hfi
 have HSC:=aa (zY hJ HF.out.calm HF.out.w HF.out.c6 S.recs HK.out (by rw [<- HK.out];exact hm) (by rw [<- HG.out];have:=HF.out.small;omega) HF.out.recs (by rw [<- HG.out];exact har) (by rw [<- HG.out];exact hfi))
 rw [hW3,hjb]
 clear hW3 hjb hb3 hJ har hfi cx
 go_wp2_with (go_at_call 142;refine HSC.out.mono ?_;rintro _ w4 ⟨A,c4,vs,rfl,hj4,how4,hrw4,hc4⟩;(have HJ4:=aa hj4);(have HO4:=aa how4);(have HR4:=aa hrw4);(have HC4:=aa hc4);clear hj4 how4 hrw4 hc4)
 refine bodyPost_ret (v := .tuple #[.pointer (some ⟨jb,0,none⟩), .slice A k c4, .int .i64 0]) (by simp [results,Tryz.results69,go_sem]) rfl ?_
 unfold xK
 rw [HK.out]
 refine ⟨jb,A,c4,vs,rfl,hwj,⟨?_,HF.out⟩,az HO4.out HB3.out.size,HR4.out,HB3.out.trans (HC4.out.below HB3.out.size (fun q e=>by rw [e];exact hwj))⟩
 rw [HT.out,HG.out,HK.out]
 have:=HJ4.out
 rw [<- HG.out] at this
 rwa [<- HG.out]

def JDoes (w:World) (L:Lay) (D':Dk) (jb t g k u:Nat) (w':World):Prop :=
 ∃L',L'.b=L.b/\JBox w' L' D' jb t g k u/\Chg (fun q=>L.has q∨q=jb) w w'/\∀q,L'.has q->L.has q∨w.heap.size<=q
section
variable {w w' : World} {L : Lay} {D D' : Dk} {jb t g k u : Nat}
theorem JBox.lt (h:JBox w L D jb t g k u):jb<w.heap.size:=h.x.lt
theorem JBox.did (h:JBox w L D jb t g k u) (hd:Does L w w' D'):∃L',L'.b=L.b/\JBox w' L' D' jb t g k u/\Chg L.has w w'/\∀q,L'.has q->L.has q∨w.heap.size<=q:=by
 obtain ⟨L',eb,hd',hc,hs⟩:=hd
 refine ⟨L',eb,⟨hd',?_,fun e => ?_⟩,hc,hs⟩
 ·rw [eb]
  exact (hc.block _ h.x.lt h.h).trans h.x
 ·rcases hs _ e with e|e
  ·exact h.h e
  ·have:=h.lt
   omega
theorem JDoes.trans {w1 w2:World} {L1:Lay} {D2:Dk} {t2 g2 k2 u2:Nat} (hL:L1.b=L.b) (hc:Chg (fun q=>L.has q∨q=jb) w w1) (hs:∀q,L1.has q->L.has q∨w.heap.size<=q) (h2:JDoes w1 L1 D2 jb t2 g2 k2 u2 w2):JDoes w L D2 jb t2 g2 k2 u2 w2:=by
 obtain ⟨L2,eb,hb,hc2,hs2⟩:=h2
 refine ⟨L2,eb.trans hL,hb,hc.trans hc2 (fun q e hq => ?_),fun q e => ?_⟩
 ·rcases e with e|e
  ·rcases hs q e with e|e
   ·exact .inl e
   ·omega
  ·exact .inr e
 ·rcases hs2 q e with e|e
  ·exact hs q e
  ·exact .inr (Nat.le_trans hc.size e)

theorem kC (h:JBox w L D jb t g k u) (hc:D.calm) (hw:D.waits=[]) (a q z b cap:Nat) (A:Option Addr) (F:List UInt8) (hA:0<q->A=some ⟨b,0,none⟩/\RowIs w b F/\¬L.has b) (hF:F.length=z) (hz:q * D.n=z) (haq:a+q<=D.c) (hcap:z<=cap) :
  Calls Tryz.prog 222 #[.pointer (some ⟨jb,0,none⟩), .int .i64 (a:Int), .slice A z cap] w fun e w'=>e = .returned (.int .i64 0)/\JDoes w L (bO D a F) jb t g k u w':=by
 obtain ⟨c0,_⟩:=h.cells
 have HW:=aa (qP h.d hc hw a q z b cap A F hA hF hz haq hcap)
 have H:=aa h
 clear h hc hw hA hF hz haq hcap
 go_enter Tryz.func222,Tryz.ntmps222
 go_wp2_with (go_at_call 281;refine HW.out.mono ?_;rintro _ w1 ⟨rfl,hd1⟩;(obtain ⟨L1,eb1,hj1,hc1,hs1⟩:=H.out.did hd1);(obtain ⟨_,_,_,_,_,c5⟩:=hj1.cells);(have f5:=hj1.x.free9 5);(have HJ1:=aa hj1);(have HC1:=aa hc1);(have HS1:=aa hs1);clear hj1 hc1 hs1 hd1)
 go_ret
 refine ⟨rfl,L1,eb1,⟨?_,?_,HJ1.out.h⟩,?_,HS1.out⟩
 ·exact HJ1.out.d.stay fun q hq=>(aE w1 jb 5 (.bool false)).block q (HJ1.out.d.lt hq) (fun e=>HJ1.out.h (by cases e;exact hq))
 ·have:=HJ1.out.x.set9 5 (.bool false)
  simpa [jcs] using this
 ·exact (HC1.out.mono (fun q e=>Or.inl e)).trans (Chg.of_grown (S:=fun q=>L.has q∨q=jb) (aE w1 jb 5 (.bool false)) (.inl (.inr rfl))) (fun _ e _=>e)

theorem JBox.seal (h:JBox w L D jb t g k u) (t' g' k' u':Nat):JBox ((((w.setCell ⟨jb,1,none⟩ (.int .u64 (t':Int))).setCell ⟨jb,2,none⟩ (.int .u64 (g':Int))).setCell ⟨jb,3,none⟩ (.int .u64 (k':Int))).setCell ⟨jb,4,none⟩ (.int .i64 (u':Int))) L D jb t' g' k' u' /\
  w.grownBy ((((w.setCell ⟨jb,1,none⟩ (.int .u64 (t':Int))).setCell ⟨jb,2,none⟩ (.int .u64 (g':Int))).setCell ⟨jb,3,none⟩ (.int .u64 (k':Int))).setCell ⟨jb,4,none⟩ (.int .i64 (u':Int))) (some jb):=by
 have hg:w.grownBy ((((w.setCell ⟨jb,1,none⟩ (.int .u64 (t':Int))).setCell ⟨jb,2,none⟩ (.int .u64 (g':Int))).setCell ⟨jb,3,none⟩ (.int .u64 (k':Int))).setCell ⟨jb,4,none⟩ (.int .i64 (u':Int))) (some jb) :=
  aV (aV (aV (aV (World.grownBy.refl w _) 1 _) 2 _) 3 _) 4 _
 refine ⟨⟨h.d.stay fun q hq=>hg.block q (h.d.lt hq) (fun e=>h.h (by cases e;exact hq)),?_,h.h⟩,hg⟩
 have:=(((h.x.set9 1 (.int .u64 (t':Int))).set9 2 (.int .u64 (g':Int))).set9 3 (.int .u64 (k':Int))).set9 4 (.int .i64 (u':Int))
 simpa [jcs] using this
end

structure KeepI (w:World) (L:Lay) (jb t g k u g' k':Nat) (Lx:Lay) (Dx:Dk) (tx:Nat) (wr:World):Prop where
 b:Lx.b=L.b
 j:JBox wr Lx Dx jb t g k u
 x:BoxAt wr w.heap.size #[.int .u64 (tx:Int), .int .u64 (g':Int), .int .u64 (k':Int)] 218
 c:Chg (fun q=>L.has q∨q=jb) w wr
 hs:∀q,Lx.has q->L.has q∨w.heap.size<q
 lt:∀q,L.has q->q<w.heap.size
 jl:jb<w.heap.size
section
variable {w wr w' : World} {L Lx : Lay} {D Dx D' : Dk} {jb t g k u g' k' tx : Nat}
theorem KeepI.below (h:KeepI w L jb t g k u g' k' Lx Dx tx wr) (hb:Below wr.heap.size wr w'):KeepI w L jb t g k u g' k' Lx Dx tx w' :=
 ⟨h.b,h.j.below hb,h.x.below hb,h.c.trans (Chg.of_below (S:=fun q=>L.has q∨q=jb) hb) (fun _ e _=>e),h.hs,h.lt,h.jl⟩
theorem KeepI.not (h:KeepI w L jb t g k u g' k' Lx Dx tx wr):¬Lx.has w.heap.size:=fun e=>by
 rcases h.hs _ e with e|e
 ·have:=h.lt _ e
  omega
 ·omega
theorem KeepI.wrote (h:KeepI w L jb t g k u g' k' Lx Dx tx wr) (hd:JDoes wr Lx D' jb t g k u w'):∃L2,KeepI w L jb t g k u g' k' L2 D' tx w':=by
 obtain ⟨L2,eb,hj,hc,hs⟩:=hd
 have hx:=h.x.lt
 refine ⟨L2,eb.trans h.b,hj,(hc.block _ hx (fun e => ?_)).trans h.x,h.c.trans hc (fun q e hq => ?_),fun q e => ?_,h.lt,h.jl⟩
 ·rcases e with e|e
  ·exact h.not e
  ·have:=h.jl
   omega
 ·rcases e with e|e
  ·rcases h.hs q e with e|e
   ·exact .inl e
   ·omega
  ·exact .inr e
 ·rcases hs q e with e|e
  ·exact h.hs q e
  ·exact .inr (by omega)
theorem KeepI.bump (h:KeepI w L jb t g k u g' k' Lx Dx tx wr) (ty:Nat):KeepI w L jb t g k u g' k' Lx Dx ty (wr.setCell ⟨w.heap.size,0,none⟩ (.int .u64 (ty:Int))):=by
 have hg:=aE wr w.heap.size 0 (.int .u64 (ty:Int))
 have hne:∀q,q≠w.heap.size->q<wr.heap.size->(wr.setCell ⟨w.heap.size,0,none⟩ (.int .u64 (ty:Int))).heap[q]?=wr.heap[q]?:=fun q hq hl=>hg.block q hl (fun e=>hq (by cases e;rfl))
 have hjl:=h.jl
 refine ⟨h.b,⟨h.j.d.stay fun q hq=>hne q (fun e=>h.not (e ▸ hq)) (h.j.d.lt hq),(hne jb (by omega) h.j.x.lt).trans h.j.x,h.j.h⟩,?_,⟨hg.os.trans h.c.os,hg.tape.trans h.c.tape,hg.output.trans h.c.output,Nat.le_trans h.c.size hg.size,fun q hq hn=>(hne q (by omega) (Nat.lt_of_lt_of_le hq h.c.size)).trans (h.c.block q hq hn)⟩,h.hs,h.lt,h.jl⟩
 have:=h.x.set9 0 (.int .u64 (ty:Int))
 simpa using this
theorem KeepI.four {g5 bc:Nat} (h:KeepI w L jb t g k u g' k' Lx Dx tx wr) (hg:w.heap.size=g5) (hb:L.b=bc):wr.cell? ⟨g5,0,none⟩=some (.int .u64 (tx:Int))/\wr.cell? ⟨g5,1,none⟩=some (.int .u64 (g':Int))/\wr.cell? ⟨g5,2,none⟩=some (.int .u64 (k':Int))/\wr.cell? ⟨jb,0,none⟩=some (.pointer (some ⟨bc,0,none⟩)):=by
 have h2:=h.x.cell
 rw [hg] at h2
 have h3:=h.j.cells.1
 rw [h.b,hb] at h3
 exact ⟨h2 0,h2 1,h2 2,h3⟩
end

theorem qR (a b:Nat) (ha:a<=2047) (hb:b<=2047):IntKind.i64.wrap ((a:Int)+b)=(a:Int)+b:=by rw [IntKind.wrap_i64];omega

def nF (D:Dk) (m g' k' a:Nat) (F:List UInt8):Dk:=bO (bO (bO D a F) 1 (frameB (bF (2 * m+1) g' k') D.n)) 0 (frameB (bF (2 * m+2) g' k') D.n)

theorem sj {w:World} {L:Lay} {D:Dk} {jb t g k u:Nat} (h:JBox w L D jb t g k u) (hc:D.calm) (hw:D.waits=[]) (h6:6<=D.c) (m g' k' u0 q z b cap:Nat) (A:Option Addr) (F:List UInt8) (hm:m<=1000) (hg':g'<=100000) (hk':k'<=100000)
  (hA:0<q->A=some ⟨b,0,none⟩/\RowIs w b F/\¬L.has b) (hF:F.length=z) (hz:q * D.n=z) (hfit:u0+q<=aI D.c) (hcap:z<=cap) (hb9:0<q->b<w.heap.size) :
  Calls Tryz.prog 156 #[.pointer (some ⟨jb,0,none⟩), .agg #[.int .u64 ((2 * m:Nat):Int), .int .u64 (g':Int), .int .u64 (k':Int)], .int .i64 (u0:Int), .slice A z cap] w fun e w'=>e = .returned (.int .i64 0)/\JDoes w L (nF D m g' k' (bw D.c g'+u0) F) jb (2 * m+2) g' k' (u0+q) w':=by
 have hn1:=h.d.ok.n1
 have hn2:=h.d.ok.n2
 have hcc:=h.d.ok.c2
 have har:aI D.c<=2047:=by unfold aI;omega
 have hfe:=o0 (c:=D.c) (g:=g')
 have hfr:bw D.c g'<=2049:=by
  unfold bw
  have:g' % 2<2:=Nat.mod_lt _ (by omega)
  have h2:g' % 2 * aI D.c<=1 * 2047:=Nat.mul_le_mul (by omega) har
  omega
 obtain ⟨W0,hW0⟩:∃W,w.alloc (.cells #[.int .u64 ((2 * m:Nat):Int), .int .u64 (g':Int), .int .u64 (k':Int)] 218)=W:=⟨_,rfl⟩
 have hb0:Below w.heap.size w W0:=hW0 ▸ (Below.refl _ _).alloc (Nat.le_refl _) _
 have HI0:=aa (show KeepI w L jb t g k u g' k' L D (2 * m) W0 from ⟨rfl,h.below hb0,hW0 ▸ BoxAt.new w _ _,Chg.of_below hb0,fun _ e => .inl e,fun _ e=>h.d.lt e,h.x.lt⟩)
 have HFR:=aa (o3 (h.below hb0) h6 g' hg')
 have HWR:=aa (kC (h.below hb0) hc hw (bw D.c g'+u0) q z b cap A F (fun h0=>⟨(hA h0).1,(hA h0).2.1.stay12 (hb0.block _ (hb9 h0)),(hA h0).2.2⟩) hF hz (by omega) hcap)
 have one:∀x,x<=3000->(frameB (bF x g' k') D.n).length=D.n:=fun x hx=>by
  have:=hO (t:=x) (g:=g') (k:=k') (by omega) (by omega) (by omega)
  rw [ct (by omega),nw (by omega) (by omega),Nat.one_mul]
 have HPS:=aa (show ∀(x:Nat) (v:World),x<=3000->Calls Tryz.prog 224 #[.agg #[.int .u64 (x:Int), .int .u64 (g':Int), .int .u64 (k':Int)], .int .i64 (D.n:Int)] v fun e w'=>∃b c,e = .returned (.slice (some ⟨b,0,none⟩) D.n c)/\D.n<=c/\v.heap.size<=b/\RowIs w' b (frameB (bF x g' k') D.n)/\Below v.heap.size v w' from fun x v hx=>by
  refine (qM x g' k' D.n v (by omega) (by omega) (by omega) hn1 hn2).mono ?_
  rintro e w' ⟨A1,c1,rfl,hown,hb⟩
  rw [one x hx] at hown ⊢
  obtain ⟨b1,rfl,hb1,hc1,hr⟩:=jK hown (one x hx) (by omega)
  exact ⟨b1,c1,rfl,hc1,hb1,hr,hb⟩)
 have HON:=aa one
 have HSE:=aa (show ∀(v:World) (Lx:Lay) (Dx:Dk),JBox v Lx Dx jb t g k u->Dx.n=D.n->Calls Tryz.prog 154 #[.pointer (some ⟨jb,0,none⟩), .slice A z cap] v fun e w'=>e = .returned (.int .i64 (q:Int))/\v=w' from fun v Lx Dx hx hn=>by
  have hz9:z<=2000000000:=by
   have:=Nat.mul_le_mul (show q<=2047 by omega) hn2
   omega
  have:=eV hx z A cap hz9
  rwa [hn,<- hz,Nat.mul_div_cancel _ (by omega),hz] at this)
 have HOK:=aa h.d.ok
 obtain ⟨fr,hfr2⟩:∃f,bw D.c g'=f:=⟨_,rfl⟩
 rw [hfr2] at HFR HWR hfr ⊢
 obtain ⟨t0,ht0⟩:∃x,2 * m=x:=⟨_,rfl⟩
 have ht9:t0<=2000:=by omega
 have hte:t0 % 2=0:=by omega
 unfold nF
 obtain ⟨D1,hD1⟩:∃d,bO D (fr+u0) F=d:=⟨_,rfl⟩
 have d1n:D1.n=D.n:=by rw [<- hD1];rfl
 have d1c:D1.c=D.c:=by rw [<- hD1];rfl
 have d1w:D1.waits=[]:=by rw [<- hD1];rfl
 have d1k:D1.calm:=by rw [<- hD1];exact dG hc _ _
 rw [hD1] at HWR ⊢
 rw [ht0] at HI0 hW0 ⊢
 obtain ⟨D2,hD2⟩:∃d,bO D1 1 (frameB (bF (t0+1) g' k') D.n)=d:=⟨_,rfl⟩
 have d2n:D2.n=D.n:=by rw [<- hD2];exact d1n
 have d2c:D2.c=D.c:=by rw [<- hD2];exact d1c
 have d2w:D2.waits=[]:=by rw [<- hD2];rfl
 have d2k:D2.calm:=by rw [<- hD2];exact dG d1k _ _
 obtain ⟨D3,hD3⟩:∃d,bO D2 0 (frameB (bF (t0+2) g' k') D.n)=d:=⟨_,rfl⟩
 have d3n:D3.n=D.n:=by rw [<- hD3];exact d2n
 have HD2:=aa hD2
 have HD3:=aa hD3
 rw [hD2,hD3]
 have DN:=aa (And.intro d1n (And.intro d2n d3n))
 have DC:=aa (And.intro d1c d2c)
 have DW:=aa (And.intro d1w d2w)
 have DK:=aa (And.intro d1k d2k)
 obtain ⟨n,hn⟩:∃x,D.n=x:=⟨_,rfl⟩
 rw [hn] at HPS HON HSE DN HD2 HD3 hn1 hn2
 obtain ⟨bc,hbc⟩:∃x,L.b=x:=⟨_,rfl⟩
 have HBC:=aa hbc
 have HW0:=aa hW0
 have HC6:=aa h6
 obtain ⟨g5,hg5⟩:∃x,w.heap.size=x:=⟨_,rfl⟩
 have HG5:=aa hg5
 have x0:=HI0.out.x.cell
 rw [hg5] at x0
 clear hfe h hc hw hA hF hz hb0 one hfr2 ht0 hD1 hD2 hD3 d1n d1c d1w d1k d2n d2c d2w d2k d3n hn hbc hW0 hb9 hg5 h6
 go_enter Tryz.func156,Tryz.ntmps156
 go_upto_region 1 with fail
 rw [HW0.out,HG5.out]
 clear HW0
 go_upto_region 4 with (first|(go_at_call 214;refine HFR.out.mono ?_;rintro _ _ ⟨rfl,rfl⟩)|(go_at_call 222;refine HWR.out.mono ?_;rintro _ w1 ⟨rfl,hd1⟩;(obtain ⟨L1,hi1⟩:=HI0.out.wrote hd1);(have HI1:=aa hi1);clear hd1 hi1))
 clear x0 HI0 HFR HWR
 go_wp2
 go_loopw [23] (fun i wr=>∃(Lx:Lay) (Dx:Dk) (tx:Nat),((i = .int .i64 0/\tx=t0/\Dx=D1)∨(i = .int .i64 1/\tx=t0+1/\Dx=D2)∨(i = .int .i64 2/\tx=t0+2/\Dx=D3))/\Hid (KeepI w L jb t g k u g' k' Lx Dx tx wr)) (fun i _=>2 - (intOf i).toNat)
 case atStart=>exact ⟨L1,D1,t0, .inl ⟨rfl,rfl,rfl⟩,HI1⟩
 case round =>
  obtain ⟨Lx,Dx,tx,hcase,HI⟩:=hrel
  rcases hcase with ⟨rfl,htx,hdx⟩ | ⟨rfl,htx,hdx⟩ | ⟨rfl,htx,hdx⟩
  ·have hxn:Dx.n=n:=by rw [hdx];exact DN.out.1
   have hxw:Dx.waits=[]:=by rw [hdx];exact DW.out.1
   have hxk:Dx.calm:=by rw [hdx];exact DK.out.1
   have hxc:Dx.c=D.c:=by rw [hdx];exact DC.out.1
   have HNX:=aa (show bO Dx 1 (frameB (bF (t0+1) g' k') n)=D2 from by rw [hdx];exact HD2.out)
   obtain ⟨tz,htz⟩:∃x,tx=x:=⟨_,rfl⟩
   rw [htz] at HI htx
   obtain ⟨ty,hty⟩:∃x,tz+1=x:=⟨_,rfl⟩
   have HB:=aa (HI.out.bump ty)
   have x0:=HI.out.x.cell 0
   have f0:=HI.out.x.free9 0
   simp only [List.getElem?_toArray,List.getElem?_cons_zero] at x0
   rw [HG5.out] at x0 f0
   have hadd:IntKind.u64.wrap ((tz:Int)+1)=(ty:Int):=by rw [bs];omega
   have htp:ty % 2=1:=by omega
   have ht3:ty<=3000:=by omega
   have HTY:=aa hty
   have HTZ:=aa htx
   have HTP:=aa htp
   clear hty htz htp htx hdx
   go_upto_region 7 with fail
   obtain ⟨W2,hW2⟩:∃v,wr.setCell ⟨g5,0,none⟩ (.int .u64 (ty:Int))=v:=⟨_,rfl⟩
   rw [HG5.out,hW2] at HB
   rw [hW2]
   obtain ⟨W3,hW3⟩:∃v,W2.drew=v:=⟨_,rfl⟩
   have HB3:=aa (HB.out.below (hW3 ▸ (Below.refl _ _).drew:Below W2.heap.size W2 W3))
   have HPL:=aa (show ∀v:World,Calls Tryz.prog 223 #[.agg #[.int .u64 (ty:Int), .int .u64 (g':Int), .int .u64 (k':Int)]] v fun e w'=>e = .returned (.int .i64 1)/\Below v.heap.size v w' from fun v=>by
    have:=iR ty g' k' v
    rw [HTP.out] at this
    exact this)
   have fx:∀v:World,Below W3.heap.size W3 v->v.cell? ⟨g5,0,none⟩=some (.int .u64 (ty:Int))/\v.cell? ⟨g5,1,none⟩=some (.int .u64 (g':Int))/\v.cell? ⟨g5,2,none⟩=some (.int .u64 (k':Int))/\v.cell? ⟨jb,0,none⟩=some (.pointer (some ⟨bc,0,none⟩)):=fun v hv=>by
    have h1:=HB3.out.below hv
    have h2:=h1.x.cell
    rw [HG5.out] at h2
    have h3:=h1.j.cells.1
    rw [h1.b,HBC.out] at h3
    exact ⟨h2 0,h2 1,h2 2,h3⟩
   have FX:=aa fx
   have HSZ:=aa (show ∀v,Below W3.heap.size W3 v->Calls Tryz.prog 79 #[.pointer (some ⟨bc,0,none⟩)] v fun e w'=>e = .returned (.int .i64 (n:Int))/\v=w' from fun v hv=>by
    have h1:=HB3.out.below hv
    have:=eK h1.j.d
    rwa [h1.b,HBC.out,hxn] at this)
   have s0:=fx _ (Below.refl _ _)
   have s0':=s0
   rw [<- hW3] at s0'
   have hS0:W2.cell? ⟨g5,0,none⟩=some (.int .u64 (ty:Int))/\W2.cell? ⟨g5,1,none⟩=some (.int .u64 (g':Int))/\W2.cell? ⟨g5,2,none⟩=some (.int .u64 (k':Int))/\W2.cell? ⟨jb,0,none⟩=some (.pointer (some ⟨bc,0,none⟩)):=s0'
   clear hadd x0 f0 s0 s0' fx hW2
   go_region_held (fun v=>v.cell? ⟨g5,0,none⟩=some (.int .u64 (ty:Int))/\v.cell? ⟨g5,1,none⟩=some (.int .u64 (g':Int))/\v.cell? ⟨g5,2,none⟩=some (.int .u64 (k':Int))/\v.cell? ⟨jb,0,none⟩=some (.pointer (some ⟨bc,0,none⟩)))
    (first|exact hS0|exact p1|exact p2|exact p3)
    (first|(go_simp;go_at_call 223;refine (HPL.out _).mono ?_;rintro _ v1 ⟨rfl,hv1⟩;(have p1:=FX.out _ hv1);(have HV1:=aa hv1);clear hv1)|(go_simp;go_at_call 79;refine (HSZ.out _ HV1.out).mono ?_;rintro _ _ ⟨rfl,rfl⟩)|(go_simp;go_at_call 224;refine (HPS.out ty v1 ht3).mono ?_;rintro _ v2 ⟨b2,c2,rfl,hc2,hb2,hr2,hv2⟩;(have HV2:=aa (HV1.out.trans (hv2.mono HV1.out.size)));(have p2:=FX.out _ HV2.out);(have HR2:=aa hr2);(have HB2:=aa (Nat.le_trans HV1.out.size hb2));clear hr2 hv2 hb2)|(go_simp;go_at_call 222;refine (kC (HB3.out.below HV2.out).j hxk hxw 1 1 n b2 c2 (some ⟨b2,0,none⟩) (frameB (bF ty g' k') n) (fun _=>⟨rfl,HR2.out,fun e=>absurd (HB3.out.j.d.lt e) (by have:=HB2.out;omega)⟩) (HON.out ty ht3) (by rw [hxn,Nat.one_mul]) (by have:=HC6.out;omega) hc2).mono ?_;rintro _ v3 ⟨rfl,hd3⟩;(obtain ⟨L4,hi4⟩:=(HB3.out.below HV2.out).wrote hd3);(have p3:=KeepI.four hi4 HG5.out HBC.out);(have HI4:=aa hi4);clear hd3 hi4))
   go_wp2
   go_roundw
   case rel=>exact ⟨L4,_,ty, .inr (.inl ⟨rfl,by have:=HTY.out;have:=HTZ.out;omega,by rw [show ty=t0+1 from by have:=HTY.out;have:=HTZ.out;omega];exact HNX.out⟩),HI4⟩
   case measure=>simp [intOf]
  ·have hxn:Dx.n=n:=by rw [hdx];exact DN.out.2.1
   have hxw:Dx.waits=[]:=by rw [hdx];exact DW.out.2
   have hxk:Dx.calm:=by rw [hdx];exact DK.out.2
   have hxc:Dx.c=D.c:=by rw [hdx];exact DC.out.2
   have HNX:=aa (show bO Dx 0 (frameB (bF (t0+2) g' k') n)=D3 from by rw [hdx];exact HD3.out)
   obtain ⟨tz,htz⟩:∃x,tx=x:=⟨_,rfl⟩
   rw [htz] at HI htx
   obtain ⟨ty,hty⟩:∃x,tz+1=x:=⟨_,rfl⟩
   have HB:=aa (HI.out.bump ty)
   have x0:=HI.out.x.cell 0
   have f0:=HI.out.x.free9 0
   simp only [List.getElem?_toArray,List.getElem?_cons_zero] at x0
   rw [HG5.out] at x0 f0
   have hadd:IntKind.u64.wrap ((tz:Int)+1)=(ty:Int):=by rw [bs];omega
   have htp:ty % 2=0:=by omega
   have ht3:ty<=3000:=by omega
   have HTY:=aa hty
   have HTZ:=aa htx
   have HTP:=aa htp
   clear hty htz htp htx hdx
   go_upto_region 7 with fail
   obtain ⟨W2,hW2⟩:∃v,wr.setCell ⟨g5,0,none⟩ (.int .u64 (ty:Int))=v:=⟨_,rfl⟩
   rw [HG5.out,hW2] at HB
   rw [hW2]
   obtain ⟨W3,hW3⟩:∃v,W2.drew=v:=⟨_,rfl⟩
   have HB3:=aa (HB.out.below (hW3 ▸ (Below.refl _ _).drew:Below W2.heap.size W2 W3))
   have HPL:=aa (show ∀v:World,Calls Tryz.prog 223 #[.agg #[.int .u64 (ty:Int), .int .u64 (g':Int), .int .u64 (k':Int)]] v fun e w'=>e = .returned (.int .i64 0)/\Below v.heap.size v w' from fun v=>by
    have:=iR ty g' k' v
    rw [HTP.out] at this
    exact this)
   have fx:∀v:World,Below W3.heap.size W3 v->v.cell? ⟨g5,0,none⟩=some (.int .u64 (ty:Int))/\v.cell? ⟨g5,1,none⟩=some (.int .u64 (g':Int))/\v.cell? ⟨g5,2,none⟩=some (.int .u64 (k':Int))/\v.cell? ⟨jb,0,none⟩=some (.pointer (some ⟨bc,0,none⟩)):=fun v hv=>by
    have h1:=HB3.out.below hv
    have h2:=h1.x.cell
    rw [HG5.out] at h2
    have h3:=h1.j.cells.1
    rw [h1.b,HBC.out] at h3
    exact ⟨h2 0,h2 1,h2 2,h3⟩
   have FX:=aa fx
   have HSZ:=aa (show ∀v,Below W3.heap.size W3 v->Calls Tryz.prog 79 #[.pointer (some ⟨bc,0,none⟩)] v fun e w'=>e = .returned (.int .i64 (n:Int))/\v=w' from fun v hv=>by
    have h1:=HB3.out.below hv
    have:=eK h1.j.d
    rwa [h1.b,HBC.out,hxn] at this)
   have s0:=fx _ (Below.refl _ _)
   have s0':=s0
   rw [<- hW3] at s0'
   have hS0:W2.cell? ⟨g5,0,none⟩=some (.int .u64 (ty:Int))/\W2.cell? ⟨g5,1,none⟩=some (.int .u64 (g':Int))/\W2.cell? ⟨g5,2,none⟩=some (.int .u64 (k':Int))/\W2.cell? ⟨jb,0,none⟩=some (.pointer (some ⟨bc,0,none⟩)):=s0'
   clear hadd x0 f0 s0 s0' fx hW2
   go_region_held (fun v=>v.cell? ⟨g5,0,none⟩=some (.int .u64 (ty:Int))/\v.cell? ⟨g5,1,none⟩=some (.int .u64 (g':Int))/\v.cell? ⟨g5,2,none⟩=some (.int .u64 (k':Int))/\v.cell? ⟨jb,0,none⟩=some (.pointer (some ⟨bc,0,none⟩)))
    (first|exact hS0|exact p1|exact p2|exact p3)
    (first|(go_simp;go_at_call 223;refine (HPL.out _).mono ?_;rintro _ v1 ⟨rfl,hv1⟩;(have p1:=FX.out _ hv1);(have HV1:=aa hv1);clear hv1)|(go_simp;go_at_call 79;refine (HSZ.out _ HV1.out).mono ?_;rintro _ _ ⟨rfl,rfl⟩)|(go_simp;go_at_call 224;refine (HPS.out ty v1 ht3).mono ?_;rintro _ v2 ⟨b2,c2,rfl,hc2,hb2,hr2,hv2⟩;(have HV2:=aa (HV1.out.trans (hv2.mono HV1.out.size)));(have p2:=FX.out _ HV2.out);(have HR2:=aa hr2);(have HB2:=aa (Nat.le_trans HV1.out.size hb2));clear hr2 hv2 hb2)|(go_simp;go_at_call 222;refine (kC (HB3.out.below HV2.out).j hxk hxw 0 1 n b2 c2 (some ⟨b2,0,none⟩) (frameB (bF ty g' k') n) (fun _=>⟨rfl,HR2.out,fun e=>absurd (HB3.out.j.d.lt e) (by have:=HB2.out;omega)⟩) (HON.out ty ht3) (by rw [hxn,Nat.one_mul]) (by have:=HC6.out;omega) hc2).mono ?_;rintro _ v3 ⟨rfl,hd3⟩;(obtain ⟨L4,hi4⟩:=(HB3.out.below HV2.out).wrote hd3);(have p3:=KeepI.four hi4 HG5.out HBC.out);(have HI4:=aa hi4);clear hd3 hi4))
   go_wp2
   go_roundw
   case rel=>exact ⟨L4,_,ty, .inr (.inr ⟨rfl,by have:=HTY.out;have:=HTZ.out;omega,by rw [show ty=t0+2 from by have:=HTY.out;have:=HTZ.out;omega];exact HNX.out⟩),HI4⟩
   case measure=>simp [intOf]
  ·obtain ⟨t2,ht2⟩:∃x,t0+2=x:=⟨_,rfl⟩
   rw [ht2] at htx
   have HT2:=aa ht2
   rw [htx,hdx] at HI
   have HSE1:=aa (show ∀v,Below wr.heap.size wr v->Calls Tryz.prog 154 #[.pointer (some ⟨jb,0,none⟩), .slice A z cap] v fun e w'=>e = .returned (.int .i64 (q:Int))/\w'=v from fun v hv=>(HSE.out v Lx D3 (HI.out.below hv).j DN.out.2.2).mono fun e w' h=>⟨h.1,h.2.symm⟩)
   have x0:=HI.out.x.cell
   rw [HG5.out] at x0
   have hq9:q<=2047:=by omega
   have hu9:u0<=2047:=by omega
   have f9:=HI.out.j.x.free9
   obtain ⟨e0,e1,e2,e3,e4,e5⟩:=HI.out.j.cells
   clear hdx htx ht2
   go_wp2
   obtain ⟨W3,hW3⟩:∃v,wr.drew=v:=⟨_,rfl⟩
   have hb3:Below wr.heap.size wr W3:=hW3 ▸ (Below.refl _ _).drew
   have HI3:=aa (HI.out.below hb3)
   have HQ3:=aa (HSE1.out W3 hb3)
   have x3:=HI3.out.x.cell
   rw [HG5.out] at x3
   have f3:=HI3.out.j.x.free9
   obtain ⟨d0,d1,d2,d3,d4,d5⟩:=HI3.out.j.cells
   have hwr:=qR u0 q hu9 hq9
   have hne5:jb≠g5:=fun e=>by
    have:=HI3.out.jl
    rw [HG5.out] at this
    omega
   have K1:∀(v:World) (o:Nat) (x:Value),(v.cell? ⟨g5,0,none⟩=some (.int .u64 (t2:Int))/\v.cell? ⟨g5,1,none⟩=some (.int .u64 (g':Int))/\v.cell? ⟨g5,2,none⟩=some (.int .u64 (k':Int)))->((v.setCell ⟨jb,o,none⟩ x).cell? ⟨g5,0,none⟩=some (.int .u64 (t2:Int))/\(v.setCell ⟨jb,o,none⟩ x).cell? ⟨g5,1,none⟩=some (.int .u64 (g':Int))/\(v.setCell ⟨jb,o,none⟩ x).cell? ⟨g5,2,none⟩=some (.int .u64 (k':Int))):=fun v o x h=>by
    refine ⟨?_,?_,?_⟩ <;> rw [World.cell?_setCell_far _ _ _ _ (by exact hne5)]
    ·exact h.1
    ·exact h.2.1
    ·exact h.2.2
   have K3:∀(v:World) (o o1 o2:Nat) (x x1 x2:Value),(v.cell? ⟨g5,0,none⟩=some (.int .u64 (t2:Int))/\v.cell? ⟨g5,1,none⟩=some (.int .u64 (g':Int))/\v.cell? ⟨g5,2,none⟩=some (.int .u64 (k':Int)))->((((v.setCell ⟨jb,o,none⟩ x).setCell ⟨jb,o1,none⟩ x1).setCell ⟨jb,o2,none⟩ x2).cell? ⟨g5,0,none⟩=some (.int .u64 (t2:Int))/\(((v.setCell ⟨jb,o,none⟩ x).setCell ⟨jb,o1,none⟩ x1).setCell ⟨jb,o2,none⟩ x2).cell? ⟨g5,1,none⟩=some (.int .u64 (g':Int))/\(((v.setCell ⟨jb,o,none⟩ x).setCell ⟨jb,o1,none⟩ x1).setCell ⟨jb,o2,none⟩ x2).cell? ⟨g5,2,none⟩=some (.int .u64 (k':Int))):=fun v o o1 o2 x x1 x2 h=>K1 _ _ _ (K1 _ _ _ (K1 _ _ _ h))
   clear HSE1 HSE hb3
   go_region_held (fun v=>v.cell? ⟨g5,0,none⟩=some (.int .u64 (t2:Int))/\v.cell? ⟨g5,1,none⟩=some (.int .u64 (g':Int))/\v.cell? ⟨g5,2,none⟩=some (.int .u64 (k':Int)))
    (first|exact ⟨x3 0,x3 1,x3 2⟩|exact K3 _ _ _ _ _ _ _ (by first|assumption|exact ⟨by assumption,by assumption,by assumption⟩)|exact K1 _ _ _ (by first|assumption|exact ⟨by assumption,by assumption,by assumption⟩)|go_keep)
    ((go_simp;go_at_call 154;refine HQ3.out.mono ?_;rintro _ _ ⟨rfl,rfl⟩))
   go_wp2
   go_ret
   have hs:=HI3.out.j.seal t2 g' k' (u0+q)
   simp only [Int.natCast_add] at hs
   rw [HT2.out]
   exact ⟨rfl,Lx,HI3.out.b,hs.1,HI3.out.c.trans (Chg.of_grown (S:=fun q=>L.has q∨q=jb) hs.2 (.inl (.inr rfl))) (fun _ e _=>e),fun q hq=>(HI3.out.hs q hq).imp_right Nat.le_of_lt⟩

section
variable {w w' : World} {L : Lay} {D D' : Dk} {jb t g k u : Nat}
theorem pe (h:JBox w L D jb t g k u) (hg:g<=100000) (hk:k<=100000) (r:List UInt8) (A:Option Addr) (m c:Nat) (hr:r.length=m) (hm:m<=2048) (hs:Sees w w.heap.size A (bv r)) :
  Calls Tryz.prog 153 #[.pointer (some ⟨jb,0,none⟩), .slice A m c] w fun e w'=>∃b c1,e = .returned (.slice (some ⟨b,0,none⟩) (recN g D.n (k+1) r * D.n) c1)/\recN g D.n (k+1) r * D.n<=c1/\w.heap.size<=b/\RowIs w' b (frameB (jrecB g (k+1) r) D.n)/\Below w.heap.size w w':=by
 obtain ⟨c0,_,c2,c3,_,_⟩:=h.cells
 have hn1:=h.d.ok.n1
 have hn2:=h.d.ok.n2
 have f9:=h.x.free9
 have e1:(frameB (jrecB g (k+1) r) D.n).length=recN g D.n (k+1) r * D.n:=ct (by omega)
 have e2:0<recN g D.n (k+1) r * D.n:=Nat.mul_pos (nx (by omega) r) (by omega)
 obtain ⟨z,hz⟩:∃z,recN g D.n (k+1) r * D.n=z:=⟨_,rfl⟩
 have HP:=aa (show ∀v,Below w.heap.size w v->Calls Tryz.prog 158 #[.int .u64 (g:Int), .int .u64 ((k+1:Nat):Int), .slice A m c, .int .i64 (D.n:Int)] v fun e w'=>∃b c1,e = .returned (.slice (some ⟨b,0,none⟩) z c1)/\z<=c1/\w.heap.size<=b/\RowIs w' b (frameB (jrecB g (k+1) r) D.n)/\Below w.heap.size w w' from fun v hv=>by
  refine (ia g (k+1) r w.heap.size A m c D.n v (by omega) (by omega) hr (by omega) hn1 hn2 (hs.below hv) hv.size).mono ?_
  rintro e w' ⟨A1,c1,rfl,hown,hb⟩
  rw [e1,hz] at hown
  obtain ⟨b1,rfl,hb1,hc1,hr1⟩:=jK hown (e1.trans hz) (by omega)
  rw [e1,hz]
  exact ⟨b1,c1,rfl,hc1,Nat.le_trans hv.size hb1,hr1,hv.trans (hb.mono hv.size)⟩)
 have HZ:=aa (show ∀v,Below w.heap.size w v->Calls Tryz.prog 79 #[.pointer (some ⟨L.b,0,none⟩)] v fun e w'=>e = .returned (.int .i64 (D.n:Int))/\v=w' from fun v hv=>eK (h.below hv).d)
 rw [hz]
 obtain ⟨k1,hk1⟩:∃x,k+1=x:=⟨_,rfl⟩
 have hw1:IntKind.u64.wrap ((k:Int)+1)=(k1:Int):=by rw [bs];omega
 have HX:=aa (show ∀v,Below w.heap.size w v->v.cell? ⟨jb,0,none⟩=some (.pointer (some ⟨L.b,0,none⟩))/\v.cell? ⟨jb,2,none⟩=some (.int .u64 (g:Int))/\v.cell? ⟨jb,3,none⟩=some (.int .u64 (k:Int)) from fun v hv=>by
  obtain ⟨c0,_,c2,c3,_,_⟩:=(h.below hv).cells
  exact ⟨c0,c2,c3⟩)
 rw [hk1] at HP ⊢
 obtain ⟨lb,hlb⟩:∃x,L.b=x:=⟨_,rfl⟩
 obtain ⟨n,hn⟩:∃x,D.n=x:=⟨_,rfl⟩
 rw [hlb] at HX HZ c0
 rw [hn] at HP HZ ⊢
 clear h hr hs e1 e2 hz hk1 hlb hn hn1 hn2
 go_enter Tryz.func153,Tryz.ntmps153
 go_upto_region 1 with fail
 obtain ⟨W3,hW3⟩:∃v,w.drew=v:=⟨_,rfl⟩
 have HV:=aa (hW3 ▸ (Below.refl _ _).drew:Below w.heap.size w W3)
 have s0:=HX.out W3 HV.out
 have s0':w.cell? ⟨jb,0,none⟩=some (.pointer (some ⟨lb,0,none⟩))/\w.cell? ⟨jb,2,none⟩=some (.int .u64 (g:Int))/\w.cell? ⟨jb,3,none⟩=some (.int .u64 (k:Int)):=⟨c0,c2,c3⟩
 clear c0 c2 c3
 go_region_held (fun v=>v.cell? ⟨jb,0,none⟩=some (.pointer (some ⟨lb,0,none⟩))/\v.cell? ⟨jb,2,none⟩=some (.int .u64 (g:Int))/\v.cell? ⟨jb,3,none⟩=some (.int .u64 (k:Int)))
  (first|exact s0'|exact s0|exact p2)
  (first|(go_simp;go_at_call 79;refine (HZ.out _ HV.out).mono ?_;rintro _ _ ⟨rfl,rfl⟩)|(go_simp;go_at_call 158;refine (HP.out _ HV.out).mono ?_;rintro _ v2 ⟨b2,c2,rfl,hc2,hb2,hr2,hv2⟩;(have p2:=HX.out _ hv2);(have HV2:=aa hv2);(have HR2:=aa hr2);(have HC2:=aa hc2);(have HB2:=aa hb2);clear hv2 hr2 hc2 hb2))
 go_wp2
 go_ret
 exact ⟨b2,c2,rfl,HC2.out,HB2.out,HR2.out,HV2.out⟩

def kD (w:World) (L:Lay) (D:Dk) (jb:Nat) (S':JS) (w':World):Prop :=
 ∃D',D'.n=D.n/\D'.c=D.c/\Fits13 D' S'/\JDoes w L D' jb (2 * S'.m) S'.gen S'.recs.length (S'.used D.n) w'

theorem Fits13.append {D:Dk} {S:JS} (h:Fits13 D S) (ho:D.ok) (hm:S.m+1<=1000) {r:List UInt8} (hr:r.length<=2048) (hf:S.used D.n+recN S.gen D.n (S.recs.length+1) r<=aI D.c) :
  Fits13 (nF D S.m S.gen (S.recs.length+1) (bw D.c S.gen+S.used D.n) (frameB (jrecB S.gen (S.recs.length+1) r) D.n)) ⟨S.m+1,S.gen,S.recs++[r]⟩ /\
  (JS.mk (S.m+1) S.gen (S.recs++[r])).used D.n=S.used D.n+recN S.gen D.n (S.recs.length+1) r:=by
 have hn1:=ho.n1
 have eu:(JS.mk (S.m+1) S.gen (S.recs++[r])).used D.n=S.used D.n+recN S.gen D.n (S.recs.length+1) r:=by
  show usedN S.gen D.n 1 (S.recs++[r])=usedN S.gen D.n 1 S.recs+_
  rw [usedN_app,Nat.add_comm 1]
  rfl
 have eF:(frameB (jrecB S.gen (S.recs.length+1) r) D.n).length=recN S.gen D.n (S.recs.length+1) r * D.n:=ct (by omega)
 refine ⟨?_,eu⟩
 have:=h.next ho (S':=⟨S.m+1,S.gen,S.recs++[r]⟩) (F:=frameB (jrecB S.gen (S.recs.length+1) r) D.n) (k:=S.used D.n) rfl ⟨hm,h.small.2⟩ (fun x hx => ?_) eF hf eu ?_
 ·have el:(S.recs++[r]).length=S.recs.length+1:=by simp
  simp only [el] at this
  exact this
 ·rcases List.mem_append.1 hx with hx|hx
  ·exact h.recs x hx
  ·rw [List.mem_singleton.1 hx]
   exact hr
 ·rw [h.area]
  show _=framesB S.gen D.n 1 (S.recs++[r])
  rw [framesB_app,Nat.add_comm 1]
  simp [framesB]

theorem xL {w:World} {L:Lay} {D:Dk} {jb:Nat} {S:JS} (ho:D.ok) (hf:Fits13 D S) (hm:S.m+1<=1000) {r:List UInt8} (hr:r.length<=2048) (hfit:S.used D.n+recN S.gen D.n (S.recs.length+1) r<=aI D.c)
  (h:JDoes w L (nF D S.m S.gen (S.recs.length+1) (bw D.c S.gen+S.used D.n) (frameB (jrecB S.gen (S.recs.length+1) r) D.n)) jb (2 * S.m+2) S.gen (S.recs.length+1) (S.used D.n+recN S.gen D.n (S.recs.length+1) r) w') :
  kD w L D jb ⟨S.m+1,S.gen,S.recs++[r]⟩ w':=by
 obtain ⟨h1,h2⟩:=hf.append ho hm hr hfit
 refine ⟨nF D S.m S.gen (S.recs.length+1) (bw D.c S.gen+S.used D.n) (frameB (jrecB S.gen (S.recs.length+1) r) D.n),rfl,rfl,h1,?_⟩
 rw [h2,show (JS.mk (S.m+1) S.gen (S.recs++[r])).recs.length=S.recs.length+1 from by simp]
 exact h

theorem qS {w:World} {L:Lay} {D:Dk} {jb t g k u:Nat} (h:JBox w L D jb t g k u) (A:Option Addr) (m c:Nat) (hm:2048<m) :
  Calls Tryz.prog 84 #[.pointer (some ⟨jb,0,none⟩), .slice A m c] w fun e w'=>e = .returned (.int .i64 4)/\Below w.heap.size w w':=by
 have HA:=aa (df h)
 have HL:=aa (fW m A c w)
 have e1:decide (2048<m)=true:=by simpa using hm
 rw [e1] at HL
 clear h e1
 go_enter Tryz.func84,Tryz.ntmps84
 go_wp2_with (first|(go_at_call 151;refine HA.out.mono ?_;rintro _ _ ⟨rfl,rfl⟩)|(go_at_call 152;refine HL.out.mono ?_;rintro _ _ ⟨rfl,rfl⟩))
 go_ret
 exact ⟨rfl,Below.refl _ _⟩

theorem kE {w:World} {L:Lay} {D:Dk} {jb t g k u:Nat} (h:JBox w L D jb t g k u) (h6:6<=D.c) (hu:u<=aI D.c) (hg:g<=100000) (hk:k<=100000) (r:List UInt8) (A:Option Addr) (m c:Nat) (hr:r.length=m) (hm:m<=2048) (hs:Sees w w.heap.size A (bv r)) (hfull:aI D.c<u+recN g D.n (k+1) r) :
  Calls Tryz.prog 84 #[.pointer (some ⟨jb,0,none⟩), .slice A m c] w fun e w'=>e = .returned (.int .i64 7)/\Below w.heap.size w w':=by
 have hn1:=h.d.ok.n1
 have hn2:=h.d.ok.n2
 have HA:=aa (df h)
 have HL:=aa (fW m A c w)
 have HN:=aa (pe h hg hk r A m c hr hm hs)
 have e1:decide (2048<m)=false:=by simpa using hm
 have hq:recN g D.n (k+1) r<=2048:=by
  have h1:recN g D.n (k+1) r * D.n<(jrecB g (k+1) r).length+10+D.n:=qJ (by omega)
  have h2:=fv (g:=g) (i:=k+1) (r:=r) (by omega) (by omega) (by omega)
  have h3:recN g D.n (k+1) r * 64<=recN g D.n (k+1) r * D.n:=Nat.mul_le_mul (Nat.le_refl _) hn1
  omega
 rw [e1] at HL
 obtain ⟨q,hqe⟩:∃x,recN g D.n (k+1) r=x:=⟨_,rfl⟩
 rw [hqe] at HN hq hfull
 obtain ⟨z,hz⟩:∃x,q * D.n=x:=⟨_,rfl⟩
 have hz9:z<=2000000:=by
  have:=Nat.mul_le_mul hq hn2
  omega
 have HS:=aa (show ∀v,Below w.heap.size w v->∀b c1,Calls Tryz.prog 154 #[.pointer (some ⟨jb,0,none⟩), .slice b z c1] v fun e w'=>e = .returned (.int .i64 (q:Int))/\v=w' from fun v hv b c1=>by
  have:=eV (h.below hv) z b c1 (by omega)
  rwa [<- hz,Nat.mul_div_cancel _ (by omega),hz] at this)
 have HR:=aa (show ∀v,Below w.heap.size w v->Calls Tryz.prog 155 #[.pointer (some ⟨jb,0,none⟩)] v fun e w'=>e = .returned (.int .i64 ((aI D.c - u:Nat):Int))/\Below w.heap.size w w' from fun v hv=>(nC (h.below hv) h6 hu).mono fun e w' hh=>⟨hh.1,hv.trans (hh.2.mono hv.size)⟩)
 obtain ⟨ro,hro⟩:∃x,aI D.c - u=x:=⟨_,rfl⟩
 have hlt:ro<q:=by omega
 rw [hro] at HR
 rw [hz] at HN
 clear h e1 hqe hz hro hs hr hn1 hn2
 go_enter Tryz.func84,Tryz.ntmps84
 go_wp2_with (first|(go_at_call 151;refine HA.out.mono ?_;rintro _ _ ⟨rfl,rfl⟩)|(go_at_call 152;refine HL.out.mono ?_;rintro _ _ ⟨rfl,rfl⟩)|(go_at_call 153;refine HN.out.mono ?_;rintro _ w1 ⟨b1,c1,rfl,hc1,hb1,hr1,hv1⟩;(have HV1:=aa hv1);clear hc1 hb1 hr1 hv1)|(go_at_call 154;refine (HS.out _ HV1.out _ _).mono ?_;rintro _ _ ⟨rfl,rfl⟩)|(go_at_call 155;refine (HR.out _ HV1.out).mono ?_;rintro _ w2 ⟨rfl,hv2⟩;(have HV2:=aa hv2);clear hv2))
 go_ret
 exact ⟨rfl,HV2.out⟩

theorem kF {w:World} {L:Lay} {D:Dk} {jb u:Nat} {S:JS} (h:JBox w L D jb (2 * S.m) S.gen S.recs.length u) (hf:Fits13 D S) (hu:S.used D.n=u) (hm1:S.m+1<=1000) (r:List UInt8) (A:Option Addr) (m c:Nat) (hr:r.length=m) (hm:m<=2048) (hs:Sees w w.heap.size A (bv r)) (hfit:u+recN S.gen D.n (S.recs.length+1) r<=aI D.c) :
  Calls Tryz.prog 84 #[.pointer (some ⟨jb,0,none⟩), .slice A m c] w fun e w'=>e = .returned (.int .i64 0)/\kD w L D jb ⟨S.m+1,S.gen,S.recs++[r]⟩ w':=by
 have hn1:=h.d.ok.n1
 have hn2:=h.d.ok.n2
 have hcc:=h.d.ok.c2
 have hmany:=hf.many (by omega) hcc
 have hg:S.gen<=100000:=by have:=hf.small;omega
 have har:aI D.c<=2047:=by unfold aI;omega
 have HA:=aa (df h)
 have HL:=aa (fW m A c w)
 have HN:=aa (pe h hg (by omega) r A m c hr hm hs)
 have e1:decide (2048<m)=false:=by simpa using hm
 rw [e1] at HL
 have HT:=aa (fun w'=>xL (w:=w) (w':=w') (L:=L) (jb:=jb) h.d.ok hf hm1 (r:=r) (by omega) (by rw [hu];exact hfit))
 have eF:(frameB (jrecB S.gen (S.recs.length+1) r) D.n).length=recN S.gen D.n (S.recs.length+1) r * D.n:=ct (by omega)
 obtain ⟨F,hF⟩:∃x,frameB (jrecB S.gen (S.recs.length+1) r) D.n=x:=⟨_,rfl⟩
 rw [hF] at HN HT eF
 obtain ⟨q,hqe⟩:∃x,recN S.gen D.n (S.recs.length+1) r=x:=⟨_,rfl⟩
 rw [hqe] at HN HT hfit eF
 obtain ⟨z,hz⟩:∃x,q * D.n=x:=⟨_,rfl⟩
 have hz9:z<=2000000:=by
  have:=Nat.mul_le_mul (show q<=2047 by omega) hn2
  omega
 have HS:=aa (show ∀v,Below w.heap.size w v->∀b c1,Calls Tryz.prog 154 #[.pointer (some ⟨jb,0,none⟩), .slice b z c1] v fun e w'=>e = .returned (.int .i64 (q:Int))/\v=w' from fun v hv b c1=>by
  have:=eV (h.below hv) z b c1 (by omega)
  rwa [<- hz,Nat.mul_div_cancel _ (by omega),hz] at this)
 have HR:=aa (show ∀v,Below w.heap.size w v->Calls Tryz.prog 155 #[.pointer (some ⟨jb,0,none⟩)] v fun e w'=>e = .returned (.int .i64 ((aI D.c - u:Nat):Int))/\Below v.heap.size v w' from fun v hv=>(nC (h.below hv) hf.c6 (by omega)))
 obtain ⟨ro,hro⟩:∃x,aI D.c - u=x:=⟨_,rfl⟩
 have hlt:q<=ro:=by omega
 rw [hro] at HR
 rw [hz] at HN eF
 have HK:=aa (show ∀(v:World) (b c1:Nat),Below w.heap.size w v->w.heap.size<=b->RowIs v b F->z<=c1->Calls Tryz.prog 156 #[.pointer (some ⟨jb,0,none⟩), .agg #[.int .u64 ((2 * S.m:Nat):Int), .int .u64 (S.gen:Int), .int .u64 ((S.recs.length+1:Nat):Int)], .int .i64 (u:Int), .slice (some ⟨b,0,none⟩) z c1] v fun e w'=>e = .returned (.int .i64 0)/\kD w L D jb ⟨S.m+1,S.gen,S.recs++[r]⟩ w' from fun v b c1 hv hb hrw hc1=>by
  refine (sj (h.below hv) hf.calm hf.w hf.c6 S.m S.gen (S.recs.length+1) u q z b c1 (some ⟨b,0,none⟩) F (by omega) hg (by omega) (fun _=>⟨rfl,hrw,fun e=>absurd (h.d.lt e) (by omega)⟩) eF hz hfit hc1 (fun _=>hrw.lt)).mono ?_
  rintro e w' ⟨rfl,hd⟩
  refine ⟨rfl,HT.out w' ?_⟩
  rw [hu]
  exact JDoes.trans rfl (Chg.of_below hv) (fun q e => .inl e) hd)
 have HC:=aa (fun v (hv:Below w.heap.size w v)=>(h.below hv).cells)
 have HFR:=aa (fun v (hv:Below w.heap.size w v)=>(h.below hv).x.free9)
 have HJL:=aa h.x.lt
 obtain ⟨t0,ht0⟩:∃x,2 * S.m=x:=⟨_,rfl⟩
 obtain ⟨k1,hk1⟩:∃x,S.recs.length+1=x:=⟨_,rfl⟩
 have hw1:IntKind.u64.wrap ((S.recs.length:Int)+1)=(k1:Int):=by rw [bs];omega
 rw [ht0,hk1] at HK
 rw [ht0] at HC
 obtain ⟨k,hk⟩:∃x,S.recs.length=x:=⟨_,rfl⟩
 rw [hk] at HC hw1
 clear h e1 hqe hz hro hs hr hn1 hn2 hf HT hF hk1 hk ht0 hfit eF hcc hmany hu
 go_enter Tryz.func84,Tryz.ntmps84
 go_upto_region 9 with (first|(go_at_call 151;refine HA.out.mono ?_;rintro _ _ ⟨rfl,rfl⟩)|(go_at_call 152;refine HL.out.mono ?_;rintro _ _ ⟨rfl,rfl⟩)|(go_at_call 153;refine HN.out.mono ?_;rintro _ w1 ⟨b1,c1,rfl,hc1,hb1,hr1,hv1⟩;(have HV1:=aa hv1);(have HB1:=aa hb1);(have HC1:=aa hc1);(have HR1:=aa hr1);clear hc1 hb1 hr1 hv1)|(go_at_call 154;refine (HS.out _ HV1.out _ _).mono ?_;rintro _ _ ⟨rfl,rfl⟩)|(go_at_call 155;refine (HR.out _ HV1.out).mono ?_;rintro _ w2 ⟨rfl,hv2⟩;(have HR2:=aa (HR1.out.stay12 (hv2.block _ HR1.out.lt)));(have HV2:=aa (HV1.out.trans (hv2.mono HV1.out.size)));clear hv2))
 obtain ⟨c0,c1',c2,c3,c4,_⟩:=HC.out w2 HV2.out
 have f9:=HFR.out w2 HV2.out
 go_upto_region 11 with fail
 obtain ⟨W3,hW3⟩:∃v,w2.alloc (.cells #[.int .u64 (t0:Int), .int .u64 (S.gen:Int), .int .u64 (k1:Int)] 218)=v:=⟨_,rfl⟩
 rw [hW3]
 have hb3:Below w2.heap.size w2 W3:=hW3 ▸ (Below.refl _ _).alloc (Nat.le_refl _) _
 have x3:BoxAt W3 w2.heap.size #[.int .u64 (t0:Int), .int .u64 (S.gen:Int), .int .u64 (k1:Int)] 218:=hW3 ▸ BoxAt.new w2 _ _
 have y0:=x3.cell 0
 have y1:=x3.cell 1
 have y2:=x3.cell 2
 simp only [List.getElem?_toArray,List.getElem?_cons_zero,List.getElem?_cons_succ] at y0 y1 y2
 clear c0 c1' c2 c3 c4 f9 hW3
 have HV3:=aa (HV2.out.trans (hb3.mono HV2.out.size))
 have HR3:=aa (HR2.out.stay12 (hb3.block _ HR2.out.lt))
 obtain ⟨_,_,_,_,c4,_⟩:=HC.out W3 HV3.out
 clear hb3 x3
 obtain ⟨s3,hs3⟩:∃x,w2.heap.size=x:=⟨_,rfl⟩
 rw [hs3] at y0 y1 y2 ⊢
 clear hs3
 refine wp_region_still_tail 7 (by kernel_rfl) (by kernel_rfl) ?_
 simp only [List.take_succ_cons,List.take_zero,List.drop_succ_cons,List.drop_zero]
 repeat still_step
 refine wpStill_nil ?_
 go_wp2_with (go_at_call 156;refine (HK.out _ _ _ HV3.out.drew HB1.out (HR3.out.stay12 rfl) HC1.out).mono ?_;rintro _ w4 ⟨rfl,hj4⟩;(have HJ4:=aa hj4);clear hj4)
 go_ret
 exact ⟨rfl,HJ4.out⟩
end

structure LRecs (w:World) (B:Nat) (A:Option Addr) (b o:Nat) (l:List (List UInt8)):Prop where
 a:0<l.length->A=some ⟨b,o,none⟩/\b<B
 r:∀(i:Nat) (r:List UInt8),l[i]?=some r->∃A1 c1,w.cell? ⟨b,o+i,none⟩=some (.slice A1 r.length c1)/\Sees w B A1 (bv r)
theorem LRecs.below {w w':World} {B b o:Nat} {A:Option Addr} {l:List (List UInt8)} (h:LRecs w B A b o l) (hb:Below B w w'):LRecs w' B A b o l :=
 ⟨h.a,fun i r e=>by
  obtain ⟨A1,c1,h1,h2⟩:=h.r i r e
  have:=(List.getElem?_eq_some_iff.1 e).1
  exact ⟨A1,c1,(hb.cell (p:=⟨b,o+i,none⟩) (h.a (by omega)).2).trans h1,h2.below hb⟩⟩

def dJ (l:List (List UInt8)):Bool:=l.any fun r=>decide (2048<r.length)

theorem tW {l:List (List UInt8)} {i:Nat} {r:List UInt8} (h:l[i]?=some r) (hr:decide (2048<r.length)=false) (hl:dJ (l.take i)=false):dJ (l.take (i+1))=false:=by
 have:=(List.getElem?_eq_some_iff.1 h)
 obtain ⟨h1,rfl⟩:=this
 rw [List.take_succ_eq_append_getElem h1]
 unfold dJ at hl ⊢
 rw [List.any_append,hl]
 simpa using hr

theorem xM (w:World) (B:Nat) (A:Option Addr) (b o n c:Nat) (l:List (List UInt8)) (hn:l.length=n) (hn9:n<=1000000) (h:LRecs w B A b o l) :
  Calls Tryz.prog 225 #[.slice A n c, .func (.func 152) #[] #[]] w fun e w'=>(∃x:Int,e = .returned (.int .i64 x)/\(decide (0<=x))=dJ l)/\w=w':=by
 have HI:=aa fW
 have HL:=aa h
 have HN:=aa hn
 clear h hn
 go_enter Tryz.func225,Tryz.ntmps225
 go_upto_region 1 with fail
 go_wp2
 go_loopw [5,8] (fun s5 s8 wr=>∃i:Nat,i<=n/\s8 = .int .i64 (i:Int)/\wr=w/\Hid (dJ (l.take i)=false)) (fun _ s8 _=>n - (intOf s8).toNat)
 case atStart=>exact ⟨0,Nat.zero_le _,rfl,rfl,aa rfl⟩
 case round =>
  obtain ⟨i,hi,rfl,rfl,HT⟩:=hrel
  by_cases hin:i<n
  ·have hil:i<l.length:=by rw [HN.out];exact hin
   obtain ⟨A1,c1,x1,_⟩:=HL.out.r i l[i] (List.getElem?_eq_getElem hil)
   have hA:=(HL.out.a (by omega)).1
   have hlt:((i:Int)<(n:Int))=True:=by simp;omega
   have hw1:IntKind.i64.wrap ((i:Int)+1)=((i+1:Nat):Int):=by rw [IntKind.wrap_i64];omega
   obtain ⟨r,hr⟩:∃r,l[i]=r:=⟨_,rfl⟩
   have HRR:=aa (show l[i]?=some r from by rw [List.getElem?_eq_getElem hil,hr])
   rw [hr] at x1
   subst hA
   clear hr
   by_cases hlong:2048<r.length
   ·have e1:decide (2048<r.length)=true:=by simpa using hlong
    have e2:dJ l=true:=by
     unfold dJ
     rw [List.any_eq_true]
     exact ⟨r,List.mem_of_getElem? HRR.out,e1⟩
    have HLI:=aa (HI.out r.length A1 c1 wr)
    rw [e1] at HLI
    have E2:=aa e2
    clear e1 e2
    go_wp2_with (go_at_call 152;refine HLI.out.mono ?_;rintro _ _ ⟨rfl,rfl⟩)
    go_ret
    exact ⟨⟨_,rfl,by rw [E2.out];simp⟩,rfl⟩
   ·have e1:decide (2048<r.length)=false:=by simpa using hlong
    have HLI:=aa (HI.out r.length A1 c1 wr)
    rw [e1] at HLI
    have HT2:=aa (tW HRR.out e1 HT.out)
    clear e1
    go_wp2_with (go_at_call 152;refine HLI.out.mono ?_;rintro _ _ ⟨rfl,rfl⟩)
    go_roundw
    case rel=>exact ⟨i+1,hin,by first|rfl|trivial|simp,by first|rfl|trivial,HT2⟩
    case measure=>simp [intOf];omega
  ·have hin2:i=n:=by omega
   subst hin2
   have e2:dJ l=false:=by
    have:=HT.out
    rwa [List.take_of_length_le (by rw [HN.out];exact Nat.le_refl _)] at this
   have E2:=aa e2
   clear e2
   go_wp2
   go_ret
   exact ⟨⟨_,rfl,by rw [E2.out];simp⟩,rfl⟩

theorem jg (w:World) (B:Nat) (A:Option Addr) (b o n c:Nat) (l:List (List UInt8)) (hn:l.length=n) (hn9:n<=1000000) (h:LRecs w B A b o l) :
  Calls Tryz.prog 157 #[.slice A n c, .func (.func 152) #[] #[]] w fun e w'=>e = .returned (.bool (dJ l))/\w=w':=by
 have HI:=aa (xM w B A b o n c l hn hn9 h)
 clear h hn
 go_enter Tryz.func157,Tryz.ntmps157
 go_wp2_with (go_at_call 225;refine HI.out.mono ?_;rintro _ _ ⟨⟨x,rfl,hx⟩,rfl⟩)
 refine bodyPost_ret (v := .bool (dJ l)) (by simp [results,Tryz.results157,go_sem]) rfl ?_
 exact ⟨rfl,rfl⟩

theorem Ci {g n i:Nat} {r:List UInt8} (h0:64<=n) (hg:g<=100000) (hi:i<=100001) (hr:r.length<=2048):recN g n i r<=2048:=by
 have h1:recN g n i r * n<(jrecB g i r).length+10+n:=qJ (by omega)
 have h2:=fv (g:=g) (i:=i) (r:=r) (by omega) (by omega) (by omega)
 have h3:recN g n i r * 64<=recN g n i r * n:=Nat.mul_le_mul (Nat.le_refl _) h0
 by_cases hh:recN g n i r<=2048
 ·exact hh
 ·exfalso
  have h4:(recN g n i r - 1) * n<(jrecB g i r).length+10:=by
   have:(recN g n i r - 1) * n+n=recN g n i r * n:=by
    rw [<- Nat.succ_mul,Nat.succ_eq_add_one,Nat.sub_add_cancel (by omega)]
   omega
  have h5:2048 * 64<=(recN g n i r - 1) * n:=Nat.mul_le_mul (by omega) h0
  omega


theorem pf {w:World} {L:Lay} {D:Dk} {jb t g k u b o n c:Nat} {A:Option Addr} {l:List (List UInt8)} (h:JBox w L D jb t g k u) (hn:l.length=n) (hn9:n<=1000000) (hl:LRecs w w.heap.size A b o l) (hlong:dJ l=true) :
  Calls Tryz.prog 85 #[.pointer (some ⟨jb,0,none⟩), .slice A n c] w fun e w'=>e = .returned (.int .i64 4)/\Below w.heap.size w w':=by
 have HA:=aa (df h)
 have HC:=aa (jg w w.heap.size A b o n c l hn hn9 hl)
 rw [hlong] at HC
 clear h hn hn9 hl hlong
 go_enter Tryz.func85,Tryz.ntmps85
 go_wp2_with (first|(go_at_call 151;refine HA.out.mono ?_;rintro _ _ ⟨rfl,rfl⟩)|(go_at_call 157;refine HC.out.mono ?_;rintro _ _ ⟨rfl,rfl⟩))
 go_ret
 exact ⟨rfl,Below.refl _ _⟩

theorem nG {g n:Nat} (l:List (List UInt8)) (i:Nat):usedN g n 1 (l.take i)<=usedN g n 1 l:=by
 have:=usedN_app (g:=g) (n:=n) 1 (l.take i) (l.drop i)
 rw [List.take_append_drop] at this
 omega
theorem kH {g n i:Nat} {l:List (List UInt8)} {r:List UInt8} (h:l[i]?=some r):usedN g n 1 (l.take (i+1))=usedN g n 1 (l.take i)+recN g n (i+1) r:=by
 obtain ⟨h1,rfl⟩:=List.getElem?_eq_some_iff.1 h
 rw [List.take_succ_eq_append_getElem h1,usedN_app,List.length_take,Nat.min_eq_left (by omega),Nat.add_comm 1]
 rfl
theorem iV {g n i:Nat} {l:List (List UInt8)} {r:List UInt8} (h:l[i]?=some r):framesB g n 1 (l.take (i+1))=framesB g n 1 (l.take i)++frameB (jrecB g (i+1) r) n:=by
 obtain ⟨h1,rfl⟩:=List.getElem?_eq_some_iff.1 h
 rw [List.take_succ_eq_append_getElem h1,framesB_app,List.length_take,Nat.min_eq_left (by omega),Nat.add_comm 1]
 simp [framesB]
theorem ph {l:List (List UInt8)} {i:Nat} {r:List UInt8} (h:l[i]?=some r) (hl:dJ l=false):r.length<=2048:=by
 unfold dJ at hl
 rw [List.any_eq_false] at hl
 have:=hl r (List.mem_of_getElem? h)
 simpa using this

theorem Fits13.compact {D:Dk} {S:JS} (h:Fits13 D S) (ho:D.ok) (hm:S.m+1<=1000) (hg:S.gen+1<=1000) {l:List (List UInt8)} (hl:dJ l=false) (hf:usedN (S.gen+1) D.n 1 l<=aI D.c) :
  Fits13 (nF D S.m (S.gen+1) l.length (bw D.c (S.gen+1)+0) (framesB (S.gen+1) D.n 1 l)) ⟨S.m+1,S.gen+1,l⟩:=by
 have hn1:=ho.n1
 have eF:=cE (g:=S.gen+1) (n:=D.n) (by omega) 1 l
 refine h.next ho (S':=⟨S.m+1,S.gen+1,l⟩) (F:=framesB (S.gen+1) D.n 1 l) (k:=0) rfl ⟨hm,hg⟩ (fun x hx => ?_) eF (by omega) (Nat.zero_add _).symm ?_
 ·obtain ⟨i,hi⟩:=List.getElem?_of_mem hx
  exact ph hi hl
 ·rw [ku]
  rfl

theorem xN {w w':World} {L:Lay} {D:Dk} {jb:Nat} {S:JS} (ho:D.ok) (hf:Fits13 D S) (hm:S.m+1<=1000) (hg:S.gen+1<=1000) {l:List (List UInt8)} (hl:dJ l=false) (hfit:usedN (S.gen+1) D.n 1 l<=aI D.c)
  (h:JDoes w L (nF D S.m (S.gen+1) l.length (bw D.c (S.gen+1)+0) (framesB (S.gen+1) D.n 1 l)) jb (2 * S.m+2) (S.gen+1) l.length (0+usedN (S.gen+1) D.n 1 l) w') :
  kD w L D jb ⟨S.m+1,S.gen+1,l⟩ w':=by
 refine ⟨nF D S.m (S.gen+1) l.length (bw D.c (S.gen+1)+0) (framesB (S.gen+1) D.n 1 l),rfl,rfl,hf.compact ho hm hg hl hfit,?_⟩
 rw [Nat.zero_add] at h
 exact h

theorem kI {w:World} {L:Lay} {D:Dk} {jb u b o n c:Nat} {A:Option Addr} {S:JS} {l:List (List UInt8)} (h:JBox w L D jb (2 * S.m) S.gen S.recs.length u) (hf:Fits13 D S) (hm1:S.m+1<=1000) (hg1:S.gen+1<=1000) (hn:l.length=n) (hn9:n<=1000) (hl:LRecs w w.heap.size A b o l) (hlong:dJ l=false) :
  Calls Tryz.prog 85 #[.pointer (some ⟨jb,0,none⟩), .slice A n c] w fun e w' =>
   (aI D.c<usedN (S.gen+1) D.n 1 l/\e = .returned (.int .i64 7)/\Below w.heap.size w w')∨(usedN (S.gen+1) D.n 1 l<=aI D.c/\e = .returned (.int .i64 0)/\kD w L D jb ⟨S.m+1,S.gen+1,l⟩ w'):=by
 have HA:=aa (df h)
 have HC:=aa (jg w w.heap.size A b o n c l hn (by omega) hl)
 rw [hlong] at HC
 obtain ⟨c0,c1',c2,c3,c4,_⟩:=h.cells
 have f9:=h.x.free9
 have H:=aa h
 have HF:=aa hf
 have HL:=aa hl
 have HN:=aa hn
 have HLO:=aa hlong
 obtain ⟨t0,ht0⟩:∃x,2 * S.m=x:=⟨_,rfl⟩
 obtain ⟨g1,hg1e⟩:∃x,S.gen+1=x:=⟨_,rfl⟩
 have hw1:IntKind.u64.wrap ((S.gen:Int)+1)=(g1:Int):=by rw [bs];omega
 have hw2:IntKind.u64.wrap (n:Int)=(n:Int):=by rw [bs];omega
 rw [ht0] at c1'
 have HT0:=aa ht0
 have HG1:=aa hg1e
 clear h hf hn hl hlong ht0 hg1e
 go_enter Tryz.func85,Tryz.ntmps85
 go_upto_region 6 with (first|(go_at_call 151;refine HA.out.mono ?_;rintro _ _ ⟨rfl,rfl⟩)|(go_at_call 157;refine HC.out.mono ?_;rintro _ _ ⟨rfl,rfl⟩))
 have hbz:Below w.heap.size w (w.alloc (.cells #[.int .u64 0, .int .u64 0, .int .u64 0] 218)):=(Below.refl _ _).alloc (Nat.le_refl _) _
 obtain ⟨_,z1,z2,_,_,_⟩:=(H.out.below hbz).cells
 rw [HT0.out] at z1
 clear hbz
 go_region
 go_upto_region 7 with fail
 obtain ⟨W1,hW1⟩:∃v,(w.alloc (.cells #[.int .u64 (t0:Int), .int .u64 (g1:Int), .int .u64 (n:Int)] 218)).drew=v:=⟨_,rfl⟩
 rw [hW1]
 have hb1:Below w.heap.size w W1:=hW1 ▸ ((Below.refl _ _).alloc (Nat.le_refl _) _).drew
 have x1:BoxAt W1 w.heap.size #[.int .u64 (t0:Int), .int .u64 (g1:Int), .int .u64 (n:Int)] 218:=hW1 ▸ BoxAt.new w _ _
 have HS1:=aa x1.lt
 have HB1:=aa hb1
 obtain ⟨lb,hlb⟩:∃x,L.b=x:=⟨_,rfl⟩
 obtain ⟨s0,hs0⟩:∃x,w.heap.size=x:=⟨_,rfl⟩
 rw [hs0] at x1 ⊢
 have HX:=aa (show ∀v,Below W1.heap.size W1 v->v.cell? ⟨s0,0,none⟩=some (.int .u64 (t0:Int))/\v.cell? ⟨s0,1,none⟩=some (.int .u64 (g1:Int))/\v.cell? ⟨s0,2,none⟩=some (.int .u64 (n:Int))/\v.cell? ⟨jb,0,none⟩=some (.pointer (some ⟨lb,0,none⟩)) from fun v hv=>by
  have h2:=(x1.below hv).cell
  have h3:=(H.out.below (HB1.out.trans (hv.mono HB1.out.size))).cells.1
  rw [hlb] at h3
  exact ⟨h2 0,h2 1,h2 2,h3⟩)
 have HJ:=aa (show ∀v,Below W1.heap.size W1 v->JBox v L D jb (2 * S.m) S.gen S.recs.length u from fun v hv=>H.out.below (HB1.out.trans (hv.mono HB1.out.size)))
 have HZ:=aa (show ∀v,Below W1.heap.size W1 v->Calls Tryz.prog 79 #[.pointer (some ⟨lb,0,none⟩)] v fun e w'=>e = .returned (.int .i64 (D.n:Int))/\v=w' from fun v hv=>by
  have:=eK (HJ.out v hv).d
  rwa [hlb] at this)
 clear c0 c1' c2 c3 c4 f9 z1 z2 hW1 hb1 x1 hlb hs0 HA HC
 go_upto_region 9 with fail
 go_loopw [7,8,9,34] (fun s7 _ _ s34 wr=>∃(i z c1:Nat) (A1:Option Addr) (F:List UInt8),i<=n/\s34 = .int .i64 (i:Int)/\s7 = .slice A1 z c1/\Hid (F=framesB (S.gen+1) D.n 1 (l.take i))/\Hid (F.length=z)/\Hid (wr.ownsRow W1.heap.size 5 1 (.slice A1 z c1) z (bv F))/\Hid (Below W1.heap.size W1 wr)/\Hid (usedN (S.gen+1) D.n 1 (l.take i)<=aI D.c)) (fun _ _ _ s34 _=>n - (intOf s34).toNat)
 case atStart=>exact ⟨0,0,0,none,[],Nat.zero_le _,rfl,rfl,aa rfl,aa rfl,aa (World.ownsRow_nil _ _ _ _),aa (Below.refl _ _),aa (Nat.zero_le _)⟩
 case round =>
  obtain ⟨i,z,c1,A1,F,hi,rfl,rfl,HFE,HFL,HO,HBW,HU⟩:=hrel
  by_cases hin:i<n
  ·have hil:i<l.length:=by rw [HN.out];exact hin
   obtain ⟨r,hr⟩:∃r,l[i]=r:=⟨_,rfl⟩
   have HRR:=aa (show l[i]?=some r from by rw [List.getElem?_eq_getElem hil,hr])
   have hA:=(HL.out.a (by omega)).1
   have HLB:=aa (HL.out.below (HB1.out.trans (HBW.out.mono HB1.out.size)))
   obtain ⟨Ar,cr,xr,sr⟩:=HLB.out.r i r HRR.out
   have HSR:=aa sr
   subst hA
   have hrl:=ph HRR.out HLO.out
   have hlt:((i:Int)<(n:Int))=True:=by simp;omega
   have hwi:IntKind.i64.wrap ((i:Int)+1)=((i+1:Nat):Int):=by rw [IntKind.wrap_i64];omega
   obtain ⟨i1,hi1⟩:∃x,i+1=x:=⟨_,rfl⟩
   have hwu:IntKind.u64.wrap (i:Int)=(i:Int):=by rw [bs];omega
   have hwu1:IntKind.u64.wrap ((i:Int)+1)=(i1:Int):=by rw [bs];omega
   have hn1:=H.out.d.ok.n1
   have hn2:=H.out.d.ok.n2
   have hcc:=H.out.d.ok.c2
   have hrec:recN (S.gen+1) D.n (i+1) r<=2048:=Ci hn1 (by omega) (by omega) hrl
   have eus:=kH (g:=S.gen+1) (n:=D.n) HRR.out
   have eF:=iV (g:=S.gen+1) (n:=D.n) HRR.out
   have eR:(frameB (jrecB (S.gen+1) (i+1) r) D.n).length=recN (S.gen+1) D.n (i+1) r * D.n:=ct (by omega)
   have eL:=cE (g:=S.gen+1) (n:=D.n) (by omega) 1 (l.take (i+1))
   have eL0:=cE (g:=S.gen+1) (n:=D.n) (by omega) 1 (l.take i)
   have hzz:z<=10000000:=by
    rw [<- HFL.out,HFE.out,eL0]
    have:=Nat.mul_le_mul (show usedN (S.gen+1) D.n 1 (l.take i)<=2047 from by have:=HU.out;unfold aI at this;omega) hn2
    omega
   obtain ⟨FR,hFR⟩:∃x,frameB (jrecB (S.gen+1) (i+1) r) D.n=x:=⟨_,rfl⟩
   obtain ⟨F2,hF2⟩:∃x,framesB (S.gen+1) D.n 1 (l.take (i+1))=x:=⟨_,rfl⟩
   obtain ⟨q2,hq2⟩:∃x,usedN (S.gen+1) D.n 1 (l.take (i+1))=x:=⟨_,rfl⟩
   have hFRl:FR.length<=10000000:=by
    rw [<- hFR,eR]
    have:=Nat.mul_le_mul hrec hn2
    omega
   have hq29:q2<=5000:=by
    have:=HU.out
    unfold aI at this
    omega
   have HAPP:=aa (show F++FR=F2 from by rw [HFE.out,<- hF2,eF,hFR])
   have HQ2:=aa hq2
   have HF2:=aa hF2
   rw [hF2,hq2] at eL
   have HFL2:=aa eL
   have HPR:=aa (show ∀v,Below W1.heap.size W1 v->Below wr.heap.size wr v->Calls Tryz.prog 158 #[.int .u64 (g1:Int), .int .u64 (i1:Int), .slice Ar r.length cr, .int .i64 (D.n:Int)] v (Puts v FR) from fun v hv hv2=>by
    rw [<- hFR,<- HG1.out,<- hi1]
    exact ia (S.gen+1) (i+1) r w.heap.size Ar r.length cr D.n v (by omega) (by omega) rfl (by omega) hn1 hn2 (HSR.out.below (hv2.mono (Nat.le_trans HB1.out.size HBW.out.size))) (Nat.le_trans HB1.out.size hv.size))
   have HSE:=aa (show ∀v,Below W1.heap.size W1 v->∀b c1,Calls Tryz.prog 154 #[.pointer (some ⟨jb,0,none⟩), .slice b F2.length c1] v fun e w'=>e = .returned (.int .i64 (q2:Int))/\v=w' from fun v hv b c1=>by
    have hz9:F2.length<=2000000000:=by
     rw [HFL2.out]
     have:=Nat.mul_le_mul hq29 hn2
     omega
    have:=eV (HJ.out v hv) F2.length b c1 hz9
    rwa [show F2.length / D.n=q2 from by rw [HFL2.out,Nat.mul_div_cancel _ (by omega)]] at this)
   have HAR:=aa (show ∀v,Below W1.heap.size W1 v->Calls Tryz.prog 159 #[.pointer (some ⟨jb,0,none⟩)] v fun e w'=>e = .returned (.int .i64 (aI D.c:Int))/\v=w' from fun v hv=>jG (HJ.out v hv) HF.out.c6)
   have HTOT:=aa (show q2<=usedN (S.gen+1) D.n 1 l from hq2 ▸ nG l (i+1))
   have HI1:=aa hi1
   have HW:=aa ((HBW.out).drew)
   obtain ⟨x0,x1,x2,x3⟩:=HX.out wr HBW.out
   have HZZ:=aa (show F.length<=10000000/\FR.length<=10000000 from ⟨HFL.out ▸ hzz,hFRl⟩)
   clear hr hil hrl hi1 hrec eus eF eR eL eL0 hFR hF2 hq2 hzz hFRl hn1 hn2 hcc sr
   go_upto_region 11 with fail
   go_region_held_law (fun v=>v.cell? ⟨s0,0,none⟩=some (.int .u64 (t0:Int))/\v.cell? ⟨s0,1,none⟩=some (.int .u64 (g1:Int))/\v.cell? ⟨s0,2,none⟩=some (.int .u64 (n:Int))/\v.cell? ⟨jb,0,none⟩=some (.pointer (some ⟨lb,0,none⟩)))
    (first|exact ⟨x0,x1,x2,x3⟩|exact HX.out _ HW.out|exact p2|exact p3)
    (first|(go_simp;go_at_call 79;refine (HZ.out _ HW.out).mono ?_;rintro _ _ ⟨rfl,rfl⟩)|(go_simp;go_at_call 158;refine (HPR.out _ HW.out ((Below.refl _ _).drew)).mono ?_;rintro _ v2 ⟨A2,c2,rfl,ho2,hv2⟩;(have HO2:=aa ho2);(have HV2:=aa hv2);(have HW2:=aa (HW.out.trans (hv2.mono HW.out.size)));(have p2:=HX.out _ HW2.out);(have HOX:=aa (show v2.ownsRow W1.heap.size 5 1 (.slice A1 z c1) F.length (bv F) from by rw [HFL.out];exact ao HO.out (((Below.refl wr.heap.size wr).drew).trans hv2)));clear ho2 hv2)|(refine j0 _ rfl _ _ 50 rfl W1.heap.size bT Tryz.underlying50 _ F FR F2 HAPP.out rfl HOX.out v2.heap.size A2 FR.length c2 rfl rfl (Sees.own HO2.out) HZZ.out HW2.out.size ?_;intro A4 c4 w4 hst4;(have HW4:=aa (HW2.out.trans (hst4.below (B:=W1.heap.size) HOX.out (Nat.le_refl _) HW2.out.size)));(have HO4:=aa hst4.own);(have p3:=HX.out _ HW4.out);clear hst4))
   by_cases hfull:aI D.c<q2
   ·go_wp2_with (first|(go_at_call 154;refine (HSE.out _ HW4.out _ _).mono ?_;rintro _ _ ⟨rfl,rfl⟩)|(go_at_call 159;refine (HAR.out _ HW4.out).mono ?_;rintro _ _ ⟨rfl,rfl⟩))
    go_ret
    exact .inl ⟨by have:=HTOT.out;omega,rfl,HB1.out.trans (HW4.out.mono HB1.out.size)⟩
   ·go_wp2_with (first|(go_at_call 154;refine (HSE.out _ HW4.out _ _).mono ?_;rintro _ _ ⟨rfl,rfl⟩)|(go_at_call 159;refine (HAR.out _ HW4.out).mono ?_;rintro _ _ ⟨rfl,rfl⟩))
    go_roundw
    case rel=>exact ⟨i+1,F2.length,c4,A4,F2,hin,by first|rfl|trivial|simp,rfl,aa HF2.out.symm,aa rfl,HO4,HW4,aa (by rw [HQ2.out];omega)⟩
    case measure=>simp [intOf];omega
  ·have hin2:n=i:=by omega
   subst hin2
   have eT:l.take n=l:=List.take_of_length_le (by rw [HN.out];exact Nat.le_refl _)
   have hFE:=HFE.out
   have hU:=HU.out
   rw [eT] at hFE hU
   have hn1:=H.out.d.ok.n1
   have eL:=cE (g:=S.gen+1) (n:=D.n) (by omega) 1 l
   obtain ⟨q,hq⟩:∃x,usedN (S.gen+1) D.n 1 l=x:=⟨_,rfl⟩
   rw [hq] at eL hU
   have hqz:q * D.n=z:=by rw [<- eL,<- hFE];exact HFL.out
   obtain ⟨bb,hbb⟩:∃bb,0<z->A1=some ⟨bb,0,none⟩/\W1.heap.size<=bb/\z<=c1/\RowIs wr bb F:=by
    by_cases h0:0<z
    ·obtain ⟨b1,e,h1,h2,h3⟩:=jK HO.out HFL.out h0
     exact ⟨b1,fun _=>⟨e,h1,h2,h3⟩⟩
    ·exact ⟨0,fun e=>absurd e h0⟩
   have hpos:0<q->0<z:=fun e=>by rw [<- hqz];exact Nat.mul_pos e (by omega)
   have hbw:Below w.heap.size w wr:=HB1.out.trans (HBW.out.mono HB1.out.size)
   have hJD:∀w',JDoes wr L (nF D S.m (S.gen+1) n (bw D.c (S.gen+1)+0) F) jb (2 * S.m+2) (S.gen+1) n (0+q) w'->kD w L D jb ⟨S.m+1,S.gen+1,l⟩ w':=fun w' hd=>by
    refine xN H.out.d.ok HF.out hm1 hg1 HLO.out (by rw [hq];exact hU) ?_
    rw [HN.out,<- hFE,hq]
    exact JDoes.trans rfl (Chg.of_below hbw) (fun q e => .inl e) hd
   have hk:=(sj (HJ.out wr HBW.out) HF.out.calm HF.out.w HF.out.c6 S.m (S.gen+1) n 0 q z bb c1 A1 F (by omega) (by omega) (by omega) (fun e=>⟨(hbb (hpos e)).1,(hbb (hpos e)).2.2.2,fun e2=>by
    have h1:=H.out.d.lt e2
    have h2:=(hbb (hpos e)).2.1
    have h3:=HB1.out.size
    omega⟩) HFL.out hqz (by omega) (by
     by_cases h0:0<z
     ·exact (hbb h0).2.2.1
     ·omega) (fun e=>(hbb (hpos e)).2.2.2.lt)).mono (fun e w' hh=>(⟨hh.1,hJD w' hh.2⟩:e = .returned (.int .i64 0)/\kD w L D jb ⟨S.m+1,S.gen+1,l⟩ w'))
   rw [HT0.out,HG1.out] at hk
   have HK:=aa (show Calls Tryz.prog 156 #[.pointer (some ⟨jb,0,none⟩), .agg #[.int .u64 (t0:Int), .int .u64 (g1:Int), .int .u64 (n:Int)], .int .i64 0, .slice A1 z c1] wr fun e w'=>e = .returned (.int .i64 0)/\kD w L D jb ⟨S.m+1,S.gen+1,l⟩ w' from by
    rw [<- HG1.out]
    rw [<- HG1.out] at hk
    exact hk)
   have HFIT:=aa (hq ▸ hU:usedN (S.gen+1) D.n 1 l<=aI D.c)
   obtain ⟨x0,x1,x2,x3⟩:=HX.out wr HBW.out
   clear hk hJD hbb hpos hbw hqz hq eL hn1 hU hFE eT
   go_wp2_with (go_at_call 156;refine HK.out.mono ?_;rintro _ w5 ⟨rfl,hj5⟩;(have HJ5:=aa hj5);clear hj5)
   go_ret
   exact .inr ⟨HFIT.out,rfl,HJ5.out⟩


structure Two (w:World) (Lc Ld:Lay) (D E:Dk) (jb kb:Nat) (S T:JS) (wr:World):Prop where
 j:JAt wr Lc D jb S
 k:JAt wr Ld E kb T
 ap:∀g,(Lc.has g∨g=jb)->¬(Ld.has g∨g=kb)
 b:Below w.heap.size w wr
 hc:∀g,(Lc.has g∨g=jb)->w.heap.size<=g
 hd:∀g,(Ld.has g∨g=kb)->w.heap.size<=g

def TwoS (w:World) (n c bc bd jb kb:Nat) (S T:JS) (wr:World):Prop :=
 ∃Lc Ld D E,Lc.b=bc/\Ld.b=bd/\D.n=n/\D.c=c/\E.n=n/\E.c=c/\Two w Lc Ld D E jb kb S T wr

section
variable {w wr w' : World} {Lc Ld : Lay} {D E : Dk} {n c bc bd jb kb : Nat} {S T S' : JS}
theorem JAt.lt (h:JAt wr Lc D jb S) {g:Nat} (hg:Lc.has g∨g=jb):g<wr.heap.size:=by
 rcases hg with hg|rfl
 ·exact h.b.d.lt hg
 ·exact h.b.x.lt
theorem JAt.beside {P:Nat->Prop} (h:JAt wr Lc D jb S) (hc:Chg P wr w') (hs:∀g,(Lc.has g∨g=jb)->¬P g):JAt w' Lc D jb S :=
 ⟨⟨h.b.d.beside hc fun g hg=>hs g (.inl hg),(hc.block _ h.b.x.lt (hs _ (.inr rfl))).trans h.b.x,h.b.h⟩,h.f⟩
theorem TwoS.below (h:TwoS w n c bc bd jb kb S T wr) (hb:Below wr.heap.size wr w'):TwoS w n c bc bd jb kb S T w':=by
 obtain ⟨Lc,Ld,D,E,e1,e2,e3,e4,e5,e6,h⟩:=h
 exact ⟨Lc,Ld,D,E,e1,e2,e3,e4,e5,e6,h.j.below hb,h.k.below hb,h.ap,h.b.trans (hb.mono h.b.size),h.hc,h.hd⟩
theorem TwoS.turn (h:TwoS w n c bc bd jb kb S T wr):TwoS w n c bd bc kb jb T S wr:=by
 obtain ⟨Lc,Ld,D,E,e1,e2,e3,e4,e5,e6,h⟩:=h
 exact ⟨Ld,Lc,E,D,e2,e1,e5,e6,e3,e4,h.k,h.j,fun g h1 h2=>h.ap g h2 h1,h.b,h.hd,h.hc⟩
theorem TwoS.b (h:TwoS w n c bc bd jb kb S T wr):Below w.heap.size w wr:=by
 obtain ⟨Lc,Ld,D,E,e1,e2,e3,e4,e5,e6,h⟩:=h
 exact h.b
theorem Two.left (h:Two w Lc Ld D E jb kb S T wr) (ht:kD wr Lc D jb S' w'):∃L' D',L'.b=Lc.b/\D'.n=D.n/\D'.c=D.c/\Two w L' Ld D' E jb kb S' T w':=by
 obtain ⟨D',en,ec,hf,L',eb,hj,hc,hs⟩:=ht
 refine ⟨L',D',eb,en,ec,⟨by rw [en];exact hj,hf⟩,h.k.beside hc (fun g hg hg2=>h.ap g hg2 hg),fun g h1 h2 => ?_,h.b.trans (hc.below h.b.size h.hc),fun g hg => ?_,h.hd⟩
 ·rcases h1 with h1|h1
  ·rcases hs g h1 with e|e
   ·exact h.ap g (.inl e) h2
   ·have:=h.k.lt h2
    omega
  ·exact h.ap g (.inr h1) h2
 ·rcases hg with hg|hg
  ·rcases hs g hg with e|e
   ·exact h.hc g (.inl e)
   ·exact Nat.le_trans h.b.size e
  ·exact h.hc g (.inr hg)

def z6 (S:JS) (n c:Nat) (l:List (List UInt8)):Nat:=if dJ l=true then 4 else if aI c<usedN (S.gen+1) n 1 l then 7 else 0
def compS (S:JS) (n c:Nat) (l:List (List UInt8)):JS:=if dJ l=true then S else if aI c<usedN (S.gen+1) n 1 l then S else ⟨S.m+1,S.gen+1,l⟩
def takeN13 (S:JS) (n:Nat) (r:List UInt8):Nat:=if 2048<r.length then 0 else recN S.gen n (S.recs.length+1) r
def appE (S:JS) (n c:Nat) (r:List UInt8):Nat:=if 2048<r.length then 4 else if aI c<S.used n+takeN13 S n r then 7 else 0
def appS (S:JS) (n c:Nat) (r:List UInt8):JS:=if 2048<r.length then S else if aI c<S.used n+takeN13 S n r then S else ⟨S.m+1,S.gen,S.recs++[r]⟩
theorem Cj (S:JS) (n c:Nat) (l:List (List UInt8)):(compS S n c l).m<=S.m+1/\(compS S n c l).gen<=S.gen+1:=by
 unfold compS
 split
 ·omega
 ·split
  ·omega
  ·simp
theorem CK (S:JS) (n c:Nat) (r:List UInt8):(appS S n c r).m<=S.m+1/\(appS S n c r).gen<=S.gen+1:=by
 unfold appS
 split
 ·omega
 ·split
  ·omega
  ·simp

theorem D4 (S:JS) (n c:Nat) (r:List UInt8):(appE S n c r=0->(appS S n c r).used n=S.used n+takeN13 S n r/\S.used n+takeN13 S n r<=aI c)/\(appE S n c r≠0->appS S n c r=S):=by
 unfold appE appS
 by_cases h1:2048<r.length
 ·simp [h1]
 ·by_cases h2:aI c<S.used n+takeN13 S n r
  ·simp [h1,h2]
  ·simp only [h1,h2,if_false]
   refine ⟨fun _=>⟨?_,by omega⟩,fun e=>absurd rfl e⟩
   show usedN S.gen n 1 (S.recs++[r])=usedN S.gen n 1 S.recs+takeN13 S n r
   rw [usedN_app,Nat.add_comm 1,takeN13,if_neg h1]
   rfl

theorem TwoS.compact (h:TwoS w n c bc bd jb kb S T wr) (hm:S.m+1<=1000) (hg:S.gen+1<=1000) {l:List (List UInt8)} {A:Option Addr} {b o z cp:Nat} (hn:l.length=z) (hz:z<=1000) (hl:LRecs wr wr.heap.size A b o l) :
  Calls Tryz.prog 85 #[.pointer (some ⟨jb,0,none⟩), .slice A z cp] wr fun e w'=>e = .returned (.int .i64 (z6 S n c l:Nat))/\TwoS w n c bc bd jb kb (compS S n c l) T w':=by
 have h0:=h
 obtain ⟨Lc,Ld,D,E,e1,e2,e3,e4,e5,e6,h⟩:=h
 by_cases hlong:dJ l=true
 ·refine (pf (c:=cp) h.j.b hn (by omega) hl hlong).mono ?_
  rintro e w' ⟨rfl,hb⟩
  rw [z6,compS,if_pos hlong,if_pos hlong]
  exact ⟨rfl,h0.below hb⟩
 ·have hlong':dJ l=false:=by simpa using hlong
  refine (kI (c:=cp) h.j.b h.j.f hm hg hn hz hl hlong').mono ?_
  rintro e w' (⟨hf,rfl,hb⟩ | ⟨hf,rfl,ht⟩)
  ·rw [e3,e4] at hf
   rw [z6,compS,if_neg hlong,if_neg hlong,if_pos hf,if_pos hf]
   exact ⟨rfl,h0.below hb⟩
  ·rw [e3,e4] at hf
   rw [z6,compS,if_neg hlong,if_neg hlong,if_neg (by omega),if_neg (by omega)]
   obtain ⟨L',D',b1,b2,b3,h2⟩:=h.left ht
   exact ⟨rfl,L',Ld,D',E,b1.trans e1,e2,b2.trans e3,b3.trans e4,e5,e6,h2⟩

theorem TwoS.append (h:TwoS w n c bc bd jb kb S T wr) (hm:S.m+1<=1000) {r:List UInt8} {A:Option Addr} {z cp:Nat} (hr:r.length=z) (hs:Sees wr wr.heap.size A (bv r)) :
  Calls Tryz.prog 84 #[.pointer (some ⟨jb,0,none⟩), .slice A z cp] wr fun e w'=>e = .returned (.int .i64 (appE S n c r:Nat))/\TwoS w n c bc bd jb kb (appS S n c r) T w':=by
 have h0:=h
 obtain ⟨Lc,Ld,D,E,e1,e2,e3,e4,e5,e6,h⟩:=h
 have hn1:=h.j.b.d.ok.n1
 have hmany:=h.j.f.many (by omega) h.j.b.d.ok.c2
 have hsm:=h.j.f.small
 by_cases hlong:2048<r.length
 ·refine (qS h.j.b A z cp (by omega)).mono ?_
  rintro e w' ⟨rfl,hb⟩
  rw [appE,appS,if_pos hlong,if_pos hlong]
  exact ⟨rfl,h0.below hb⟩
 ·have et:takeN13 S n r=recN S.gen D.n (S.recs.length+1) r:=by rw [takeN13,if_neg hlong,e3]
  by_cases hf:aI c<S.used n+takeN13 S n r
  ·refine (kE h.j.b h.j.f.c6 h.j.f.fit (by omega) (by omega) r A z cp hr (by omega) hs (by rw [<- et,e3,e4];exact hf)).mono ?_
   rintro e w' ⟨rfl,hb⟩
   rw [appE,appS,if_neg hlong,if_neg hlong,if_pos hf,if_pos hf]
   exact ⟨rfl,h0.below hb⟩
  ·refine (kF h.j.b h.j.f rfl hm r A z cp hr (by omega) hs (by rw [<- et,e3,e4];omega)).mono ?_
   rintro e w' ⟨rfl,ht⟩
   rw [appE,appS,if_neg hlong,if_neg hlong,if_neg hf,if_neg hf]
   obtain ⟨L',D',b1,b2,b3,h2⟩:=h.left ht
   exact ⟨rfl,L',Ld,D',E,b1.trans e1,e2,b2.trans e3,b3.trans e4,e5,e6,h2⟩

theorem TwoS.room (h:TwoS w n c bc bd jb kb S T wr):S.used n<=aI c /\
  Calls Tryz.prog 155 #[.pointer (some ⟨jb,0,none⟩)] wr fun e w'=>e = .returned (.int .i64 ((aI c - S.used n:Nat):Int))/\Below wr.heap.size wr w':=by
 obtain ⟨Lc,Ld,D,E,e1,e2,e3,e4,e5,e6,h⟩:=h
 have h1:=h.j.f.fit
 have:=nC h.j.b h.j.f.c6 h1
 rw [e3,e4] at this h1
 exact ⟨h1,this⟩

theorem RowsOf.recs {W:World} {rs:List (List UInt8)} {vs:List Value} {A:Option Addr} {k c1 B:Nat} (hk:rs.length=k) (ho:W.ownsRow B 50 1 (.slice A k c1) k vs) (hr:RowsOf W rs vs):∃b o,LRecs W W.heap.size A b o rs:=by
 by_cases h0:0<k
 ·have hs:=Sees.own ho
  have hlen:0<vs.length:=by rw [hr.1];omega
  obtain ⟨b,o,e,hb,hc⟩:=hs.flat hlen
  refine ⟨b,o,⟨fun _=>⟨e,hb⟩,fun i r hi => ?_⟩⟩
  obtain ⟨A1,c2,h1,h2⟩:=hr.2 i r hi
  exact ⟨A1,c2,hc i _ h1,Sees.own h2⟩
 ·exact ⟨0,0,⟨fun h=>by omega,fun i r e=>by
   have:=(List.getElem?_eq_some_iff.1 e).1
   omega⟩⟩

theorem TwoS.open (h:TwoS w n c bc bd jb kb S T wr) :
  Calls Tryz.prog 69 #[.pointer (some ⟨bc,0,none⟩)] wr fun e w'=>∃jb' A b o c1,e = .returned (.tuple #[.pointer (some ⟨jb',0,none⟩), .slice A S.recs.length c1, .int .i64 0])/\TwoS w n c bc bd jb' kb S T w'/\TwoS w n c bc bd jb kb S T w'/\LRecs w' w'.heap.size A b o S.recs/\Below wr.heap.size wr w':=by
 have h0:=h
 obtain ⟨Lc,Ld,D,E,e1,e2,e3,e4,e5,e6,h⟩:=h
 subst e1
 refine (si h.j.b.d h.j.f).mono ?_
 rintro e w' ⟨jb',A,c1,vs,rfl,hj,hja,ho,hr,hb⟩
 obtain ⟨b,o,hl⟩:=hr.recs rfl ho
 refine ⟨jb',A,b,o,c1,rfl,⟨Lc,Ld,D,E,rfl,e2,e3,e4,e5,e6,hja,h.k.below hb,fun g h1 h2 => ?_,h.b.trans (hb.mono h.b.size),fun g hg => ?_,h.hd⟩,h0.below hb,hl,hb⟩
 ·rcases h1 with h1|h1
  ·exact h.ap g (.inl h1) h2
  ·have:=h.k.lt h2
   omega
 ·rcases hg with hg|hg
  ·exact h.hc g (.inl hg)
  ·have:=h.b.size
   omega
end
end Go.Proofs.YtnkjdijbfnmnhaaGreat
