/-
  Texts of this claim put together: Newest.
-/
import Derived.Test.YtnkjdijbfnmnhaaGreatJ24
import Derived.Test.YtnkjdijbfnmnhaaGreatJ38

namespace Go.Proofs.YtnkjdijbfnmnhaaGreat
set_option maxRecDepth 100000
set_option maxHeartbeats 12800000
open Go.RowKit Go.Shelf

attribute [local go_sem] Oper.semAt_some

def wj12 (L:Lay) (D:Dk) (j:Nat):El12:=⟨((D.waits[j]?.getD (0,[])).1:Nat),(L.G[j]?.getD (0,0)).1,(D.waits[j]?.getD (0,[])).2.length,(L.G[j]?.getD (0,0)).2⟩

theorem xf (ws:List (Nat × List UInt8)) (i j:Nat) (q:Nat × List UInt8) (hj:ws[j]?=some q) (hq:q.1=i) (hl:∀(m:Nat) (p:Nat × List UInt8),j<m->ws[m]?=some p->p.1≠i) :
  ws.reverse.find? (fun q=>q.1 == i)=some q:=by
 have hlt:j<ws.length:=(List.getElem?_eq_some_iff.1 hj).1
 have e:ws=ws.take j++q::ws.drop (j+1):=by
  have h2:ws[j]=q:=(List.getElem?_eq_some_iff.1 hj).2
  rw [<- h2,List.getElem_cons_drop hlt,List.take_append_drop]
 rw [e,List.reverse_append,List.reverse_cons,List.append_assoc,List.find?_append]
 have hn:(ws.drop (j+1)).reverse.find? (fun q=>q.1 == i)=none:=by
  rw [List.find?_eq_none]
  intro p hp
  rw [List.mem_reverse] at hp
  obtain ⟨m,hm⟩:=List.mem_iff_getElem?.1 hp
  rw [List.getElem?_drop] at hm
  have:=hl (j+1+m) p (by omega) hm
  simpa using this
 rw [hn]
 simp [hq]
theorem B6 (ws:List (Nat × List UInt8)) (i:Nat) (hl:∀(m:Nat) (p:Nat × List UInt8),ws[m]?=some p->p.1≠i):ws.reverse.find? (fun q=>q.1 == i)=none:=by
 rw [List.find?_eq_none]
 intro p hp
 rw [List.mem_reverse] at hp
 obtain ⟨m,hm⟩:=List.mem_iff_getElem?.1 hp
 simpa using hl m p hm

section
variable {w : World} {L : Lay} {D : Dk}
theorem DiskAt.wj (h:DiskAt w L D) {j:Nat} {q:Nat × List UInt8} (hq:D.waits[j]?=some q):∃p,L.G[j]?=some p/\wj12 L D j=⟨(q.1:Int),p.1,q.2.length,p.2⟩/\RowIs w p.1 q.2:=by
 have hj:j<L.G.length:=by
  rw [h.len]
  exact (List.getElem?_eq_some_iff.1 hq).1
 have hp:L.G[j]?=some L.G[j]:=List.getElem?_eq_getElem hj
 refine ⟨_,hp,?_,(h.wt j _ q hp hq).1⟩
 unfold wj12
 rw [hq,hp]
 rfl
theorem DiskAt.wj_cells (h:DiskAt w L D) (h0:0<D.waits.length):∃b off,L.A=some ⟨b,off,none⟩/\b<w.heap.size/\L.has b/\∀j,j<D.waits.length->w.cell? ⟨b,off+j * 2,none⟩=some (.int .i64 (wj12 L D j).s)/\w.cell? ⟨b,off+j * 2+1,none⟩=some (.slice (some ⟨(wj12 L D j).g,0,none⟩) (wj12 L D j).l (wj12 L D j).c):=by
 have hs:=Sees.ownRow9 h.row
 have hl:0<(wcs L.G D.waits).length:=by
  have:=h.row.1
  omega
 obtain ⟨b,o,e,hb,hc⟩:=hs.flat hl
 refine ⟨b,o,e,hb, .inr (.inr (.inl ⟨o,none,e⟩)),fun j hj => ?_⟩
 obtain ⟨p,hp,ew,_⟩:=h.wj (List.getElem?_eq_getElem hj)
 obtain ⟨e1,e2⟩:=uU L.G D.waits j _ _ hp (List.getElem?_eq_getElem hj)
 rw [ew]
 exact ⟨hc _ _ e1,hc _ _ e2⟩

def News (w:World) (D:Dk) (i:Nat) (e:Ending) (w':World):Prop :=
 ∃A cp l,e = .returned (.slice A l.length cp)/\l.length<=D.n/\Sees w w.heap.size A (bv l)/\newD D i=l++(List.replicate D.n 0).drop l.length/\Below w.heap.size w w'

def iQ (i:Nat) (pre:List (Nat × El12)):Prop:=∀y∈pre,y.2.s≠(i:Int)

def EZ (i B:Nat) (pre:List (Nat × El12)) (W:World):Prop:=∃pre' x,pre=pre'++[x]/\iQ i pre'/\x.2.s=(i:Int)/\Boxed W B 50 (.slice (some ⟨x.2.g,0,none⟩) x.2.l x.2.c)
theorem DS (h:DiskAt w L D) {i k:Nat} (hk:k<D.waits.length) (hn:iQ i (de D.waits.length (wj12 L D) k)) (he:(wj12 L D (D.waits.length - 1 - k)).s=(i:Int)) :
  RowIs w (wj12 L D (D.waits.length - 1 - k)).g (newD D i)/\(wj12 L D (D.waits.length - 1 - k)).l=(newD D i).length/\(newD D i).length=D.n:=by
 obtain ⟨q,hq⟩:∃q,D.waits[D.waits.length - 1 - k]?=some q:=⟨_,List.getElem?_eq_getElem (by omega)⟩
 obtain ⟨p,_,e,hr⟩:=h.wj hq
 have hqi:q.1=i:=by
  rw [e] at he
  simp only at he
  omega
 suffices hnew:newD D i=q.2 by
  rw [hnew,e]
  exact ⟨hr,rfl,(h.ok.ws q (List.mem_of_getElem? hq)).2⟩
 have hf:=xf D.waits i _ q hq hqi fun m r hm hr' e'=>by
  obtain ⟨p',_,ep,_⟩:=h.wj hr'
  have hml:m<D.waits.length:=(List.getElem?_eq_some_iff.1 hr').1
  refine hn (m,wj12 L D m) ?_ (by rw [ep];simp only;omega)
  unfold de
  rw [List.mem_map]
  refine ⟨D.waits.length - 1 - m,List.mem_range.2 (by omega),?_⟩
  have e0:D.waits.length - 1 - (D.waits.length - 1 - m)=m:=by omega
  rw [e0]
 unfold newD
 rw [hf]
theorem B7 (h:DiskAt w L D) {i:Nat} (hn:iQ i (de D.waits.length (wj12 L D) D.waits.length)):newD D i=D.kept i:=by
 have hf:=B6 D.waits i fun m r hr' e'=>by
  obtain ⟨p',_,ep,_⟩:=h.wj hr'
  have hml:m<D.waits.length:=(List.getElem?_eq_some_iff.1 hr').1
  refine hn (m,wj12 L D m) ?_ (by rw [ep];simp only;omega)
  unfold de
  rw [List.mem_map]
  refine ⟨D.waits.length - 1 - m,List.mem_range.2 (by omega),?_⟩
  have e0:D.waits.length - 1 - (D.waits.length - 1 - m)=m:=by omega
  rw [e0]
 unfold newD
 rw [hf]

theorem xh (h:DiskAt w L D) {i:Nat} (hn:iQ i (de D.waits.length (wj12 L D) D.waits.length)) {A:Option Addr} {m cp:Nat} (hv:at12 D.n L.K i = .slice A m cp) {w':World} (hB:Below w.heap.size w w'):News w D i (.returned (.slice A m cp)) w':=by
 have hm:=B7 h hn
 unfold at12 at hv
 cases hK:L.K i with
 | some g =>
  rw [hK] at hv
  simp only [Value.slice.injEq] at hv
  obtain ⟨rfl,rfl,rfl⟩:=hv
  obtain ⟨hc,hr⟩:=h.keep i g hK
  have hl:=h.ok.k i
  refine ⟨_,D.n,D.kept i,by rw [hl],by omega,hr.sees,?_,hB⟩
  rw [hm,hl,List.drop_of_length_le (by simp),List.append_nil]
 | none =>
  rw [hK] at hv
  simp only [Value.slice.injEq] at hv
  obtain ⟨rfl,rfl,rfl⟩:=hv
  exact ⟨none,0,[],rfl,Nat.zero_le _,Sees.empty _ _ _,by rw [hm,h.zero i hK];simp,hB⟩
theorem zQ (h:DiskAt w L D) {i k:Nat} {pre:List (Nat × El12)} {x:Nat × El12} (hk:k<=D.waits.length) (he:pre++[x]=de D.waits.length (wj12 L D) k) (hn:iQ i pre) (hx:x.2.s=(i:Int)) {w':World} (hB:Below w.heap.size w w') :
  News w D i (.returned (.slice (some ⟨x.2.g,0,none⟩) x.2.l x.2.c)) w':=by
 cases k with
 | zero=>simp [de] at he
 | succ k =>
  rw [gz] at he
  obtain ⟨rfl,e⟩:=List.append_inj' he rfl
  obtain rfl:x=_:=by simpa using e
  obtain ⟨hr,hl,hln⟩:=DS h (by omega) hn hx
  refine ⟨_,_,newD D i,by rw [hl],by omega,hr.sees,?_,hB⟩
  rw [hln,List.drop_of_length_le (by simp),List.append_nil]

theorem xi {β:Type} (B:Nat) (t:TypeId) (f:β->Array Value):Own (fun s W=>BoxAt W B (f s) t):=fun s X Y row hs hg hrow =>
 (hg.block B hs.lt (fun e'=>by
  obtain ⟨o,ho,hc⟩:=hrow B e'.symm
  rw [show X.heap[B]?=_ from hs] at ho
  cases ho
  cases hc)).trans hs

theorem xk (F:Fence) (n:Nat) (h3:F.fn 149) (h5:F.fn 220) (h6:F.fn 280) (hro:F.round=none) (hn:3<=n)
  (h:DiskAt w L D) (i:Nat) (hi:i<D.c):CallsIn F n Tryz.prog 149 #[.pointer (some ⟨L.b,0,none⟩), .int .i64 (i:Int)] w (News w D i):=by
 have h1:1<=n:=by omega
 have H:=aa h
 have HI:=aa hi
 have c3:=h.c3
 have hbl:=h.box.lt
 clear h hi
 refine callsIn_of_wp_marks Tryz.func149 rfl h3 ?_ hro
 simp only [Tryz.ntmps149,List.size_toArray,List.length_cons,List.length_nil,Nat.reduceAdd,Nat.reduceSub,Array.replicate_succ,Array.replicate_zero,List.push_toArray,List.append_toArray,List.nil_append,List.cons_append]
 gi_wp2_with (gi_at_call 220;refine (qG F (n - 1) h5 hro _ _ _ _).mono ?_;rintro e w' ⟨rfl,rfl⟩)
 have bI:=((Boxed.new w 3 (.int .i64 (i:Int))).alloc (.cells #[.slice none 0 0] 50)).alloc (.cells #[.slice L.A D.waits.length L.cp] 133)
 have bR:=(Boxed.new (w.alloc (.cells #[.int .i64 (i:Int)] 3)) 50 (.slice none 0 0)).alloc (.cells #[.slice L.A D.waits.length L.cp] 133)
 have bS:=Boxed.new ((w.alloc (.cells #[.int .i64 (i:Int)] 3)).alloc (.cells #[.slice none 0 0] 50)) 133 (.slice L.A D.waits.length L.cp)
 simp only [World.size_alloc] at bR bS
 have hB0:Below w.heap.size w (((w.alloc (.cells #[.int .i64 (i:Int)] 3)).alloc (.cells #[.slice none 0 0] 50)).alloc (.cells #[.slice L.A D.waits.length L.cp] 133)):=(((Below.refl _ w).alloc (Nat.le_refl _) _).alloc (by simp) _).alloc (by simp;omega) _
 have hsz:(((w.alloc (.cells #[.int .i64 (i:Int)] 3)).alloc (.cells #[.slice none 0 0] 50)).alloc (.cells #[.slice L.A D.waits.length L.cp] 133)).heap.size=w.heap.size+3:=by simp
 obtain ⟨W0,hW0⟩:∃W0,((w.alloc (.cells #[.int .i64 (i:Int)] 3)).alloc (.cells #[.slice none 0 0] 50)).alloc (.cells #[.slice L.A D.waits.length L.cp] 133)=W0:=⟨_,rfl⟩
 rw [hW0] at bI bR bS hB0 hsz ⊢
 clear hW0
 refine wpIn_rangeFunc_ownH hro h1 (gf:=280) (lb := #[.pointer (some ⟨w.heap.size+1+1,0,none⟩)]) rfl h6 (enters_of Tryz.func280 (by kernel_rfl) rfl)
  (tJ F (n - 1) h6 hro (by omega) (w.heap.size+1+1) (w.heap.size+3) D.waits.length L.cp L.A (wj12 L D) (Nat.le_trans H.out.ok.wn (by omega)) W0 (by omega) (by omega) bS.cell (fun h0=>by
   obtain ⟨b,off,e,hb,_,hc⟩:=H.out.wj_cells h0
   exact ⟨b,off,e,by omega,fun j hj=>⟨(hB0.cell (p:=⟨b,off+j * 2,none⟩) hb).trans (hc j hj).1,(hB0.cell (p:=⟨b,off+j * 2+1,none⟩) hb).trans (hc j hj).2⟩⟩)) belowK_t (belowK_b (by omega)) (Below.refl _ _) (fun _=>rfl)
  (fun pre W=>(iQ i pre/\Boxed W w.heap.size 3 (.int .i64 (i:Int))/\Boxed W (w.heap.size+1) 50 (.slice none 0 0)/\w.heap.size+3<=W.heap.size)/\Below w.heap.size w W)
  (fun c pre W=>(c = .ret/\EZ i (w.heap.size+1) pre W)/\Below w.heap.size w W)
  (OwnFrom.and (Own.from (fun s X Y row hs hg hr=>⟨hs.1,boxed_own _ _ (fun _:Unit=>Value.int .i64 (i:Int)) () X Y row hs.2.1 hg hr,boxed_own _ _ (fun _:Unit=>Value.slice none 0 0) () X Y row hs.2.2.1 hg hr,Nat.le_trans hs.2.2.2 hg.size⟩) _) (ownFrom_below (Nat.le_refl _) (by omega)))
  (fun c=>OwnFrom.and (Own.from (fun s X Y row hs hg hr=>by
   obtain ⟨h1,pre',x,e,h2,h3,h4⟩:=hs
   exact ⟨h1,pre',x,e,h2,h3,boxed_own _ _ (fun _:Unit=>Value.slice (some ⟨x.2.g,0,none⟩) x.2.l x.2.c) () X Y row h4 hg hr⟩) _) (ownFrom_below (Nat.le_refl _) (by omega)))
  ⟨⟨fun y hy=>by simp at hy,bI,bR,by omega⟩,hB0⟩
  (fun x a' W=>∃Bx,w.heap.size+1<Bx/\BoxAt W Bx #[.int .i64 x.2.s, .slice (some ⟨x.2.g,0,none⟩) x.2.l x.2.c] 299/\a'={ tmps := #[.pointer (some ⟨L.b,0,none⟩), .int .i64 (i:Int),undef, .pointer (some ⟨w.heap.size,0,none⟩), .pointer (some ⟨w.heap.size+1,0,none⟩),undef, .pointer (some ⟨Bx,0,none⟩), .pointer (some ⟨L.b,0,none⟩), .pointer (some ⟨L.b,0,none⟩), .pointer (some ⟨L.b,3,none⟩), .slice L.A D.waits.length L.cp, .func (.func 280) #[] #[.pointer (some ⟨w.heap.size+1+1,0,none⟩)], .int .i64 (x.1:Int), .agg #[.int .i64 x.2.s, .slice (some ⟨x.2.g,0,none⟩) x.2.l x.2.c],undef,undef,undef,undef,undef,undef,undef,undef,undef,undef,undef,undef],defers:=[] })
  (fun x a' _ X Y row hs hg hr=>by
   obtain ⟨Bx,h1,h2,h3⟩:=hs
   exact ⟨Bx,h1,xi Bx _ (fun _:Unit => #[.int .i64 x.2.s, .slice (some ⟨x.2.g,0,none⟩) x.2.l x.2.c]) () X Y row h2 hg (fun r e=>(hr r e).2),h3⟩)
  ?assign ?body ?done ?stop
 case assign =>
  rintro l pre ⟨xj,xs,xg,xl,xc⟩ W K ⟨⟨hn1,bI1,bR1,hS1⟩,hB1⟩ hK
  simp only [rZ]
  gi_wp2
  have hlt:=bR1.lt
  exact hK _ _ ((KeepsOthers.alloc _ _).from _) ((Below.refl _ W).alloc (by omega) _) ⟨⟨hn1,bI1.alloc _,bR1.alloc _,by simp;omega⟩,hB1.alloc hB1.size _⟩ ⟨W.heap.size,hlt,BoxAt.new W _ _,rfl⟩
 case body =>
  rintro l pre ⟨xj,xs,xg,xl,xc⟩ a' W hl _ ⟨⟨hn1,bI1,bR1,hS1⟩,hB1⟩ ⟨Bx,hBx,bX,rfl⟩ hlt
  have cI:=bI1.cell
  have cR:=bR1.cell
  have fR:=bR1.frozen
  have x0:=bX.cell 0
  have x1:=bX.cell 1
  simp only [List.getElem?_toArray,List.getElem?_cons_zero,List.getElem?_cons_succ] at x0 x1
  have BI:=aa bI1
  have BR:=aa bR1
  have BX:=aa bX
  have HB:=aa hB1
  clear bI1 bR1 bX hB1
  by_cases he:xs=(i:Int)
  ·subst he
   gi_wp2
   exact ⟨(KeepsOthers.setCell _ _ _).from _,⟨rfl,pre,_,rfl,hn1,rfl,BR.out.set _⟩,HB.out.setCell (p:=⟨w.heap.size+1,0,none⟩) (by simp) _⟩
  ·have hne:(xs == (i:Int))=false:=beq_eq_false_iff_ne.2 he
   gi_wp2
   exact ⟨(KeepsOthers.refl _).from _,Below.refl _ _,⟨fun y hy=>(List.mem_append.1 hy).elim (hn1 y) (fun e=>by simp at e;subst e;exact he),BI.out,BR.out,hS1⟩,HB.out⟩
 case done =>
  rintro Dd ys W hD rfl ⟨⟨hn1,bI1,bR1,hS1⟩,hB1⟩ hK
  have h2:W.cell? ⟨L.b,2,none⟩=some (.map (some L.m)):=(hB1.cell (p:=⟨L.b,2,none⟩) hbl).trans H.out.c2
  have hlook:=((H.out.map.stay (hB1.block _ H.out.map.lt)).look1 i (Nat.lt_of_lt_of_le HI.out (Nat.le_trans H.out.ok.c2 (by omega))))
  have hlook':(Instr.lookup 132 (.map (some L.m)) (.int .i64 (i:Int)) false).run Tryz.prog W.drew = .ok (at12 D.n L.K i) W.drew:=(MapIs.stay (w':=W.drew) (H.out.map.stay (hB1.block _ H.out.map.lt)) rfl).look1 i (Nat.lt_of_lt_of_le HI.out (Nat.le_trans H.out.ok.c2 (by omega)))
  have cI:=bI1.cell
  have cR:=bR1.cell
  have fR:=bR1.frozen
  have BR:=aa bR1
  have HN:=aa hn1
  have HB:=aa hB1
  obtain ⟨A,m,cp,hv⟩:∃A m cp,at12 D.n L.K i = .slice A m cp:=by
   unfold at12
   cases L.K i <;> exact ⟨_,_,_,rfl⟩
  have HV:=aa hv
  rw [hv] at hlook hlook'
  clear bI1 bR1 hn1 hB1 hv
  gi_wp2
  gi_region
  all_goals gi_wp2
  all_goals
   have hK':(W.setCell ⟨w.heap.size+1,0,none⟩ (.slice A m cp)).drew.heap[Dd]?=some (.deferred (some [])):=(KeepsOthers.setCell W ⟨w.heap.size+1,0,none⟩ (.slice A m cp)).same Dd _ hK rfl
   refine ⟨by simp, .inl ⟨_,_,rfl,run_takeDeferred hK',?_⟩⟩
   have hc5:=cell_kept (W:=(W.setCell ⟨w.heap.size+1,0,none⟩ (.slice A m cp)).drew) (BR.out.set (.slice A m cp)).cell (grownBy_putObj' _ Dd (.deferred none)) (fun r e=>by cases e;exact ⟨_,hK',rfl⟩)
   refine ⟨.slice A m cp,by simp [results,Tryz.f149,go_sem,hc5],xh H.out HN.out HV.out ?_⟩
   exact ((HB.out.setCell (p:=⟨w.heap.size+1,0,none⟩) (by simp) _).drew).trans (belowK_b (w:=w) (Nat.le_refl _) _ Dd _ _ (by omega) hK' rfl rfl)
 case stop =>
  rintro Dd c pre W hD hpre ⟨⟨rfl,pre',x,rfl,hn1,hx,bR1⟩,hB1⟩ hK
  have HX:=aa hpre
  clear hpre
  gi_wp2
  refine ⟨by simp, .inl ⟨_,_,rfl,run_takeDeferred hK,?_⟩⟩
  have hc5:=cell_kept bR1.cell (grownBy_putObj' _ Dd (.deferred none)) (fun r e=>by cases e;exact ⟨_,hK,rfl⟩)
  refine ⟨.slice (some ⟨x.2.g,0,none⟩) x.2.l x.2.c,by simp [results,Tryz.f149,go_sem,hc5],?_⟩
  obtain ⟨k,hk,hpk⟩:=HX.out
  exact zQ H.out hk hpk hn1 hx (hB1.trans (belowK_b (w:=w) (Nat.le_refl _) W Dd _ _ (by omega) hK rfl rfl))

theorem tK (h:DiskAt w L D) (i:Nat) (hi:i<D.c):Calls Tryz.prog 149 #[.pointer (some ⟨L.b,0,none⟩), .int .i64 (i:Int)] w (News w D i) :=
 (callsIn_wide (n:=3)).1 (xk .wide 3 trivial trivial trivial rfl (Nat.le_refl _) h i hi)
end
end Go.Proofs.YtnkjdijbfnmnhaaGreat
