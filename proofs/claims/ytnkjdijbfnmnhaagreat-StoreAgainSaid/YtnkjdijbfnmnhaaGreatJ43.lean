/-
  Texts of this claim put together: Decide, Sec8.
-/
import Derived.Test.YtnkjdijbfnmnhaaGreatJ42
import Derived.Test.YtnkjdijbfnmnhaaGreatJ12
import Derived.Deep.RegionHeldLaw

namespace Go.Proofs.YtnkjdijbfnmnhaaGreat
open Go.RowKit Go.Conc

section
variable {w : World} {L : Lay} {D : Dk}
set_option maxRecDepth 100000 in
set_option linter.unusedSimpArgs false in
theorem tN (h:DiskAt w L D) (keep:Nat) (torn:Bool) (hk:keep<=D.waits.length) :
  Calls Tryz.prog 341 #[.pointer (some ⟨L.b,0,none⟩), .int .i64 (keep:Int), .bool torn] w fun e w'=>e = .returned (.tuple #[])/\Does L w w' (decideD D keep torn):=by
 have H:=aa h
 have c3:=h.c3
 have hkn:keep<=100000:=Nat.le_trans hk h.ok.wn
 obtain ⟨i0,hi0,hb0⟩:=xp
 have hmk:=run_makeChan (P:=Tryz.prog) (w:=w) Tryz.underlying419 hi0 .i64 keep (by omega) (by rw [hb0];omega)
 refine calls_of_wpN Tryz.func341 rfl ?_
 simp only [Tryz.ntmps341,List.size_toArray,List.length_cons,List.length_nil,Nat.reduceAdd,Nat.reduceSub,Array.replicate_succ,Array.replicate_zero,List.push_toArray,List.append_toArray,List.nil_append,List.cons_append]
 refine wpN_seq_o fun K hK => ?_
 go_wp2
 clear hmk
 have c3':(w.alloc (.chan keep #[] false 0 0 false)).cell? ⟨L.b,3,none⟩=some (.slice L.A D.waits.length L.cp):=(World.cell?_of_block (Below.heap_alloc w _ _ h.box.lt)).trans c3
 have hcp:D.waits.length<=L.cp:=zS h.row
 refine wpN_seq_k fun K1 hK1 => ?_
 refine wpN_seq_o fun K hK => ?_
 go_wp2
 refine wpN_block (wpN_loop (fun j a wr=>(∃x7 x8 x20 x21 x22 x23 x24 x25 x26 x27 x28 x29 x30 x31 x32 x33 x34 x35 x36 x37 x38 x39 x40 x41 x42:Value,a={ tmps := #[.pointer (some ⟨L.b,0,none⟩), .int .i64 (keep:Int), .bool torn,undef,undef,undef, .chan (some w.heap.size),x7,x8,undef, .int .i64 (keep:Int), .chan (some w.heap.size), .pointer (some ⟨L.b,0,none⟩), .pointer (some ⟨L.b,0,none⟩), .pointer (some ⟨L.b,3,none⟩), .slice L.A D.waits.length L.cp, .int .i64 (keep:Int), .slice L.A keep L.cp, .int .i64 (keep:Int), .int .i64 (j:Int),x20,x21,x22,x23,x24,x25,x26,x27,x28,x29,x30,x31,x32,x33,x34,x35,x36,x37,x38,x39,x40,x41,x42,undef,undef,undef,undef,undef,undef,undef,undef,undef,undef,undef,undef,undef,undef,undef],defers:=[] })/\Snd w L D keep torn j wr) keep ?first ?last ?round)
 case first=>exact ⟨⟨undef,undef,undef,undef,undef,undef,undef,undef,undef,undef,undef,undef,undef,undef,undef,undef,undef,undef,undef,undef,undef,undef,undef,undef,undef,rfl⟩,((Below.refl _ _).alloc (Nat.le_refl _) _),by simpa using World.alloc_heap_new w (.chan keep #[] false 0 0 false)⟩
 case last =>
  rintro a wr ⟨⟨x7,x8,x20,x21,x22,x23,x24,x25,x26,x27,x28,x29,x30,x31,x32,x33,x34,x35,x36,x37,x38,x39,x40,x41,x42,rfl⟩,HS⟩
  refine wpN_seq_o fun K hK => ?_
  go_wp2
  refine wpN_off rfl (inb2 ?_)
  refine hK1 _ _ ?_
  clear hK1 K1
  have hlen:=fu h keep torn hk
  have HS0:=aa HS
  obtain ⟨hbw,hch⟩:=HS
  have htk:(gA L D keep torn).take keep=gA L D keep torn:=List.take_of_length_le (by omega)
  rw [htk] at hch
  obtain ⟨W1,hW1⟩:∃W1,W1=wr.setChan w.heap.size keep (gA L D keep torn).toArray true keep 0 false:=⟨_,rfl⟩
  have hcl:∀ats ty,(Builtin.close_ ats ty #[.chan (some w.heap.size)]).run Tryz.prog wr = .ok (.tuple #[]) W1:=fun ats ty=>by
   rw [hW1]
   exact run_close_open (P:=Tryz.prog) (w:=wr) ats ty hch
  have hb1:Below w.heap.size w W1:=by
   rw [hW1]
   exact below_setChan hbw (Nat.le_refl _) _ _ _ _ _ _
  have HR:=aa (Snd.rcv h HS0.out hW1 rfl)
  have z3:=(hb1.cell (p:=⟨L.b,3,none⟩) h.box.lt).trans c3
  have e3:W1.frozen? ⟨L.b,3,none⟩=false:=(hb1.frozen (p:=⟨L.b,3,none⟩) h.box.lt).trans (h.free 3)
  clear hch hbw hW1 hb1 c3' hcp htk hlen
  refine wpN_seq_o fun K hK => ?_
  go_wp2
  refine wpN_seq_o fun K hK => ?_
  go_wp2
  refine wpN_seq_o fun K hK => ?_
  go_wp2
  refine wpN_block (wpN_loop (fun j a wr=>(∃y9 y48 y49 y50 y51 y52 y53 y54 y55 y56 y57:Value,a={ tmps := #[.pointer (some ⟨L.b,0,none⟩), .int .i64 (keep:Int), .bool torn,undef,undef,undef, .chan (some w.heap.size),x7,x8,y9, .int .i64 (keep:Int), .chan (some w.heap.size), .pointer (some ⟨L.b,0,none⟩), .pointer (some ⟨L.b,0,none⟩), .pointer (some ⟨L.b,3,none⟩), .slice L.A D.waits.length L.cp, .int .i64 (keep:Int), .slice L.A keep L.cp, .int .i64 (keep:Int), .int .i64 (keep:Int), .bool false,x21,x22,x23,x24,x25,x26,x27,x28,x29,x30,x31,x32,x33,x34,x35,x36,x37,x38,x39,x40,x41,x42, .chan (some w.heap.size), .pointer (some ⟨L.b,0,none⟩), .pointer (some ⟨L.b,0,none⟩), .pointer (some ⟨L.b,3,none⟩), .chan (some w.heap.size),y48,y49,y50,y51,y52,y53,y54,y55,y56,y57],defers:=[] })/\∃K,Rcv w L D keep torn j wr K) keep ?first2 ?last2 ?round2)
  case first2=>exact ⟨⟨undef,undef,undef,undef,undef,undef,undef,undef,undef,undef,undef,rfl⟩,_,HR.out⟩
  case last2 =>
   rintro a wr2 ⟨⟨y9,y48,y49,y50,y51,y52,y53,y54,y55,y56,y57,rfl⟩,K,HR2⟩
   refine wpN_seq_k fun K3 hK3 => ?_
   refine wpN_region ?_
   have hch:=HR2.ch
   rw [List.drop_of_length_le (by rw [fu h keep torn hk];exact Nat.le_refl _)] at hch
   refine wpNOps_shut (i:=0) (rest:=[1]) 419 (.tmp 47) rfl rfl rfl _ _ _ Tryz.underlying419 (xq wr2) w.heap.size keep keep keep false rfl hch ?_
   simp only [Act.put,List.setIfInBounds_toArray,List.set_cons_zero,List.set_cons_succ]
   refine wpNOps_value (i:=1) (rest:=[]) (.bool false) _ rfl rfl (by go_simp <;> rfl) ?_
   refine wpNOps_nil ?_
   refine hK3 _ _ ?_
   clear hK3 K3
   simp only [Act.put,List.setIfInBounds_toArray,List.set_cons_zero,List.set_cons_succ]
   refine wpN_off rfl (inb2 ?_)
   refine ⟨rfl,_,results_none rfl _ _ _,rfl,?_⟩
   refine ⟨{ L with A:=none,cp:=0,G:=[],K:=K },rfl,?_,HR2.c,fun k hk' => ?_⟩
   ·have hd:=HR2.d
    rw [xu keep torn hk] at hd
    exact hd
   ·rcases hk' with e|e | ⟨o,s,e⟩ | ⟨i,e⟩ | ⟨p,hp,_⟩
    ·exact .inl (.inl e)
    ·exact .inl (.inr (.inl e))
    ·cases e
    ·rcases HR2.hs i k e with e'|e'
     ·exact .inl (.inr (.inr (.inr (.inl ⟨i,e'⟩))))
     ·exact .inr e'
    ·simp at hp
  case round2 =>
   rintro j a wr2 hj ⟨⟨y9,y48,y49,y50,y51,y52,y53,y54,y55,y56,y57,rfl⟩,K,HR2⟩
   obtain ⟨p,q,hp,hq,hsv⟩:=oW h keep torn hj hk
   obtain ⟨v1,v2,v3⟩:=xt hsv
   refine wpN_seq_k fun K3 hK3 => ?_
   refine wpN_region ?_
   refine wpNOps_recv (i:=0) (rest:=[1]) 419 (.tmp 47) rfl rfl rfl _ _ _ Tryz.underlying419 (xq wr2) w.heap.size keep keep j false true _ rfl HR2.ch v2 ?_
   rw [v1,v3]
   simp only [Act.put,List.setIfInBounds_toArray,List.set_cons_zero,List.set_cons_succ]
   refine wpNOps_value (i:=1) (rest:=[]) (.bool true) _ rfl rfl (by go_simp <;> rfl) ?_
   refine wpNOps_nil ?_
   refine hK3 _ _ ?_
   clear hK3 K3 v1 v2 v3
   simp only [Act.put,List.setIfInBounds_toArray,List.set_cons_zero,List.set_cons_succ]
   refine wpN_on rfl ?_
   refine wpN_block ?_
   obtain ⟨W2,hW2⟩:∃W2,wr2.setChan w.heap.size keep ((gA L D keep torn).drop (j+1)).toArray true keep (j+1) false=W2:=⟨_,rfl⟩
   rw [hW2]
   obtain ⟨c,hc⟩:∃c,cutW D.n keep torn j q=c:=⟨_,rfl⟩
   obtain ⟨pg,pc⟩:=p
   obtain ⟨cs,cl⟩:=c
   rw [hc,sentV]
   refine wpN_seq_o fun K hK => ?_
   go_wp2
   refine wpN_of ?_
   have hwq:=h.ok.ws q (List.mem_of_getElem? hq)
   have hcs:cs=q.1:=by
    have:=rh D.n keep torn j q
    rw [hc] at this
    exact this
   have hcl:cl.length<=D.n:=by
    have:=l0 (n:=D.n) (keep:=keep) (torn:=torn) (j:=j) hwq.2
    rwa [hc] at this
   have hpre:bv cl=(bv q.2).take cl.length:=by
    have:=zT D.n keep torn j q
    rw [hc] at this
    rw [<- ev,<- this]
   have hlt:=(Array.getElem?_eq_some_iff.1 HR2.ch).1
   have hsz2:W2.heap.size=wr2.heap.size:=by
    rw [<- hW2]
    exact size_setChan _ _ _ _ _ _ _ _
   obtain ⟨W4,hW4⟩:∃W4,W2.alloc (.cells #[.int .i64 (cs:Int), .slice (some ⟨pg,0,none⟩) cl.length pc] 299)=W4:=⟨_,rfl⟩
   have h4:∀k,k<wr2.heap.size->k≠w.heap.size->W4.heap[k]?=wr2.heap[k]?:=fun k hk1 hne=>by
    rw [<- hW4,Below.heap_alloc _ _ _ (by omega),<- hW2]
    simp [World.setChan,Array.getElem?_setIfInBounds_ne (Ne.symm hne)]
   have h4c:W4.heap[w.heap.size]?=some (.chan keep ((gA L D keep torn).drop (j+1)).toArray true keep (j+1) false):=by
    rw [<- hW4,Below.heap_alloc _ _ _ (by omega),<- hW2]
    exact heap_setChan _ _ _ _ _ _ _ _ hlt
   have h4b:Chg (fun k=>k=w.heap.size) wr2 W4:=⟨by rw [<- hW4,<- hW2];rfl,by rw [<- hW4,<- hW2];rfl,by rw [<- hW4,<- hW2];rfl,by rw [<- hW4,World.size_alloc];omega,h4⟩
   have hd4:DiskAt W4.drew { L with A:=none,cp:=0,G:=[],K:=K } { D with kept:=kt D keep torn j,waits:=[] }:=HR2.d.stay fun k hk'=>h4 k (HR2.d.lt hk') (fun e=>HR2.d.noChan HR2.ch (e ▸ hk'))
   have HLA:=aa (pW hd4 cs (by rw [hcs];exact hwq.1))
   have hrow:=HR2.r j _ q hp hq
   have hpl:=(h.wt j _ q hp hq).1.lt
   have hpm:pg≠L.m:=fun e=>by
    obtain ⟨es,k,em⟩:=h.map.is
    obtain ⟨cur,hx⟩:=h.kG (List.mem_of_getElem? hp)
    exact cj hx em e
   have hr4:RowIs W4 pg q.2:=hrow.stay12 (h4 pg hrow.lt (fun e=>by simp only at hpl;omega))
   have hp4:pg<W4.heap.size:=hr4.lt
   have hsee:∀u:World,u.heap[pg]?=W4.heap[pg]?->Sees u u.heap.size (some ⟨pg,0,none⟩) (bv cl):=fun u hu=>by
    rw [hpre]
    exact Sees.take (hr4.stay12 hu).sees _
   have HX0:=aa (show BoxAt W4.drew W2.heap.size #[.int .i64 (cs:Int), .slice (some ⟨pg,0,none⟩) cl.length pc] 299 from by
    rw [<- hW4]
    exact BoxAt.new W2 _ _)
   have HSE:=aa hsee
   have H4:=aa h4
   have H4C:=aa h4c
   have H4B:=aa h4b
   have HRR:=aa HR2
   have HC:=aa hc
   have HQ:=aa hq
   have hbm:W2.heap.size≠L.m:=by
    have:=h.map.lt
    omega
   have hW24:W2.heap.size<W4.heap.size:=by rw [<- hW4,World.size_alloc];omega
   rw [hW4]
   clear hwq hcs hpre hlt hsz2 hW4 h4 h4c h4b hd4 hsee HR2 hc hq hp hsv hW2 hrow hpl hr4
   go_region_held_law (fun u=>Hid (BoxAt u W2.heap.size #[.int .i64 (cs:Int), .slice (some ⟨pg,0,none⟩) cl.length pc] 299)/\(∀i:Nat,u.cell? ⟨W2.heap.size,i,none⟩=(#[.int .i64 (cs:Int), .slice (some ⟨pg,0,none⟩) cl.length pc] : Array Value)[i]?))
    (first|exact ⟨HX0,HX0.out.cell⟩|exact ⟨HX1,HX1.out.cell⟩|exact ⟨HX2,HX2.out.cell⟩)
    (first|(go_simp;go_at_call 351;refine HLA.out.mono ?_;rintro en w5 hl;(obtain ⟨K',g,rfl,hK',hd5,hc5,_,hs5⟩:=hl);(obtain ⟨cur,hcur,htk⟩:=(hd5.keep cs g hK').2);(obtain ⟨w6,hcp6,hrow6,hg6,_⟩:=cB (P:=Tryz.prog) w5 50 50 3 5 Tryz.underlying50 ld g D.n D.n w5.heap.size (some ⟨pg,0,none⟩) cl.length pc cur 5 hcur (bv cl) (bv_length cl) hcl (xv htk (hd5.ok.k cs) hcl) (bD cl) (HSE.out w5 (hc5.block pg hp4 hpm)));(have HX1:=aa (show BoxAt w5 W2.heap.size #[.int .i64 (cs:Int), .slice (some ⟨pg,0,none⟩) cl.length pc] 299 from (hc5.block _ hW24 hbm).trans HX0.out));(have HX2:=aa (show BoxAt w6 W2.heap.size #[.int .i64 (cs:Int), .slice (some ⟨pg,0,none⟩) cl.length pc] 299 from (hg6.block _ HX1.out.lt (fun e=>by injection e with e;exact aN HX1.out hcur (by decide) e)).trans HX1.out));(have HK5:=aa hK');(have HD5:=aa hd5);(have HC5:=aa hc5);(have HS5:=aa hs5);(have HT5:=aa htk);(have HR6:=aa hrow6);(have HG6:=aa hg6);clear hK' hd5 hc5 hs5 htk hrow6 hg6 hcur)|(refine nt (by rfl) _ _ 50 3 rfl rfl _ _ (by rfl) (by rfl) hcp6 ?_))
   refine ⟨⟨_,_,_,_,_,_,_,_,_,_,_,rfl⟩,K',?_⟩
   have hd5:=HD5.out
   refine HRR.out.next h hj HQ.out H4.out H4C.out H4B.out hd5 (w4:=W4) ⟨HC5.out.os,HC5.out.tape,HC5.out.output,HC5.out.size,HC5.out.block⟩ HS5.out (by rw [HC.out];exact HK5.out) HG6.out ?_
   rw [HC.out]
   exact tM HT5.out (by rw [show (kt D keep torn j cs).length=D.n from hd5.ok.k cs];exact hcl) HR6.out
 case round =>
  rintro j a wr hj ⟨⟨x7,x8,x20,x21,x22,x23,x24,x25,x26,x27,x28,x29,x30,x31,x32,x33,x34,x35,x36,x37,x38,x39,x40,x41,x42,rfl⟩,HS⟩
  have HS:=aa HS
  obtain ⟨hbw,hch⟩:=HS.out
  obtain ⟨b,off,hA,hb,_,hcs⟩:=h.wj_cells (by omega)
  obtain ⟨p,q,hp,hq,hsv⟩:=oW h keep torn hj hk
  obtain ⟨p',hp',ewj,_⟩:=h.wj hq
  obtain rfl:p=p':=by
   rw [hp] at hp'
   injection hp'
  have q0:=(hbw.cell (p:=⟨b,off+j * 2,none⟩) hb).trans (hcs j (by omega)).1
  have q1:=(hbw.cell (p:=⟨b,off+j * 2+1,none⟩) hb).trans (hcs j (by omega)).2
  rw [ewj] at q0 q1
  simp only at q0 q1
  have HCH:=aa hch
  have HSV:=aa hsv
  have HBW:=aa hbw
  have r0:=(hbw.cell (p:=⟨L.b,0,none⟩) h.box.lt).trans h.c0
  have hwr:=hbw.size
  obtain ⟨qs,ql⟩:=q
  obtain ⟨pg,pc⟩:=p
  have hql:ql.length=D.n:=(h.ok.ws _ (List.mem_of_getElem? hq)).2
  have hpc:ql.length<=pc:=(h.wt j _ _ hp hq).2.1
  simp only at q0 q1
  have HA:=aa hA
  have HQ:=aa hq
  have HP:=aa hp
  clear hcs ewj hp' hch hsv hbw hp hq
  simp only [hA]
  clear hA
  refine wpN_seq_o fun K hK => ?_
  go_wp2
  refine wpN_on rfl ?_
  refine wpN_seq_k fun K2 hK2 => ?_
  refine wpN_block ?_
  refine wpN_seq_o fun K hK => ?_
  go_wp2
  refine wpN_seq_o fun K hK => ?_
  obtain ⟨kp,hkp⟩:∃kp,keep=kp+1:=⟨keep - 1,by omega⟩
  have hwk:IntKind.i64.wrap ((keep:Int) - 1)=(kp:Int):=by rw [IntKind.wrap_i64];omega
  have HKP:=aa hkp
  clear hkp
  have bX:=BoxAt.new wr #[.int .i64 (qs:Int), .slice (some ⟨pg,0,none⟩) D.n pc] 299
  have BX:=aa bX
  have y0:=bX.cell 0
  have y1:=bX.cell 1
  have g1:=bX.free9 1
  simp only [List.getElem?_toArray,List.getElem?_cons_zero,List.getElem?_cons_succ] at y0 y1
  clear bX
  by_cases ht:torn=true
  ·subst ht
   by_cases hjk:j=kp
   ·subst hjk
    obtain ⟨hf,hhf⟩:∃hf,D.n / 2=hf:=⟨_,rfl⟩
    have hdiv:(D.n:Int).tdiv 2=(hf:Int):=by
     rw [Int.tdiv_eq_ediv_of_nonneg (by omega)]
     omega
    have hwf:IntKind.i64.wrap (hf:Int)=(hf:Int):=by
     have:=h.ok.n2
     rw [IntKind.wrap_i64]
     omega
    have hle:hf<=pc:=by omega
    have hrd:(wr.alloc (.cells #[.int .i64 (qs:Int), .slice (some ⟨pg,0,none⟩) D.n pc] 299)).cell? ⟨L.b,0,none⟩=some (.int .i64 (D.n:Int)):=(World.cell?_of_block (Below.heap_alloc wr _ _ (Nat.lt_of_lt_of_le h.box.lt hwr))).trans r0
    go_wp2
    go_region
    go_wp2
    refine wpN_region ?_
    refine wpNOps_value (i:=0) (rest:=[1,2]) (.chan (some w.heap.size)) _ rfl rfl rfl ?_
    simp only [Act.put,List.setIfInBounds_toArray,List.set_cons_zero,List.set_cons_succ]
    refine wpNOps_value (i:=1) (rest:=[2]) (.agg #[.int .i64 (qs:Int), .slice (some ⟨pg,0,none⟩) hf pc]) _ rfl rfl (by go_simp <;> rfl) ?_
    simp only [Act.put,List.setIfInBounds_toArray,List.set_cons_zero,List.set_cons_succ]
    have HC:=show (wr.alloc (.cells #[.int .i64 (qs:Int), .slice (some ⟨pg,0,none⟩) hf pc] 299)).drew.heap[w.heap.size]?=_ from (Below.heap_alloc wr (.cells #[.int .i64 (qs:Int), .slice (some ⟨pg,0,none⟩) hf pc] 299) _ (Nat.lt_of_lt_of_le (Array.getElem?_eq_some_iff.1 HCH.out).1 (Nat.le_refl _))).trans HCH.out
    have HB:=(HBW.out.alloc hwr (.cells #[.int .i64 (qs:Int), .slice (some ⟨pg,0,none⟩) hf pc] 299)).drew
    refine wpNOps_send (i:=2) (rest:=[]) (.tmp 40) (.tmp 41) rfl rfl rfl w.heap.size keep j 0 false _ _ rfl rfl HC (by rw [List.size_toArray,List.length_take,fu h _ _ hk];omega) ?_
    refine wpNOps_nil ?_
    refine hK2 _ _ ?_
    clear hK2 K2
    simp only [Act.put,List.setIfInBounds_toArray,List.set_cons_zero,List.set_cons_succ]
    refine wpN_of ?_
    have hwj:IntKind.i64.wrap ((j:Int)+1)=(j:Int)+1:=by rw [IntKind.wrap_i64];omega
    go_wp2
    refine ⟨?_,?_⟩
    ·exact ⟨_,_,_,_,_,_,_,_,_,_,_,_,_,_,_,_,_,_,_,_,_,_,_,_,_,rfl⟩
    ·refine ⟨below_setChan HB (Nat.le_refl _) _ _ _ _ _ _,?_⟩
     rw [heap_setChan _ _ _ _ _ _ _ _ (Array.getElem?_eq_some_iff.1 HC).1,ks HSV.out]
     rw [cutW,if_pos ⟨rfl,HKP.out.symm⟩,sentV,hhf,List.length_take,hql,Nat.min_eq_left (by omega)];simp
   ·have hne:((j:Int) == (kp:Int))=false:=beq_eq_false_iff_ne.2 (by omega)
    go_wp2
    refine wpN_region ?_
    refine wpNOps_value (i:=0) (rest:=[1,2]) (.chan (some w.heap.size)) _ rfl rfl rfl ?_
    simp only [Act.put,List.setIfInBounds_toArray,List.set_cons_zero,List.set_cons_succ]
    refine wpNOps_value (i:=1) (rest:=[2]) (.agg #[.int .i64 (qs:Int), .slice (some ⟨pg,0,none⟩) D.n pc]) _ rfl rfl (by go_simp <;> rfl) ?_
    simp only [Act.put,List.setIfInBounds_toArray,List.set_cons_zero,List.set_cons_succ]
    have HC:=(Below.heap_alloc wr (.cells #[.int .i64 (qs:Int), .slice (some ⟨pg,0,none⟩) D.n pc] 299) _ (Nat.lt_of_lt_of_le (Array.getElem?_eq_some_iff.1 HCH.out).1 (Nat.le_refl _))).trans HCH.out
    have HB:=HBW.out.alloc hwr (.cells #[.int .i64 (qs:Int), .slice (some ⟨pg,0,none⟩) D.n pc] 299)
    refine wpNOps_send (i:=2) (rest:=[]) (.tmp 40) (.tmp 41) rfl rfl rfl w.heap.size keep j 0 false _ _ rfl rfl HC (by rw [List.size_toArray,List.length_take,fu h _ _ hk];omega) ?_
    refine wpNOps_nil ?_
    refine hK2 _ _ ?_
    clear hK2 K2
    simp only [Act.put,List.setIfInBounds_toArray,List.set_cons_zero,List.set_cons_succ]
    refine wpN_of ?_
    have hwj:IntKind.i64.wrap ((j:Int)+1)=(j:Int)+1:=by rw [IntKind.wrap_i64];omega
    go_wp2
    refine ⟨?_,?_⟩
    ·exact ⟨_,_,_,_,_,_,_,_,_,_,_,_,_,_,_,_,_,_,_,_,_,_,_,_,_,rfl⟩
    ·refine ⟨below_setChan HB (Nat.le_refl _) _ _ _ _ _ _,?_⟩
     rw [heap_setChan _ _ _ _ _ _ _ _ (Array.getElem?_eq_some_iff.1 HC).1,ks HSV.out]
     rw [cutW,if_neg (fun h=>hjk (by have:=HKP.out;have:=h.2;omega)),sentV,hql];simp
  ·obtain rfl:torn=false:=by simpa using ht
   go_wp2
   refine wpN_region ?_
   refine wpNOps_value (i:=0) (rest:=[1,2]) (.chan (some w.heap.size)) _ rfl rfl rfl ?_
   simp only [Act.put,List.setIfInBounds_toArray,List.set_cons_zero,List.set_cons_succ]
   refine wpNOps_value (i:=1) (rest:=[2]) (.agg #[.int .i64 (qs:Int), .slice (some ⟨pg,0,none⟩) D.n pc]) _ rfl rfl (by go_simp <;> rfl) ?_
   simp only [Act.put,List.setIfInBounds_toArray,List.set_cons_zero,List.set_cons_succ]
   have HC:=(Below.heap_alloc wr (.cells #[.int .i64 (qs:Int), .slice (some ⟨pg,0,none⟩) D.n pc] 299) _ (Nat.lt_of_lt_of_le (Array.getElem?_eq_some_iff.1 HCH.out).1 (Nat.le_refl _))).trans HCH.out
   have HB:=HBW.out.alloc hwr (.cells #[.int .i64 (qs:Int), .slice (some ⟨pg,0,none⟩) D.n pc] 299)
   refine wpNOps_send (i:=2) (rest:=[]) (.tmp 40) (.tmp 41) rfl rfl rfl w.heap.size keep j 0 false _ _ rfl rfl HC (by rw [List.size_toArray,List.length_take,fu h _ _ hk];omega) ?_
   refine wpNOps_nil ?_
   refine hK2 _ _ ?_
   clear hK2 K2
   simp only [Act.put,List.setIfInBounds_toArray,List.set_cons_zero,List.set_cons_succ]
   refine wpN_of ?_
   have hwj:IntKind.i64.wrap ((j:Int)+1)=(j:Int)+1:=by rw [IntKind.wrap_i64];omega
   go_wp2
   refine ⟨?_,?_⟩
   ·exact ⟨_,_,_,_,_,_,_,_,_,_,_,_,_,_,_,_,_,_,_,_,_,_,_,_,_,rfl⟩
   ·refine ⟨below_setChan HB (Nat.le_refl _) _ _ _ _ _ _,?_⟩
    rw [heap_setChan _ _ _ _ _ _ _ _ (Array.getElem?_eq_some_iff.1 HC).1,ks HSV.out]
    rw [cutW,if_neg (by simp),sentV,hql];simp
end
open Go.RowKit

section
variable {w w0 w' : World} {L : Lay} {D : Dk}
theorem Does.open12 (h:Does L w0 w D):∃L',L'.b=L.b/\DiskAt w L' D/\∀w' D',Does L' w w' D'->Does L w0 w' D':=by
 obtain ⟨L',eb,hd,hc,hs⟩:=h
 exact ⟨L',eb,hd,fun w' D' h2=>Does.trans hc hs eb h2⟩
theorem xw {L':Lay} (eb:L'.b=L.b) (h:DiskAt w L' D) (keep:Nat) (torn:Bool) (hk:keep<=D.waits.length) :
  Calls Tryz.prog 341 #[.pointer (some ⟨L.b,0,none⟩), .int .i64 (keep:Int), .bool torn] w fun e w'=>e = .returned (.tuple #[])/\Does L' w w' (decideD D keep torn):=by
 rw [<- eb]
 exact tN h keep torn hk

def DX (L:Lay) (D:Dk) (w:World) (e:Ending) (w':World):Prop:=e = .returned (.int .i64 (kS D))/\Does L w w' (gn D)

theorem zU (h:DiskAt w L D):Calls Tryz.prog 325 #[.pointer (some ⟨L.b,0,none⟩)] w (DX L D w):=by
 have H:=aa h
 by_cases ht:D.on=true
 ·have HA:=aa (show Calls Tryz.prog 218 #[.pointer (some ⟨L.b,0,none⟩)] w fun e w'=>e = .returned (.int .i64 0)/\w=w' from by
   have:=eM h
   rwa [if_pos ht] at this)
  by_cases hbu:dh D=true
  ·have HB:=aa (show Calls Tryz.prog 340 #[.pointer (some ⟨L.b,0,none⟩)] w fun e w'=>e = .returned (.int .i64 8)/\Does L w w' (burnD D) from by
    have:=mv h
    rwa [if_pos hbu] at this)
   have e1:kS D=8:=by rw [kS,if_pos ht,if_pos hbu]
   have e2:gn D=burnD D:=by rw [gn,if_pos ht,if_pos hbu]
   have E1:=aa e1
   have E2:=aa e2
   clear h ht hbu e1 e2
   go_enter Tryz.func325,Tryz.ntmps325
   go_wp2_with (first|(go_at_call 218;refine HA.out.mono ?_;rintro e w1 ⟨rfl,rfl⟩)|(go_at_call 340;refine HB.out.mono ?_;rintro e w1 ⟨rfl,hd⟩))
   go_ret
   exact ⟨by rw [E1.out];rfl,by rw [E2.out];exact hd⟩
  ·have HB:=aa (show Calls Tryz.prog 340 #[.pointer (some ⟨L.b,0,none⟩)] w fun e w'=>e = .returned (.int .i64 0)/\Does L w w' (burnD D) from by
    have:=mv h
    rwa [if_neg hbu] at this)
   have e1:kS D=0:=by rw [kS,if_pos ht,if_neg hbu]
   have e2:gn D=decideD (burnD D) D.waits.length false:=by rw [gn,if_pos ht,if_neg hbu]
   have ew:=jS D
   have E1:=aa e1
   have E2:=aa e2
   have EW:=aa ew
   clear h ht hbu e1 e2 ew
   go_enter Tryz.func325,Tryz.ntmps325
   go_wp2_with (first|(go_at_call 218;refine HA.out.mono ?_;rintro e w1 ⟨rfl,rfl⟩)|(go_at_call 340;refine HB.out.mono ?_;rintro e w1 ⟨rfl,hd⟩;(obtain ⟨L',eb,hd1,ht1⟩:=hd.open12);(have q3:=hd1.c3);(rw [eb,EW.out] at q3);(have HD:=aa (xw eb hd1 D.waits.length false (by rw [EW.out];exact Nat.le_refl _)));(have HT:=aa ht1);clear hd hd1 ht1)|(go_at_call 341;refine HD.out.mono ?_;rintro e w2 ⟨rfl,hd2⟩))
   go_ret
   exact ⟨by rw [E1.out];rfl,by rw [E2.out];exact HT.out _ _ hd2⟩
 ·have HA:=aa (show Calls Tryz.prog 218 #[.pointer (some ⟨L.b,0,none⟩)] w fun e w'=>e = .returned (.int .i64 8)/\w=w' from by
   have:=eM h
   rwa [if_neg ht] at this)
  have e1:kS D=8:=by rw [kS,if_neg ht]
  have e2:gn D=D:=by rw [gn,if_neg ht]
  have E1:=aa e1
  have E2:=aa e2
  clear h ht e1 e2
  go_enter Tryz.func325,Tryz.ntmps325
  go_wp2_with (go_at_call 218;refine HA.out.mono ?_;rintro e w1 ⟨rfl,rfl⟩)
  go_ret
  exact ⟨by rw [E1.out];rfl,by rw [E2.out];exact Does.of_stay H.out (Below.refl _ _)⟩

end
end Go.Proofs.YtnkjdijbfnmnhaaGreat
