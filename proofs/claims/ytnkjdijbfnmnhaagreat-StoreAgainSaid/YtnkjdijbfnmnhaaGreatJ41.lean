/-
  Texts of this claim put together: Sec6, Sec7.
-/
import Derived.Test.YtnkjdijbfnmnhaaGreatJ40
import Derived.Test.YtnkjdijbfnmnhaaGreatJ12
import Derived.Deep.RegionLaw

namespace Go.Proofs.YtnkjdijbfnmnhaaGreat
open Go.RowKit

section
variable {w w0 : World} {L : Lay} {D : Dk}

def E0 (D:Dk):Int:=if dh D=true then 8 else 0
theorem Ca (h:Does L w0 w D):Calls Tryz.prog 340 #[.pointer (some ⟨L.b,0,none⟩)] w fun e w'=>e = .returned (.int .i64 (E0 D))/\Does L w0 w' (burnD D):=by
 obtain ⟨L',eb,hd,hc,hs⟩:=h
 rw [<- eb]
 exact (mv hd).mono fun e w' ⟨h1,h2⟩=>⟨h1,Does.trans hc hs eb h2⟩

theorem jd (h:DiskAt w L D) (hn:D.waits.length+1<=1000000) {w1:World} (hb:Below w.heap.size w w1) (i m g cp:Nat) :
  ∃A' c' w2,(∀ty,(Builtin.append_ #[133,133] ty #[.slice L.A D.waits.length L.cp, .slice (some ⟨w1.heap.size,0,none⟩) 1 1]).run Tryz.prog (w1.alloc (.cells #[.int .i64 (i:Int), .slice (some ⟨g,0,none⟩) m cp] 299)) = .ok (.slice A' (D.waits.length+1) c') w2) /\
   w2.ownsRow 0 299 2 (.slice A' (D.waits.length+1) c') (D.waits.length+1) (wcs L.G D.waits++[.int .i64 (i:Int), .slice (some ⟨g,0,none⟩) m cp])/\w1.grownBy w2 (Value.slice L.A D.waits.length L.cp).ownBlock /\
   ((Value.slice A' (D.waits.length+1) c').ownBlock=(Value.slice L.A D.waits.length L.cp).ownBlock∨∃b,w1.heap.size<=b/\(Value.slice A' (D.waits.length+1) c').ownBlock=some b) /\
   w2.cell? ⟨L.b,3,none⟩=some (.slice L.A D.waits.length L.cp)/\w2.frozen? ⟨L.b,3,none⟩=false:=by
 have h1:DiskAt w1 L D:=h.below hb
 have hown:=h1.row.alloc (.cells #[.int .i64 (i:Int), .slice (some ⟨g,0,none⟩) m cp] 299)
 obtain ⟨A',c',w2,h1a,h2,h3,h4⟩:=ji (P:=Tryz.prog) (w1.alloc (.cells #[.int .i64 (i:Int), .slice (some ⟨g,0,none⟩) m cp] 299)) 0 133 299 (.agg #[.int .i64 0, .slice none 0 0]) 2 32 B8 rfl (by omega) Tryz.underlying133
  L.A D.waits.length L.cp _ hown (w1.heap.size+1) (some ⟨w1.heap.size,0,none⟩) 1 1 [.int .i64 (i:Int), .slice (some ⟨g,0,none⟩) m cp] rfl (dm w1 _ _ _ rfl) (fun u hu=>by simp at hu;rcases hu with rfl|rfl <;> rfl) hn (by omega) (Nat.zero_le _)
 have hg:=ag (World.grownBy_alloc w1 (.cells #[.int .i64 (i:Int), .slice (some ⟨g,0,none⟩) m cp] 299) (Value.slice L.A D.waits.length L.cp).ownBlock) h3
 have hbx:BoxAt w2 L.b (dcs L D) 135:=h1.box.grown9 (by decide) h1.row hg
 refine ⟨A',c',w2,h1a,h2,hg,?_,hbx.cell 3,hbx.free9 3⟩
 rcases h4 with h4|h4
 ·exact .inl h4
 ·exact .inr ⟨_,by simp,h4⟩

def DU (L:Lay) (D:Dk) (i:Int) (l:List UInt8) (w:World) (e:Ending) (w':World):Prop:=e = .returned (.int .i64 (errD D i l.length))/\Does L w w' (dj D i l)

set_option maxRecDepth 100000 in
theorem DV (h:DiskAt w L D) (i:Int) (l:List UInt8) (B:Nat) (A:Option Addr) (m c:Nat) (hs:Sees w B A (bv l)) (hm:l.length=m) (hB:B<=w.heap.size) (hn:D.waits.length+1<=100000) (hm9:m<=1000000) :
  Calls Tryz.prog 324 #[.pointer (some ⟨L.b,0,none⟩), .int .i64 i, .slice A m c] w (DU L D i l w):=by
 have H:=aa h
 have c0:=h.c0
 have c3:=h.c3
 by_cases hr:cF D i=0
 ·have HR:=aa (show Calls Tryz.prog 148 #[.pointer (some ⟨L.b,0,none⟩), .int .i64 i] w fun e w'=>e = .returned (.int .i64 0)/\w=w' from by
   have:=dC h i
   rwa [hr] at this)
  have HRR:=aa hr
  by_cases hl:l.length=D.n
  ·have hb:0<=i/\i<D.c:=by
    unfold cF at hr
    split at hr
    ·split at hr
     ·assumption
     ·cases hr
    ·cases hr
   obtain ⟨k,rfl⟩:∃k:Nat,i=(k:Int):=⟨i.toNat,by omega⟩
   have HK:=aa (show k<D.c by omega)
   have HL:=aa hl
   have hmn:m=D.n:=by omega
   subst hmn
   have n1:=h.ok.n1
   have n2:=h.ok.n2
   have f3:=h.free 3
   have HC:=aa (lF l B A D.n c w.drew hs hl (by omega) hB (by omega))
   have HN:=aa hn
   have hwn:D.waits.length+1<=1000000:=by omega
   clear h hr hb hl hs hm hn
   go_enter Tryz.func324,Tryz.ntmps324
   go_wp2_with (go_at_call 148;refine HR.out.mono ?_;rintro e w1 ⟨rfl,rfl⟩)
   go_region_law (first|(go_simp;go_at_call 339;refine HC.out.mono ?_;rintro en w1 ⟨g,cp,rfl,hg,hr1,hcp,hb0⟩;(have hb1:=Below.of_drew hb0);(have HC3:w1.cell? ⟨L.b,3,none⟩=some (.slice L.A D.waits.length L.cp):=(hb1.cell (p:=⟨L.b,3,none⟩) H.out.box.lt).trans c3);(have HC4:(w1.alloc (.cells #[.int .i64 (k:Int), .slice (some ⟨g,0,none⟩) D.n cp] 299)).cell? ⟨L.b,3,none⟩=some (.slice L.A D.waits.length L.cp):=(World.cell?_of_block (Below.heap_alloc w1 _ _ (Nat.lt_of_lt_of_le H.out.box.lt hb1.size))).trans HC3);(have HF3:w1.frozen? ⟨L.b,3,none⟩=false:=(hb1.frozen (p:=⟨L.b,3,none⟩) H.out.box.lt).trans f3);(obtain ⟨A',c',w2,hap,hown2,hg2,hloc2,hC,hF⟩:=jd H.out (by omega) hb1 k D.n g cp);(have HG:=aa hg);(have HR1:=aa hr1);(have HCP:=aa hcp);(have HB1:=aa hb1);(have HO2:=aa hown2);(have HG2:=aa hg2);(have HL2:=aa hloc2);clear hg hr1 hcp hb0 hb1 hown2 hg2 hloc2)|(refine dX (by rfl) _ _ 133 rfl _ _ (by rfl) (by rfl) hap ?_))
   all_goals
    have HD:=aa (H.out.append HK.out HL.out (by rw [HL.out];exact HCP.out) HN.out HG.out HB1.out HR1.out (by rw [HL.out];exact HO2.out) HG2.out HL2.out rfl)
    clear HC hap HO2 HG2 HL2 HC3 HC4 HF3 HR hC hF
    go_wp2_with (refine (Ca HD.out).mono ?_;rintro en w4 ⟨rfl,hdo⟩)
    go_ret
    refine ⟨?_,?_⟩
    ·rw [errD,if_pos HRR.out,if_pos HL.out]
     rfl
    ·rw [dj,if_pos HRR.out,if_pos HL.out]
     exact hdo
  ·have e1:errD D i l.length=3:=by rw [errD,if_pos hr,if_neg hl]
   have e2:dj D i l=D:=by rw [dj,if_pos hr,if_neg hl]
   have hne:((m:Int) == (D.n:Int))=false:=beq_eq_false_iff_ne.2 (by omega)
   have E1:=aa e1
   have E2:=aa e2
   clear h hr hl hs hm hn e1 e2
   go_enter Tryz.func324,Tryz.ntmps324
   go_wp2_with (go_at_call 148;refine HR.out.mono ?_;rintro e w1 ⟨rfl,rfl⟩)
   go_ret
   exact ⟨by rw [E1.out];rfl,by rw [E2.out];exact Does.of_stay H.out (Below.refl _ _)⟩
 ·have e1:errD D i l.length=cF D i:=by rw [errD,if_neg hr]
  have e2:dj D i l=D:=by rw [dj,if_neg hr]
  have HR:=aa (dC h i)
  have hne:(cF D i == 0)=false:=beq_eq_false_iff_ne.2 hr
  have E1:=aa e1
  have E2:=aa e2
  obtain ⟨r,hrr⟩:∃r,cF D i=r:=⟨_,rfl⟩
  rw [hrr] at HR hne E1
  clear h hr hs hm hn e1 e2 hrr
  go_enter Tryz.func324,Tryz.ntmps324
  go_wp2_with (go_at_call 148;refine HR.out.mono ?_;rintro e w1 ⟨rfl,rfl⟩)
  go_ret
  exact ⟨by rw [E1.out];rfl,by rw [E2.out];exact Does.of_stay H.out (Below.refl _ _)⟩
end

section
variable {w w' : World} {L : Lay} {D : Dk}

theorem DiskAt.rowset (h:DiskAt w L D) {i g:Nat} {l':List UInt8} (hK:L.K i=some g) (hg:w.grownBy w' (some g)) (hr:RowIs w' g l') (hl:l'.length=D.n) {D':Dk} (hD:D'={ D with kept:=fun j=>if j=i then l' else D.kept j }):DiskAt w' L D':=by
 subst hD
 have hbox:=h.box
 unfold BoxAt at hbox
 obtain ⟨cg,hcg⟩:=h.kK hK
 obtain ⟨es,k,em⟩:=h.map.is
 have hoth:∀k ob,w.heap[k]?=some ob->k≠g->w'.heap[k]?=w.heap[k]?:=fun k ob hk hne=>hg.block k (Array.getElem?_eq_some_iff.1 hk).1 fun e=>hne (by injection e)
 exact {
  box:=(hoth _ _ hbox (aN hbox hcg (by decide))).trans hbox
  map:=h.map.stay (hoth _ _ em (fun e=>cj hcg em e.symm))
  row:=ca h.row fun k o s e=>by
   obtain ⟨cur,hx⟩:=h.kA e
   exact hoth _ _ hx (aN hx hcg (by decide))
  len:=h.len
  keep:=fun j g' e=>by
   by_cases hj:j=i
   ·subst hj
    rw [hK] at e
    injection e with e
    subst e
    exact ⟨(h.keep j g hK).1,by simpa using hr⟩
   ·have hne:g'≠g:=fun e'=>hj (h.inj _ _ _ e (by rw [e'];exact hK))
    obtain ⟨cur,hx⟩:=h.kK e
    exact ⟨(h.keep j g' e).1,by simpa [hj] using (h.keep j g' e).2.stay12 (hoth _ _ hx hne)⟩
  zero:=fun j e=>by
   have hj:j≠i:=fun e'=>by
    rw [e',hK] at e
    cases e
   simpa [hj] using h.zero j e
  inj:=h.inj
  wt:=fun j p q e1 e2=>by
   obtain ⟨cur,hx⟩:=h.kG (List.mem_of_getElem? e1)
   have hw:=h.wt j p q e1 e2
   exact ⟨hw.1.stay12 (hoth _ _ hx (fun e=>hw.2.2 i (by rw [hK,e]))),hw.2⟩
  ok:=⟨h.ok.n1,h.ok.n2,h.ok.c1,h.ok.c2,fun j=>by
   by_cases hj:j=i
   ·simpa [hj] using hl
   ·simpa [hj] using h.ok.k j,h.ok.ws,h.ok.wn,h.ok.l1,h.ok.l2⟩ }

theorem Lasts.does {i:Nat} {e:Ending} (hl:Lasts L D i w e w'):∃K' g,e = .returned (.slice (some ⟨g,0,none⟩) D.n D.n)/\K' i=some g/\DiskAt w' { L with K:=K' } D/\Chg L.has w w'/\∀k,Lay.has { L with K:=K' } k->L.has k∨w.heap.size<=k:=by
 obtain ⟨K',g,rfl,hk,hd,hc,_,hs⟩:=hl
 refine ⟨K',g,rfl,hk,hd,hc.mono fun k e => .inr (.inl e),fun k hk => ?_⟩
 rcases hk with e|e|e | ⟨j,e⟩|e
 ·exact .inl (.inl e)
 ·exact .inl (.inr (.inl e))
 ·exact .inl (.inr (.inr (.inl e)))
 ·rcases hs j k e with h|h
  ·exact .inl (.inr (.inr (.inr (.inl ⟨j,h⟩))))
  ·exact .inr h
 ·exact .inl (.inr (.inr (.inr (.inr e))))

end
end Go.Proofs.YtnkjdijbfnmnhaaGreat
