/-
  Texts of this claim put together: Sec2, Sec3.
-/
import Derived.Test.YtnkjdijbfnmnhaaGreatJ23
import Derived.Carry

namespace Go.Proofs.YtnkjdijbfnmnhaaGreat
set_option maxRecDepth 100000
set_option maxHeartbeats 12800000
open Go.RowKit

section
variable {w w' : World} {L : Lay} {D D' : Dk}
theorem DiskAt.kA (h:DiskAt w L D) {g o:Nat} {s:Option Nat} (e:L.A=some ⟨g,o,s⟩):∃cur,w.heap[g]?=some (.cells cur 299 (0,0)):=by
 rcases h.row.2 with ⟨hv,_⟩ | ⟨g',cap,cur,hv,_,hg,_⟩
 ·injection hv with hA
  rw [e] at hA
  cases hA
 ·injection hv with hA
  rw [e] at hA
  injection hA with hA
  injection hA with hA
  subst hA
  exact ⟨cur,hg⟩
theorem DiskAt.kK (h:DiskAt w L D) {i g:Nat} (e:L.K i=some g):∃cur,w.heap[g]?=some (.cells cur 5 (0,0)):=by
 obtain ⟨cur,hg,_⟩:=(h.keep i g e).2
 exact ⟨cur,hg⟩
theorem DiskAt.wt' (h:DiskAt w L D) {p:Nat × Nat} (hp:p∈L.G):∃q,q∈D.waits/\RowIs w p.1 q.2/\q.2.length<=p.2/\∀i,L.K i≠some p.1:=by
 obtain ⟨j,hj⟩:=List.mem_iff_getElem?.1 hp
 have hjl:j<D.waits.length:=by
  have:=(List.getElem?_eq_some_iff.1 hj).1
  rw [h.len] at this
  exact this
 exact ⟨_,List.getElem_mem hjl,h.wt j p _ hj (List.getElem?_eq_getElem hjl)⟩
theorem DiskAt.kG (h:DiskAt w L D) {p:Nat × Nat} (hp:p∈L.G):∃cur,w.heap[p.1]?=some (.cells cur 5 (0,0)):=by
 obtain ⟨q,_,⟨cur,hg,_⟩,_⟩:=h.wt' hp
 exact ⟨cur,hg⟩

theorem aN {w:World} {g g':Nat} {c c':Array Value} {t t':TypeId} {z z':Nat × Nat} (h:w.heap[g]?=some (.cells c t z)) (h':w.heap[g']?=some (.cells c' t' z')) (ht:t≠t'):g≠g':=by
 rintro rfl
 rw [h] at h'
 injection h' with h'
 injection h' with _ h'
 exact ht h'
theorem cj {w:World} {g g':Nat} {c:Array Value} {t:TypeId} {z:Nat × Nat} {es:Array MapEntry} {k:Nat} (h:w.heap[g]?=some (.cells c t z)) (h':w.heap[g']?=some (.map es k)):g≠g':=by
 rintro rfl
 rw [h] at h'
 cases h'

theorem DiskAt.turn (h:DiskAt w L D) (hb:BoxAt w' L.b (dcs L D') 135) (hg:w.grownBy w' (some L.b)) (hn:D'.n=D.n) (hc:D'.c=D.c) (hk:D'.kept=D.kept) (hw:D'.waits=D.waits) (ok:D'.ok):DiskAt w' L D':=by
 have hbox:=h.box
 unfold BoxAt at hbox
 have hm:w'.heap[L.m]?=w.heap[L.m]?:=by
  obtain ⟨es,k,e⟩:=h.map.is
  exact hg.block _ h.map.lt (by
   intro e'
   injection e' with e'
   exact cj hbox e e'.symm)
 have hA:∀g o s,L.A=some ⟨g,o,s⟩->w'.heap[g]?=w.heap[g]?:=by
  intro g o s e
  obtain ⟨cur,hc⟩:=h.kA e
  exact hg.block _ (Array.getElem?_eq_some_iff.1 hc).1 (by
   intro e'
   injection e' with e'
   exact aN hbox hc (by decide) e'.symm)
 have h8:∀(g:Nat) (cur:Array Value),w.heap[g]?=some (.cells cur 5 (0,0))->w'.heap[g]?=w.heap[g]?:=by
  intro g cur hc
  exact hg.block _ (Array.getElem?_eq_some_iff.1 hc).1 (by
   intro e'
   injection e' with e'
   exact aN hbox hc (by decide) e'.symm)
 exact {
  box:=hb
  map:=by
   rw [hn,hc]
   exact h.map.stay hm
  row:=by
   rw [hw]
   exact ca h.row hA
  len:=by rw [hw];exact h.len
  keep:=fun i g e=>by
   rw [hc,hk]
   obtain ⟨cur,hx⟩:=h.kK e
   exact ⟨(h.keep i g e).1,(h.keep i g e).2.stay12 (h8 g cur hx)⟩
  zero:=fun i e=>by
   rw [hk,hn]
   exact h.zero i e
  inj:=h.inj
  wt:=fun j p q e1 e2=>by
   rw [hw] at e2
   obtain ⟨cur,hx⟩:=h.kG (List.mem_of_getElem? e1)
   exact ⟨(h.wt j p q e1 e2).1.stay12 (h8 _ cur hx),(h.wt j p q e1 e2).2⟩
  ok:=ok }
theorem DiskAt.turns (h:DiskAt w L D) (hb:BoxAt w' L.b (dcs L D') 135) (hg:w.grownBy w' (some L.b)) (hn:D'.n=D.n) (hc:D'.c=D.c) (hk:D'.kept=D.kept) (hw:D'.waits=D.waits) (ok:D'.ok):Does L w w' D' :=
 ⟨L,rfl,h.turn hb hg hn hc hk hw ok,Chg.of_grown hg (.inl (.inl rfl)),fun _ h => .inl h⟩
end

section
variable {w : World} {L : Lay} {D : Dk}
theorem yY (h:DiskAt w L D):Calls Tryz.prog 350 #[.pointer (some ⟨L.b,0,none⟩)] w fun e w'=>e = .returned (.tuple #[])/\Does L w w' (dI D):=by
 have H:=aa h
 have c5:=h.c5
 have f4:=h.free 4
 have f5:=h.free 5
 clear h
 obtain ⟨t,ht⟩:∃t,D.on=t:=⟨_,rfl⟩
 have HO:=aa (show Calls Tryz.prog 140 #[.pointer (some ⟨L.b,0,none⟩)] w fun e w'=>e = .returned (.bool t)/\w=w' from by
  have:=rt H.out
  rwa [ht] at this)
 have HT:=aa ht
 clear ht
 cases t
 ·go_enter Tryz.func350,Tryz.ntmps350
  go_wp2_with (refine HO.out.mono ?_;rintro e w1 ⟨rfl,rfl⟩)
  refine bodyPost_ret (results_none rfl _ _ _) rfl ?_
  refine ⟨rfl,?_⟩
  rw [dI,if_neg (by rw [HT.out];simp)]
  exact Does.of_stay H.out (Below.refl _ _)
 ·have c4:w.cell? ⟨L.b,4,none⟩=some (.bool true):=by rw [H.out.c4,HT.out]
  go_enter Tryz.func350,Tryz.ntmps350
  go_wp2_with (refine HO.out.mono ?_;rintro e w1 ⟨rfl,rfl⟩)
  refine ⟨rfl,_,results_none rfl _ _ _,rfl,?_⟩
  have hf:=H.out.ok.fall
  rw [dI,if_pos HT.out] at hf ⊢
  refine H.out.turns ?_ (aV (aV (World.grownBy.refl w _) _ _) _ _) rfl rfl rfl rfl hf
  exact aU 5 _ (aU 4 _ H.out.box)

theorem mv (h:DiskAt w L D):Calls Tryz.prog 340 #[.pointer (some ⟨L.b,0,none⟩)] w fun e w'=>e = .returned (.int .i64 (if dh D=true then 8 else 0))/\Does L w w' (burnD D):=by
 have H:=aa h
 have c7:=h.c7
 have f7:=h.free 7
 have HF:=aa (yY h)
 have hl1:=h.ok.l1
 have hl2:=h.ok.l2
 obtain ⟨t,ht⟩:∃t,D.hf=t:=⟨_,rfl⟩
 have c6:w.cell? ⟨L.b,6,none⟩=some (.bool t):=by rw [h.c6,ht]
 have HT:=aa ht
 clear ht h
 cases t
 ·have e:(if dh D=true then (8:Int) else 0)=0:=by rw [dh,HT.out];rfl
  rw [e]
  clear e
  go_enter Tryz.func340,Tryz.ntmps340
  go_wp2
  go_ret
  refine ⟨rfl,?_⟩
  rw [burnD,if_neg (by rw [HT.out];simp)]
  exact Does.of_stay H.out (Below.refl _ _)
 ·by_cases h0:D.left=0
  ·have e:(if dh D=true then (8:Int) else 0)=8:=by rw [dh,HT.out,h0];rfl
   rw [e]
   rw [h0] at c7
   have H0:=aa h0
   clear e h0 hl1 hl2
   go_enter Tryz.func340,Tryz.ntmps340
   go_wp2_with (refine HF.out.mono ?_;rintro e w1 ⟨rfl,hd⟩)
   go_ret
   refine ⟨rfl,?_⟩
   rw [burnD,if_pos HT.out,if_pos H0.out]
   exact hd
  ·have e:(if dh D=true then (8:Int) else 0)=0:=by rw [dh,HT.out,Bool.true_and,decide_eq_false h0];rfl
   rw [e]
   have H0:=aa h0
   have hp:0<D.left:=by omega
   have hb:=H.out.ok.burn
   rw [burnD,if_pos HT.out,if_neg h0] at hb ⊢
   clear e hl1
   have hw:IntKind.i64.wrap (D.left - 1)=D.left - 1:=by
    rw [IntKind.wrap_i64];omega
   have hne:(D.left == 0)=false:=beq_eq_false_iff_ne.2 h0
   clear h0
   go_enter Tryz.func340,Tryz.ntmps340
   go_wp2
   go_ret
   refine ⟨rfl,?_⟩
   refine H.out.turns ?_ (aV (World.grownBy.refl w _) _ _) rfl rfl rfl rfl hb
   exact aU 7 _ H.out.box

end

theorem mw (n c:Nat) (w:World) (h1:64<=n) (h2:n<=512) (h3:1<=c) (h4:c<=4096) :
  Calls Tryz.prog 25 #[.int .i64 (n:Int), .int .i64 (c:Int)] w fun e w' =>
   ∃L,e = .returned (.tuple #[.pointer (some ⟨L.b,0,none⟩), .int .i64 0])/\DiskAt w' L (ip n c)/\Below w.heap.size w w'/\∀g,L.has g->w.heap.size<=g:=by
 have hmm := @run_makeMap Tryz.prog
 go_enter Tryz.func25,Tryz.ntmps25
 go_wp2
 go_ret2
 have hB:=((Below.refl w.heap.size w).alloc (Nat.le_refl _) (.map #[] 0))
 refine ⟨⟨w.heap.size+1,w.heap.size,none,0,fun _=>none,[]⟩,by simp,?_,hB.alloc (by simp) _,?_⟩
 ·exact {
   box:=by
    have:=BoxAt.new (w.alloc (.map #[] 0)) (dcs ⟨w.heap.size+1,w.heap.size,none,0,fun _=>none,[]⟩ (ip n c)) 135
    rw [World.size_alloc] at this
    exact this
   map:=(MapIs.made w n c).stay (Below.heap_alloc _ _ _ (by simp))
   row:=World.ownsRow_nil _ _ _ _
   len:=rfl
   keep:=fun i g e=>by cases e
   zero:=fun i _=>rfl
   inj:=fun i j g e=>by cases e
   wt:=fun j p q e=>by simp at e
   ok:=⟨h1,h2,h3,h4,fun i=>by simp [ip],fun q hq=>by simp [ip] at hq,by simp [ip],by simp [ip],by simp [ip]⟩ }
 ·rintro g (rfl|rfl | ⟨o,s,e⟩ | ⟨i,e⟩ | ⟨p,hp,_⟩)
  ·simp
  ·exact Nat.le_refl _
  ·cases e
  ·cases e
  ·simp at hp

theorem EO (n c:Int) (w:World) (h:¬(64<=n/\n<=512/\1<=c/\c<=4096)) :
  Calls Tryz.prog 25 #[.int .i64 n, .int .i64 c] w fun e w'=>e = .returned (.tuple #[.pointer none, .int .i64 1])/\w=w':=by
 by_cases h1:n<64
 ·clear h
  go_enter Tryz.func25,Tryz.ntmps25
  go_wp2
  go_ret2
  exact ⟨rfl,rfl⟩
 by_cases h2:512<n
 ·clear h
  go_enter Tryz.func25,Tryz.ntmps25
  go_wp2
  go_ret2
  exact ⟨rfl,rfl⟩
 by_cases h3:c<1
 ·clear h
  go_enter Tryz.func25,Tryz.ntmps25
  go_wp2
  go_ret2
  exact ⟨rfl,rfl⟩
 have h4:4096<c:=by omega
 clear h
 go_enter Tryz.func25,Tryz.ntmps25
 go_wp2
 go_ret2
 exact ⟨rfl,rfl⟩

def zs12 (n:Nat):Array Value:=madeCells (Value.int .u8 0).cells (n * 1)
theorem my (n:Nat):(zs12 n).toList=bv (List.replicate n 0):=by
 unfold zs12 madeCells bv
 simp [Value.cells,Nat.mod_one,List.map_const']
theorem gJ (n:Nat):(zs12 n).size=n:=by
 have:=congrArg List.length (my n)
 simpa [bv_length] using this
theorem rv (n:Nat) (hn:n<=1000000) (u:World):(Instr.makeSlice 50 (.int .i64 (n:Int)) (.int .i64 (n:Int))).run Tryz.prog u = .ok (.slice (some ⟨u.heap.size,0,none⟩) n n) (u.alloc (.cells (zs12 n) 5)):=by
 obtain ⟨i0,hi,hz0,hz1,hz2⟩:=info_parts bT
 have h:=run_make (P:=Tryz.prog) u 50 5 i0 (.int .u8 0) Tryz.underlying50 hi hz0 .i64 .i64 (n:Int) (n:Int) (by omega) (by omega) (by rw [hz2];omega) (by omega)
 rw [h,hz1]
 simp [zs12]
theorem j7 (u:World) (n:Nat):RowIs (u.alloc (.cells (zs12 n) 5)) u.heap.size (List.replicate n 0) :=
 ⟨_,heap_alloc_new u _,by rw [my,List.take_of_length_le];simp [bv]⟩

section
variable {w w' : World} {L : Lay} {D : Dk}

theorem DiskAt.more (h:DiskAt w L D) {i g:Nat} (hi:i<D.c) (hK:L.K i=none) (hm:MapIs w' L.m D.n D.c (eB L.K i g)) (hb:∀k,k<w.heap.size->k≠L.m->w'.heap[k]?=w.heap[k]?) (hg:w.heap.size<=g) (hr:RowIs w' g (List.replicate D.n 0)) :
  DiskAt w' { L with K:=eB L.K i g } D:=by
 have hbox:=h.box
 unfold BoxAt at hbox
 obtain ⟨es,k,em⟩:=h.map.is
 have hn:∀j g',L.K j=some g'->g'≠g:=fun j g' e=>by
  have:=(h.keep j g' e).2.lt
  omega
 exact {
  box:=(hb _ h.box.lt (cj hbox em)).trans h.box
  map:=hm
  row:=ca h.row fun g o s e=>by
   obtain ⟨cur,hx⟩:=h.kA e
   exact hb g (Array.getElem?_eq_some_iff.1 hx).1 (cj hx em)
  len:=h.len
  keep:=fun j g' e=>by
   simp only [eB] at e
   split at e
   ·rename_i ej
    subst ej
    injection e with e
    subst e
    rw [h.zero j hK]
    exact ⟨hi,hr⟩
   ·obtain ⟨cur,hx⟩:=h.kK e
    exact ⟨(h.keep j g' e).1,(h.keep j g' e).2.stay12 (hb _ (h.keep j g' e).2.lt (cj hx em))⟩
  zero:=fun j e=>by
   simp only [eB] at e
   split at e
   ·cases e
   ·exact h.zero j e
  inj:=fun j1 j2 g' e1 e2=>by
   simp only [eB] at e1 e2
   split at e1
   ·split at e2
    ·omega
    ·injection e1 with e1
     exact absurd e1.symm (hn _ _ e2)
   ·split at e2
    ·injection e2 with e2
     exact absurd e2.symm (hn _ _ e1)
    ·exact h.inj _ _ _ e1 e2
  wt:=fun j p q e1 e2=>by
   obtain ⟨cur,hx⟩:=h.kG (List.mem_of_getElem? e1)
   have hlt:=(h.wt j p q e1 e2).1.lt
   refine ⟨(h.wt j p q e1 e2).1.stay12 (hb _ hlt (cj hx em)),(h.wt j p q e1 e2).2.1,fun i' e => ?_⟩
   simp only [eB] at e
   split at e
   ·injection e with e
    omega
   ·exact (h.wt j p q e1 e2).2.2 i' e
  ok:=h.ok }

def Lasts (L:Lay) (D:Dk) (i:Nat) (w:World) (e:Ending) (w':World):Prop :=
 ∃K' g,e = .returned (.slice (some ⟨g,0,none⟩) D.n D.n)/\K' i=some g/\DiskAt w' { L with K:=K' } D/\Chg (fun k=>k=L.m) w w' /\
  (∀k,w.heap.size<=k->w.heap[k]?=none)/\∀j g',K' j=some g'->L.K j=some g'∨w.heap.size<=g'

theorem pW (h:DiskAt w L D) (i:Nat) (hi:i<D.c):Calls Tryz.prog 351 #[.pointer (some ⟨L.b,0,none⟩), .int .i64 (i:Int)] w (Lasts L D i w):=by
 have H:=aa h
 have c0:=h.c0
 have c2:=h.c2
 have hi63:i<2 ^ 63:=by
  have:=h.ok.c2
  omega
 have hlook:=h.map.look i hi63
 cases hK:L.K i with
 | some g =>
  rw [at12,hK] at hlook
  simp only [Option.isSome_some] at hlook
  have HK:=aa hK
  clear h hK hi63
  have HI:=aa hi
  clear hi
  go_enter Tryz.func351,Tryz.ntmps351
  go_wp2
  go_ret
  exact ⟨L.K,g,rfl,HK.out,H.out,Chg.refl _ _,fun k hk=>Array.getElem?_eq_none hk,fun j g' e => .inl e⟩
 | none =>
  rw [at12,hK] at hlook
  simp only [Option.isSome_none] at hlook
  have hmk:=rv D.n (by have:=h.ok.n2;omega)
  have hm1:MapIs (w.alloc (.cells (zs12 D.n) 5)) L.m D.n D.c L.K:=h.map.stay (Below.heap_alloc _ _ _ h.map.lt)
  obtain ⟨w2,hst,hm2,hg2,hs2⟩:=hm1.store i w.heap.size hi (by have:=h.ok.c2;omega) hK
  have HK:=aa hK
  have HM:=aa hm2
  have HG:=aa hg2
  have HS:=aa hs2
  have hb0:=h.box.lt
  have e0:w2.cell? ⟨L.b,0,none⟩=some (.int .i64 (D.n:Int)):=by
   rw [World.cell?_of_block (w:=w.alloc (.cells (zs12 D.n) 5)) (w':=w2) (a:=⟨L.b,0,none⟩) (hg2.block _ (by simp;omega) (by
    intro e
    injection e with e
    obtain ⟨es,k,em⟩:=h.map.is
    exact cj h.box em e))]
   rw [World.cell?_of_block (w:=w) (w':=w.alloc _) (a:=⟨L.b,0,none⟩) (Below.heap_alloc _ _ _ hb0)]
   exact c0
  have HI:=aa hi
  clear h hK hi63 hm1 hm2 hg2 hs2 hi e0
  go_enter Tryz.func351,Tryz.ntmps351
  go_wp2
  go_ret
  have hb:∀k,k<w.heap.size->k≠L.m->w2.heap[k]?=w.heap[k]?:=fun k hk hne =>
   (HG.out.block k (by simp;omega) (fun e=>by injection e with e;exact hne e)).trans (Below.heap_alloc _ _ _ hk)
  refine ⟨_,w.heap.size,rfl,by simp [eB],H.out.more HI.out HK.out HM.out hb (Nat.le_refl _) ?_,⟨HG.out.os,HG.out.tape,HG.out.output,by rw [HS.out];simp,fun k hk hne=>hb k hk hne⟩,fun k hk=>Array.getElem?_eq_none hk,fun j g' e => ?_⟩
  ·refine (j7 w D.n).stay12 (HG.out.block _ (by simp) (fun e => ?_))
   injection e with e
   have:=H.out.map.lt
   omega
  ·simp only [eB] at e
   split at e
   ·injection e with e
    exact .inr (by omega)
   ·exact .inl e
end
end Go.Proofs.YtnkjdijbfnmnhaaGreat
