/-
  Texts of this claim put together: Dec1.
-/
import Derived.Test.YtnkjdijbfnmnhaaGreatJ41
import Derived.Test.YtnkjdijbfnmnhaaGreatChan

namespace Go.Proofs.YtnkjdijbfnmnhaaGreat
open Go.RowKit Go.Conc

def sentV (p:Nat × Nat) (q:Nat × List UInt8):Value := .agg #[.int .i64 (q.1:Int), .slice (some ⟨p.1,0,none⟩) q.2.length p.2]

def gA (L:Lay) (D:Dk) (keep:Nat) (torn:Bool):List Value:=List.zipWith sentV L.G (f8 D.n keep torn D.waits)

section
variable {w w' : World} {L : Lay} {D : Dk}
theorem lG (n keep:Nat) (torn:Bool) (ws:List (Nat × List UInt8)) (h:keep<=ws.length):(f8 n keep torn ws).length=keep:=by
 unfold f8
 rw [List.length_mapIdx,List.length_take]
 omega
theorem fu (h:DiskAt w L D) (keep:Nat) (torn:Bool) (hk:keep<=D.waits.length):(gA L D keep torn).length=keep:=by
 unfold gA
 rw [List.length_zipWith,lG _ _ _ _ hk,h.len]
 omega
theorem oW (h:DiskAt w L D) (keep:Nat) (torn:Bool) {j:Nat} (hj:j<keep) (hk:keep<=D.waits.length):∃p q,L.G[j]?=some p/\D.waits[j]?=some q/\(gA L D keep torn)[j]?=some (sentV p (cutW D.n keep torn j q)):=by
 have h1:j<L.G.length:=by
  rw [h.len]
  omega
 have h2:j<D.waits.length:=by omega
 refine ⟨_,_,List.getElem?_eq_getElem h1,List.getElem?_eq_getElem h2,?_⟩
 unfold gA
 rw [List.getElem?_zipWith,List.getElem?_eq_getElem h1,staysL_get,if_pos hj,List.getElem?_eq_getElem h2]
 rfl
theorem zS {base:Nat} {e:TypeId} {s n c:Nat} {A:Option Addr} {xs:List Value} (h:w.ownsRow base e s (.slice A n c) n xs):n<=c:=by
 rcases h.2 with ⟨h0,rfl⟩ | ⟨g,cap,cur,hv,_,_,hc,_⟩
 ·omega
 ·injection hv
  omega
theorem xp:∃i,Tryz.prog.info? 299=some i/\i.bytes=32:=by
 have h:(Tryz.prog.info? 299).map (·.bytes)=some 32:=by kernel_rfl
 obtain ⟨i,hi,hb⟩:=Option.map_eq_some_iff.1 h
 exact ⟨i,hi,hb⟩
theorem xq (u:World):(zeroValue 299).run Tryz.prog u = .ok (.agg #[.int .i64 0, .slice none 0 0]) u:=by kernel_rfl
theorem ks {l:List Value} {j:Nat} {v:Value} (h:l[j]?=some v):(l.take (j+1)).toArray=(l.take j).toArray.push v:=by
 rw [List.take_add_one,h]
 simp
theorem xt {l:List Value} {j:Nat} {v:Value} (h:l[j]?=some v):(l.drop j).toArray.getD 0 undef=v/\0<(l.drop j).toArray.size/\(l.drop j).toArray.extract 1 (l.drop j).toArray.size=(l.drop (j+1)).toArray:=by
 have hj:j<l.length:=(List.getElem?_eq_some_iff.1 h).1
 have e:l.drop j=v::l.drop (j+1):=by
  rw [List.drop_eq_getElem_cons hj]
  congr 1
  exact (List.getElem?_eq_some_iff.1 h).2
 rw [e]
 refine ⟨by simp,by simp,?_⟩
 simp only [List.size_toArray,List.length_cons,List.extract_toArray,List.extract_eq_take_drop,List.drop_succ_cons,List.drop_zero]
 rw [List.take_of_length_le (by omega)]

def Snd (w:World) (L:Lay) (D:Dk) (keep:Nat) (torn:Bool) (j:Nat) (wr:World):Prop:=Below w.heap.size w wr/\wr.heap[w.heap.size]?=some (.chan keep ((gA L D keep torn).take j).toArray false j 0 false)

theorem DiskAt.noChan (h:DiskAt w L D) {g cap s r:Nat} {buf:Array Value} {cl tm:Bool} (hc:w.heap[g]?=some (.chan cap buf cl s r tm)):¬L.has g:=by
 have hbox:=h.box
 unfold BoxAt at hbox
 rintro (rfl|rfl | ⟨o,s,e⟩ | ⟨i,e⟩ | ⟨p,hp,rfl⟩)
 ·rw [hbox] at hc
  cases hc
 ·obtain ⟨es,k,em⟩:=h.map.is
  rw [em] at hc
  cases hc
 ·obtain ⟨cur,hx⟩:=h.kA e
  rw [hx] at hc
  cases hc
 ·obtain ⟨cur,hx⟩:=h.kK e
  rw [hx] at hc
  cases hc
 ·obtain ⟨cur,hx⟩:=h.kG hp
  rw [hx] at hc
  cases hc

theorem DiskAt.emptied (h:DiskAt w L D) (hw:w'=w.setCell ⟨L.b,3,none⟩ (.slice none 0 0)):DiskAt w' { L with A:=none,cp:=0,G:=[] } { D with waits:=[] }:=by
 have hbox:=h.box
 unfold BoxAt at hbox
 obtain ⟨es,k,em⟩:=h.map.is
 have hoth:∀k,k≠L.b->w'.heap[k]?=w.heap[k]?:=fun k hne=>by
  rw [hw]
  exact Below.heap_setCell _ _ _ _ hne
 exact {
  box:=by
   rw [hw]
   exact aU 3 (.slice none 0 0) hbox
  map:=h.map.stay (hoth _ (fun e=>cj hbox em e.symm))
  row:=World.ownsRow_nil _ _ _ _
  len:=rfl
  keep:=fun i g e=>by
   obtain ⟨cur,hx⟩:=h.kK e
   exact ⟨(h.keep i g e).1,(h.keep i g e).2.stay12 (hoth _ (aN hx hbox (by decide)))⟩
  zero:=h.zero
  inj:=h.inj
  wt:=fun j p q e=>by simp at e
  ok:=⟨h.ok.n1,h.ok.n2,h.ok.c1,h.ok.c2,h.ok.k,fun q hq=>by simp at hq,by simp,h.ok.l1,h.ok.l2⟩ }

def kt (D:Dk) (keep:Nat) (torn:Bool) (j:Nat):Nat->List UInt8:=((f8 D.n keep torn D.waits).take j).foldl put1 D.kept
theorem tL (keep:Nat) (torn:Bool) {j:Nat} {q:Nat × List UInt8} (hj:j<keep) (hq:D.waits[j]?=some q):kt D keep torn (j+1)=put1 (kt D keep torn j) (cutW D.n keep torn j q):=by
 unfold kt
 have e:(f8 D.n keep torn D.waits)[j]?=some (cutW D.n keep torn j q):=by rw [staysL_get,if_pos hj,hq];rfl
 rw [List.take_add_one,e]
 simp
theorem xu (keep:Nat) (torn:Bool) (hk:keep<=D.waits.length):({ D with kept:=kt D keep torn keep,waits:=[] }:Dk)=decideD D keep torn:=by
 unfold kt decideD
 rw [List.take_of_length_le (by rw [lG _ _ _ _ hk];exact Nat.le_refl _)]

structure Rcv (w:World) (L:Lay) (D:Dk) (keep:Nat) (torn:Bool) (j:Nat) (wr:World) (K:Nat->Option Nat):Prop where
 ch:wr.heap[w.heap.size]?=some (.chan keep ((gA L D keep torn).drop j).toArray true keep j false)
 d:DiskAt wr { L with A:=none,cp:=0,G:=[],K:=K } { D with kept:=kt D keep torn j,waits:=[] }
 hs:∀i g,K i=some g->L.K i=some g∨w.heap.size<=g
 c:Chg L.has w wr
 r:∀(i:Nat) (p:Nat × Nat) (q:Nat × List UInt8),L.G[i]?=some p->D.waits[i]?=some q->RowIs wr p.1 q.2

theorem Rcv.apart (h:DiskAt w L D) {keep:Nat} {torn:Bool} {j:Nat} {wr:World} {K:Nat->Option Nat} (hr:Rcv w L D keep torn j wr K) {p:Nat × Nat} (hp:p∈L.G) (i:Nat):K i≠some p.1:=by
 intro e
 obtain ⟨q,_,hrow,_,hne⟩:=h.wt' hp
 rcases hr.hs i p.1 e with e'|e'
 ·exact hne i e'
 ·have:=hrow.lt
  omega

theorem Snd.rcv (h:DiskAt w L D) {keep:Nat} {torn:Bool} {wr W1 W2:World} (hs:Snd w L D keep torn keep wr) (h1:W1=wr.setChan w.heap.size keep (gA L D keep torn).toArray true keep 0 false) (h2:W2=W1.setCell ⟨L.b,3,none⟩ (.slice none 0 0)) :
  Rcv w L D keep torn 0 W2 L.K:=by
 obtain ⟨hb,hch⟩:=hs
 have hlt:=(Array.getElem?_eq_some_iff.1 hch).1
 have hb1:Below w.heap.size w W1:=by
  rw [h1]
  exact below_setChan hb (Nat.le_refl _) _ _ _ _ _ _
 have hch1:W1.heap[w.heap.size]?=some (.chan keep (gA L D keep torn).toArray true keep 0 false):=by
  rw [h1]
  exact heap_setChan _ _ _ _ _ _ _ _ hlt
 have hbl:=h.box.lt
 exact {
  ch:=by
   rw [h2,Below.heap_setCell _ _ _ _ (by show w.heap.size≠L.b;omega),hch1]
   simp
  d:=(h.below hb1).emptied h2
  hs:=fun i g e => .inl e
  c:=by
   refine (Chg.of_below (S:=L.has) hb1).trans (Chg.of_grown (S:=L.has) (w:=W1) (w':=W2) (g:=L.b) (by rw [h2];exact aE W1 L.b 3 _) (.inl (.inl rfl))) fun _ hg _=>hg
  r:=fun i p q e1 e2=>by
   have hw:=(h.wt i p q e1 e2).1
   refine (hw.stay12 (hb1.block _ hw.lt)).stay12 ?_
   rw [h2]
   refine Below.heap_setCell _ _ _ _ fun e => ?_
   obtain ⟨cur,hx⟩:=h.kG (List.mem_of_getElem? e1)
   exact aN hx h.box (by decide) e }

theorem nt {P:Program} {ops:Array Oper} {o:Oper} {a:Act} {w:World} {K:Act->World->Prop} {R:Exit->Act->World->Prop} {E:Prop}
  (hgd:Region.wanted o (yielded ops a.tmps)=true) (d x:Operand) (t ty:TypeId) (hty:o.type=ty) (hop:o.op=Op.call { callee:=Callee.builtin Builtin.copy,args := #[d,x],argTypes := #[t,t] })
  (v u:Value) (hd:a.eval d=v) (hx:a.eval x=u) {v':Value} {w':World} (hr:(Builtin.copy_ #[t,t] ty #[v,u]).run P w = .ok v' w') (hK:K (a.put o.dst v') w') :
  if Region.wanted o (yielded ops a.tmps)=true then Oper.wp P o a w K R else E:=by
 subst hty
 rw [if_pos hgd]
 unfold Oper.wp
 simp [execOp,hop,resolve,invoke,builtin,hd,hx,hr,Result.andThen]
 exact hK
theorem xv {cur:Array Value} {l:List UInt8} {n m:Nat} (h:cur.toList.take l.length=bv l) (hl:l.length=n) (hm:m<=n):m<=cur.size:=by
 have:=congrArg List.length h
 rw [List.length_take,bv_length] at this
 simp at this
 omega
theorem zT (n keep:Nat) (torn:Bool) (j:Nat) (q:Nat × List UInt8):(cutW n keep torn j q).2=q.2.take (cutW n keep torn j q).2.length:=by
 unfold cutW
 split
 ·simp only [List.length_take]
  rw [<- List.take_eq_take_min]
 ·simp

theorem tM {w2:World} {g:Nat} {l l':List UInt8} {cur:Array Value} (hc:cur.toList.take l.length=bv l) (hle:l'.length<=l.length) (hg:w2.heap[g]?=some (.cells (bv l'++cur.toList.drop l'.length).toArray 5 (0,0))):RowIs w2 g (l'++l.drop l'.length):=by
 refine ⟨_,hg,?_⟩
 have e:(l'++l.drop l'.length).length=l.length:=by simp;omega
 rw [e,bv_append,gi,<- hc]
 simp only [List.take_append,bv_length]
 rw [List.take_of_length_le (by rw [bv_length];exact hle),List.drop_take]

theorem Rcv.next (h:DiskAt w L D) {keep:Nat} {torn:Bool} {j:Nat} {wr w4 w5 w6:World} {K K':Nat->Option Nat} {g:Nat} {q:Nat × List UInt8} (hr:Rcv w L D keep torn j wr K) (hj:j<keep)
  (hq:D.waits[j]?=some q)
  (h4:∀k,k<wr.heap.size->k≠w.heap.size->w4.heap[k]?=wr.heap[k]?) (h4c:w4.heap[w.heap.size]?=some (.chan keep ((gA L D keep torn).drop (j+1)).toArray true keep (j+1) false)) (h4b:Chg (fun k=>k=w.heap.size) wr w4)
  (hd5:DiskAt w5 { L with A:=none,cp:=0,G:=[],K:=K' } { D with kept:=kt D keep torn j,waits:=[] }) (hc5:Chg (fun k=>k=L.m) w4 w5) (hK:∀i g',K' i=some g'->K i=some g'∨w4.heap.size<=g') (hg:K' (cutW D.n keep torn j q).1=some g)
  (h6:w5.grownBy w6 (some g)) (hrow:RowIs w6 g ((cutW D.n keep torn j q).2++(kt D keep torn j (cutW D.n keep torn j q).1).drop (cutW D.n keep torn j q).2.length)):Rcv w L D keep torn (j+1) w6 K':=by
 have hsz:w.heap.size<=wr.heap.size:=hr.c.size
 have hs4:wr.heap.size<=w4.heap.size:=h4b.size
 have hs5:=hc5.size
 have hql:q.2.length=D.n:=(h.ok.ws q (List.mem_of_getElem? hq)).2
 have hcl:=l0 (n:=D.n) (keep:=keep) (torn:=torn) (j:=j) hql
 have hkl:∀i,(kt D keep torn j i).length=D.n:=hr.d.ok.k
 have hmh:L.m<w.heap.size:=h.map.lt
 have hne_m:w.heap.size≠L.m:=by omega
 obtain ⟨cg,hcg⟩:=hd5.kK hg
 have hch5:w5.heap[w.heap.size]?=some (.chan keep ((gA L D keep torn).drop (j+1)).toArray true keep (j+1) false):=(hc5.block _ (Array.getElem?_eq_some_iff.1 h4c).1 hne_m).trans h4c
 have hgc:w.heap.size≠g:=by
  rintro rfl
  rw [hch5] at hcg
  cases hcg
 have hK5:∀i g',K' i=some g'->L.K i=some g'∨w.heap.size<=g':=fun i g' e=>by
  rcases hK i g' e with e|e
  ·exact hr.hs i g' e
  ·exact .inr (by omega)
 exact {
  ch:=(h6.block _ (Array.getElem?_eq_some_iff.1 hch5).1 (fun e=>by injection e with e;exact hgc e)).trans hch5
  d:=hd5.rowset (i:=(cutW D.n keep torn j q).1) hg h6 hrow (by rw [List.length_append,List.length_drop,hkl];show _=D.n;omega) (by
   rw [tL keep torn hj hq]
   congr 1
   funext i
   unfold put1
   split
   ·rename_i e
    rw [e]
   ·rfl)
  hs:=hK5
  c:=by
   refine ((hr.c.trans h4b ?_).trans hc5 ?_).trans (Chg.of_grown (S:=fun k=>k=g) h6 (.inl rfl)) ?_
   ·rintro k rfl hlt
    omega
   ·rintro k rfl _
    exact .inr (.inl rfl)
   ·rintro k rfl hlt
    rcases hK5 _ _ hg with e|e
    ·exact .inr (.inr (.inr (.inl ⟨_,e⟩)))
    ·omega
  r:=fun i p' q' e1 e2=>by
   have hm:=List.mem_of_getElem? e1
   have h0:=hr.r i p' q' e1 e2
   have hw:=(h.wt i p' q' e1 e2)
   have hlt0:=hw.1.lt
   have ha:p'.1≠w.heap.size:=by omega
   have hb:p'.1≠L.m:=fun e=>by
    obtain ⟨es,k,em⟩:=h.map.is
    obtain ⟨cur,hx⟩:=h.kG hm
    exact cj hx em e
   have hcn:p'.1≠g:=fun e=>by
    rcases hK5 _ _ hg with e'|e'
    ·exact hw.2.2 _ (by rw [e',e])
    ·omega
   have s4:=h0.stay12 (h4 _ h0.lt ha)
   have s5:=s4.stay12 (hc5.block _ s4.lt hb)
   exact s5.stay12 (h6.block _ s5.lt (fun e=>by injection e with e;exact hcn e)) }
end
end Go.Proofs.YtnkjdijbfnmnhaaGreat
