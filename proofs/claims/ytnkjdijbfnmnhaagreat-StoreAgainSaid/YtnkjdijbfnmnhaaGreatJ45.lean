/-
  Texts of this claim put together: Solo12.
-/
import Derived.Test.YtnkjdijbfnmnhaaGreatJ44
import Derived.Deep.Draws

namespace Go.Proofs.YtnkjdijbfnmnhaaGreat
open Go.RowKit

theorem dS {B:Nat} {a w:World} (h:Below B a w) (n:Nat):Below B a (w.drewN n):=h.trans ⟨rfl,rfl,rfl,Nat.le_refl _,fun _ _=>rfl⟩

structure Solo (w:World) (L:Lay) (D:Dk) (wr:World):Prop where
 d:DiskAt wr L D
 b:Below w.heap.size w wr
 h:∀g,L.has g->w.heap.size<=g

section
variable {w wr w' : World} {L : Lay} {D D' : Dk}

theorem DiskAt.notRow (h:DiskAt wr L D) {g:Nat} {cur:Array Value} {z:Nat × Nat} (hg:wr.heap[g]?=some (.cells cur 50 z)):¬L.has g:=by
 rintro (rfl|rfl | ⟨o,s,e⟩ | ⟨i,e⟩ | ⟨p,hp,rfl⟩)
 ·exact aN h.box hg (by decide) rfl
 ·obtain ⟨es,k,em⟩:=h.map.is
  exact cj hg em rfl
 ·obtain ⟨cur',hx⟩:=h.kA e
  exact aN hx hg (by decide) rfl
 ·obtain ⟨cur',hx⟩:=h.kK e
  exact aN hx hg (by decide) rfl
 ·obtain ⟨cur',hx⟩:=h.kG hp
  exact aN hx hg (by decide) rfl

structure WasAt (B n:Nat) (k:Nat) (f:Nat->List UInt8) (A:Option Addr) (cp:Nat) (wr:World) (G:List (Nat × Nat)):Prop where
 len:G.length=k
 row:wr.ownsRow B 50 1 (.slice A k cp) k (G.map fun p=>Value.slice (some ⟨p.1,0,none⟩) n p.2)
 r:∀(j:Nat) (p:Nat × Nat),G[j]?=some p->RowIs wr p.1 (f j)/\B<=p.1
theorem WasAt.below {B n k cp:Nat} {f:Nat->List UInt8} {A:Option Addr} {G:List (Nat × Nat)} (h:WasAt B n k f A cp wr G) (hb:Below wr.heap.size wr w'):WasAt B n k f A cp w' G :=
 ⟨h.len,ao h.row hb,fun j p e=>⟨(h.r j p e).1.stay12 (hb.block _ (h.r j p e).1.lt),(h.r j p e).2⟩⟩

theorem WasAt.chg {B n k cp:Nat} {f:Nat->List UInt8} {A:Option Addr} {G:List (Nat × Nat)} (h:WasAt B n k f A cp wr G) (hd:DiskAt wr L D) (hc:Chg L.has wr w') (hn:∀p∈G,¬L.has p.1):WasAt B n k f A cp w' G:=by
 refine ⟨h.len,ca h.row fun g o s e => ?_,fun j p e=>⟨(h.r j p e).1.stay12 (hc.block _ (h.r j p e).1.lt (hn p (List.mem_of_getElem? e))),(h.r j p e).2⟩⟩
 rcases h.row.2 with ⟨hv,_⟩ | ⟨g',cap,cur,hv,_,hg,_⟩
 ·injection hv with hv
  rw [e] at hv
  cases hv
 ·injection hv with hv
  rw [e] at hv
  injection hv with hv
  injection hv with hv
  subst hv
  exact hc.block _ (Array.getElem?_eq_some_iff.1 hg).1 (hd.notRow hg)
theorem WasAt.lt {B n k cp:Nat} {f:Nat->List UInt8} {A:Option Addr} {G:List (Nat × Nat)} (h:WasAt B n k f A cp wr G) {p:Nat × Nat} (hp:p∈G):p.1<wr.heap.size:=by
 obtain ⟨j,hj⟩:=List.mem_iff_getElem?.1 hp
 exact (h.r j p hj).1.lt

theorem WasAt.apart {B n k cp:Nat} {f:Nat->List UInt8} {A:Option Addr} {G:List (Nat × Nat)} {L':Lay} (h:WasAt B n k f A cp wr G) (hn:∀p∈G,¬L.has p.1) (hs:∀g,L'.has g->L.has g∨wr.heap.size<=g):∀p∈G,¬L'.has p.1:=fun p hp e=>by
 rcases hs p.1 e with e|e
 ·exact hn p hp e
 ·have:=h.lt hp
  omega

theorem WasAt.push {B n k cp g c0 c7:Nat} {f:Nat->List UInt8} {A A7:Option Addr} {G:List (Nat × Nat)} (h:WasAt B n k f A cp wr G) (hr:RowIs wr g (f k)) (hB:B<=g) {o:Obj}
  (hown:w'.ownsRow B 50 1 (.slice A7 (k+1) c7) (k+1) ((G.map fun p=>Value.slice (some ⟨p.1,0,none⟩) n p.2)++[.slice (some ⟨g,0,none⟩) n c0])) (hg:(wr.alloc o).grownBy w' (Value.slice A k cp).ownBlock):WasAt B n (k+1) f A7 c7 w' (G++[(g,c0)]):=by
 have hst:∀q l,RowIs wr q l->RowIs w' q l:=fun q l hq=>by
  refine (hq.stay12 (Below.heap_alloc wr o q hq.lt)).stay12 (hg.block q (by have:=hq.lt;simp;omega) fun e => ?_)
  obtain ⟨cur,hx,_⟩:=hq
  rcases h.row.2 with ⟨hv,_⟩ | ⟨g',cap,cur',hv,_,hg',_⟩
  ·rw [hv] at e
   cases e
  ·rw [hv] at e
   injection e with e
   exact aN hx hg' (by decide) e
 refine ⟨by simp [h.len],by simpa using hown,fun j p e => ?_⟩
 by_cases hj:j<G.length
 ·rw [List.getElem?_append_left hj] at e
  exact ⟨hst _ _ (h.r j p e).1,(h.r j p e).2⟩
 ·rw [List.getElem?_append_right (by omega)] at e
  have h0:j - G.length=0:=by
   rcases Nat.eq_zero_or_pos (j - G.length) with h0|h0
   ·exact h0
   ·rw [List.getElem?_eq_none (by simp;omega)] at e
    cases e
  rw [h0] at e
  simp at e
  subst e
  have:j=k:=by have:=h.len;omega
  subst this
  exact ⟨hst _ _ hr,hB⟩
theorem WasAt.cell {B n k cp:Nat} {f:Nat->List UInt8} {A:Option Addr} {G:List (Nat × Nat)} (h:WasAt B n k f A cp wr G) {j:Nat} (hj:j<k) :
  ∃b off p,A=some ⟨b,off,none⟩/\wr.cell? ⟨b,off+j,none⟩=some (.slice (some ⟨p,0,none⟩) n (G[j]?.getD (0,0)).2)/\RowIs wr p (f j):=by
 have hl:=h.len
 have hs:=Sees.ownRow9 h.row
 obtain ⟨b,off,e,_,hc⟩:=hs.flat (by rw [List.length_map];omega)
 have hG:G[j]?=some G[j]:=List.getElem?_eq_getElem (by omega)
 refine ⟨b,off,G[j].1,e,?_,(h.r j _ hG).1⟩
 rw [hc j _ (by rw [List.getElem?_map,hG];rfl),hG]
 rfl
theorem Solo.row {B n s:Nat} {v:Value} {xs:List Value} (h:Solo w L D wr) (hr:wr.ownsRow B 50 s v n xs) (hB:w.heap.size<=B) (hg:wr.grownBy w' v.ownBlock):Solo w L D w':=by
 have hne:∀(k:Nat) (cur:Obj),wr.heap[k]?=some cur->(∀c z,cur ≠ .cells c 50 z)->w'.heap[k]?=wr.heap[k]?:=fun k cur hk hn=>hg.block k (Array.getElem?_eq_some_iff.1 hk).1 fun e=>by
  rcases hr.2 with ⟨rfl,_⟩ | ⟨g',cap,cu,rfl,_,hx,_⟩
  ·cases e
  ·injection e with e
   subst e
   rw [hk] at hx
   injection hx with hx
   exact hn _ _ hx
 refine ⟨h.d.stay fun g hgh => ?_,h.b.trans ((Below.refl _ _).grown hg h.b.size fun k e=>Nat.le_trans hB (hr.lt k e).1),h.h⟩
 obtain ⟨ob,hob⟩:∃ob,wr.heap[g]?=some ob:=⟨_,Array.getElem?_eq_getElem (h.d.lt hgh)⟩
 exact hne g ob hob fun c z e=>h.d.notRow (by rw [hob,e]) hgh
end

theorem lH:∀(l:List (Nat × List UInt8)) (k:Nat->List UInt8) (i:Nat),(∀q∈l,q.1≠i)->(l.foldl put1 k) i=k i
 | [],_,_,_=>rfl
 | q::l,k,i,h=>by
  rw [List.foldl_cons,lH l _ i fun r hr=>h r (by simp [hr])]
  have:=h q (by simp)
  unfold put1
  rw [if_neg fun e=>this e.symm]
theorem DY {D:Dk} {k:Int} {t:Bool} {i:Nat} (h:∀q∈D.waits,q.1≠i):(backD D k t).kept i=D.kept i:=by
 have hk:(dI D).kept=D.kept:=by
  unfold dI
  split <;> rfl
 show (decideD (dI D) _ t).kept i=_
 rw [decideD]
 show (List.foldl put1 (dI D).kept _) i=_
 rw [lH,hk]
 intro q hq
 obtain ⟨j,r,hr,rfl⟩:=lk hq
 rw [rh]
 rw [jT] at hr
 exact h r hr
theorem E3 (D:Dk) (k:Int) (t:Bool):(backD D k t).on=true/\(backD D k t).waits=[]/\(backD D k t).c=D.c/\(backD D k t).n=D.n:=⟨rfl,rfl,(jU D).2,(jU D).1⟩
theorem Cf {D:Dk} (i:Int) (l:List UInt8) {q:Nat × List UInt8} (hq:q∈(dj D i l).waits):q∈D.waits∨(q.1:Int)=i:=by
 unfold dj at hq
 split at hq
 ·rename_i hr
  split at hq
  ·rw [jS] at hq
   rcases List.mem_append.1 hq with e|e
   ·exact .inl e
   ·right
    simp at e
    subst e
    have hb:0<=i:=by
     unfold cF at hr
     split at hr
     ·split at hr
      ·omega
      ·cases hr
     ·cases hr
    simp only
    omega
  ·exact .inl hq
 ·exact .inl hq
end Go.Proofs.YtnkjdijbfnmnhaaGreat
