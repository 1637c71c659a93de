/-
  Texts of this claim put together: Find6, Many, Tk5, Tk6, Tk6b, May6, May6b, EqInt, EqDone, EqCell, EqMark, SameG, Tk5b, Tk5c.
-/
import Derived.Test.YtnkjdijbfnmnhaaGreatJ29
import Derived.Test.YtnkjdijbfnmnhaaGreatJ17
import Derived.Deep.RegionHeldLaw
import Derived.IntWalk
import Derived.Test.YtnkjdijbfnmnhaaGreatJ03
import Derived.Deep.RegionHeld
import Derived.Deep.DeepCutAuto

namespace Go.Proofs.YtnkjdijbfnmnhaaGreat
set_option maxRecDepth 100000
set_option maxHeartbeats 12800000
open Go.RowKit

theorem mI (p:Nat->Bool) (I:Nat->World->Prop) (f:Nat) (cap:Array Value) (s:Sl (DoneM)) (B:Nat) (w:World) (hs:jk w B s) (hB:B<=w.heap.size) (h0:I 0 w)
  (he:∀args w,(callFunc f args).run Tryz.prog w = .ok (.enter f args) w) (hf:∀k x wr,s.l[k]?=some x->Below B w wr->I k wr->Calls Tryz.prog f (#[DoneM.v x]++cap) wr (Ans B wr (p k) (I (k+1)))) :
  Calls Tryz.prog 102 #[s.v, .func (.func f) #[] cap] w fun e w'=>e = .returned (.int .i64 (idxI p s.l.length))/\Below B w w':=by
 obtain ⟨A,c,l⟩:=s
 obtain ⟨h1,h2,h3,h4⟩:=hs
 obtain ⟨n,hn⟩:∃n,l.length=n:=⟨_,rfl⟩
 have HS:=aa h3
 have HF:=aa hf
 have HN:=aa hn
 have HI:=aa h0
 simp only [Sl.v,hn] at h1 h2 ⊢
 have hnm:n<=9223372036854775807:=by unfold maxLen at h2;omega
 clear h3 hf hn h0 h4 h1 h2
 go_enter Tryz.func102,Tryz.ntmps102
 go_wp2
 go_loopw [8] (fun i wr=>∃k:Nat,k<=n/\i = .int .i64 k/\Hid (∀j,j<k->p j=false)/\Hid (I k wr)/\Below B w wr) (fun i _=>n - (intOf i).toNat)
 case atStart=>exact ⟨0,Nat.zero_le _,rfl,(fun j hj=>absurd hj (by omega)),HI.out,Below.refl _ _⟩
 case round =>
  obtain ⟨k,hk,rfl,HJ,HK,hb⟩:=hrel
  by_cases hlt:k<n
  ·obtain ⟨x,hx⟩:∃x,l[k]?=some x:=⟨_,List.getElem?_eq_getElem (by rw [HN.out];exact hlt)⟩
   have hs1:=HS.out.below hb
   obtain ⟨tb,ot,rfl,hab,e0,e1,e2,e3,e4,e5⟩:=hs1.done hx
   have hwz:tb<wr.heap.size:=by have:=hb.size;omega
   have HC:=aa (HF.out k x wr hx hb HK.out)
   have HX:=aa hx
   clear hx hs1
   obtain ⟨cl,sq,er,inc,st,⟨vA,vc,vl⟩⟩:=x
   go_wp2_with fail
   refine HC.out.mono ?_
   rintro en w2 ⟨rfl,hI2,hb2⟩
   have HI2:=aa hI2
   clear hI2
   cases hp:p k with
   | true =>
    have HP:=aa (show idxI p n=k from mf hlt hp HJ.out)
    clear hp
    go_wp2
    go_ret
    exact ⟨fG HP.out.symm,hb.trans hb2⟩
   | false =>
    have HJ2:=aa (show ∀j,j<k+1->p j=false from fun j hj=>by
     by_cases h:j=k
     ·rw [h];exact hp
     ·exact HJ.out j (by omega))
    have HI3:=aa (HI2.out hp)
    clear hp
    go_wp2
    go_roundw
    case rel=>exact ⟨k+1,by omega,by go_num,HJ2,HI3,hb.trans hb2⟩
    case measure=>simp [intOf];omega
  ·obtain rfl:k=n:=by omega
   have HP:=aa (show idxI p k = -1 from jW HJ.out)
   go_wp2
   go_ret
   exact ⟨fG HP.out.symm,hb⟩

theorem jn (p:Nat->Bool) (I:Nat->World->Prop) (f:Nat) (cap:Array Value) (s:Sl (DoneM)) (B:Nat) (w:World) (hs:jk w B s) (hB:B<=w.heap.size) (h0:I 0 w)
  (he:∀args w,(callFunc f args).run Tryz.prog w = .ok (.enter f args) w) (hf:∀k x wr,s.l[k]?=some x->Below B w wr->I k wr->Calls Tryz.prog f (#[DoneM.v x]++cap) wr (Ans B wr (p k) (I (k+1)))) :
  Calls Tryz.prog 293 #[s.v, .func (.func f) #[] cap] w fun e w'=>e = .returned (.bool (anyB p s.l.length))/\Below B w w':=by
 have HC:=aa (mI p I f cap s B w hs hB h0 he hf)
 have HP:=aa (mg p s.l.length)
 clear hf he hs h0
 generalize s.l.length=n at HC HP
 obtain ⟨q,hq⟩:∃q,idxI p n=q:=⟨_,rfl⟩
 rw [hq] at HC HP
 clear hq
 generalize s.v=v at HC
 go_enter Tryz.func293,Tryz.ntmps293
 go_wp2_with fail
 refine HC.out.mono ?_
 rintro en w1 ⟨rfl,hb⟩
 go_wp2
 go_ret
 exact ⟨ae HP.out,hb⟩

theorem mJ (p:Nat->Bool) (I:Nat->World->Prop) (f:Nat) (cap:Array Value) (s:Sl (CelM)) (B:Nat) (w:World) (hs:ga w B s) (hB:B<=w.heap.size) (h0:I 0 w)
  (he:∀args w,(callFunc f args).run Tryz.prog w = .ok (.enter f args) w) (hf:∀k x wr,s.l[k]?=some x->Below B w wr->I k wr->Calls Tryz.prog f (#[celV x]++cap) wr (Ans B wr (p k) (I (k+1)))) :
  Calls Tryz.prog 251 #[s.v, .func (.func f) #[] cap] w fun e w'=>e = .returned (.int .i64 (idxI p s.l.length))/\Below B w w':=by
 obtain ⟨A,c,l⟩:=s
 obtain ⟨h1,h2,h3,h4⟩:=hs
 obtain ⟨n,hn⟩:∃n,l.length=n:=⟨_,rfl⟩
 have HS:=aa h3
 have HF:=aa hf
 have HN:=aa hn
 have HI:=aa h0
 simp only [Sl.v,hn] at h1 h2 ⊢
 have hnm:n<=9223372036854775807:=by unfold maxLen at h2;omega
 clear h3 hf hn h0 h4 h1 h2
 go_enter Tryz.func251,Tryz.ntmps251
 go_wp2
 go_loopw [8] (fun i wr=>∃k:Nat,k<=n/\i = .int .i64 k/\Hid (∀j,j<k->p j=false)/\Hid (I k wr)/\Below B w wr) (fun i _=>n - (intOf i).toNat)
 case atStart=>exact ⟨0,Nat.zero_le _,rfl,(fun j hj=>absurd hj (by omega)),HI.out,Below.refl _ _⟩
 case round =>
  obtain ⟨k,hk,rfl,HJ,HK,hb⟩:=hrel
  by_cases hlt:k<n
  ·obtain ⟨x,hx⟩:∃x,l[k]?=some x:=⟨_,List.getElem?_eq_getElem (by rw [HN.out];exact hlt)⟩
   have hs1:=HS.out.below hb
   obtain ⟨tb,ot,rfl,hab,e0,e1,e2,e3⟩:=hs1.cel hx
   have hwz:tb<wr.heap.size:=by have:=hb.size;omega
   have HC:=aa (HF.out k x wr hx hb HK.out)
   have HX:=aa hx
   clear hx hs1
   obtain ⟨cl,b,c',d⟩:=x
   go_wp2_with fail
   refine HC.out.mono ?_
   rintro en w2 ⟨rfl,hI2,hb2⟩
   have HI2:=aa hI2
   clear hI2
   cases hp:p k with
   | true =>
    have HP:=aa (show idxI p n=k from mf hlt hp HJ.out)
    clear hp
    go_wp2
    go_ret
    exact ⟨fG HP.out.symm,hb.trans hb2⟩
   | false =>
    have HJ2:=aa (show ∀j,j<k+1->p j=false from fun j hj=>by
     by_cases h:j=k
     ·rw [h];exact hp
     ·exact HJ.out j (by omega))
    have HI3:=aa (HI2.out hp)
    clear hp
    go_wp2
    go_roundw
    case rel=>exact ⟨k+1,by omega,by go_num,HJ2,HI3,hb.trans hb2⟩
    case measure=>simp [intOf];omega
  ·obtain rfl:k=n:=by omega
   have HP:=aa (show idxI p k = -1 from jW HJ.out)
   go_wp2
   go_ret
   exact ⟨fG HP.out.symm,hb⟩

theorem jo (p:Nat->Bool) (I:Nat->World->Prop) (f:Nat) (cap:Array Value) (s:Sl (CelM)) (B:Nat) (w:World) (hs:ga w B s) (hB:B<=w.heap.size) (h0:I 0 w)
  (he:∀args w,(callFunc f args).run Tryz.prog w = .ok (.enter f args) w) (hf:∀k x wr,s.l[k]?=some x->Below B w wr->I k wr->Calls Tryz.prog f (#[celV x]++cap) wr (Ans B wr (p k) (I (k+1)))) :
  Calls Tryz.prog 297 #[s.v, .func (.func f) #[] cap] w fun e w'=>e = .returned (.bool (anyB p s.l.length))/\Below B w w':=by
 have HC:=aa (mJ p I f cap s B w hs hB h0 he hf)
 have HP:=aa (mg p s.l.length)
 clear hf he hs h0
 generalize s.l.length=n at HC HP
 obtain ⟨q,hq⟩:∃q,idxI p n=q:=⟨_,rfl⟩
 rw [hq] at HC HP
 clear hq
 generalize s.v=v at HC
 go_enter Tryz.func297,Tryz.ntmps297
 go_wp2_with fail
 refine HC.out.mono ?_
 rintro en w1 ⟨rfl,hb⟩
 go_wp2
 go_ret
 exact ⟨ae HP.out,hb⟩

theorem mK (p:Nat->Bool) (I:Nat->World->Prop) (f:Nat) (cap:Array Value) (s:Sl (MrkM)) (B:Nat) (w:World) (hs:gb w B s) (hB:B<=w.heap.size) (h0:I 0 w)
  (he:∀args w,(callFunc f args).run Tryz.prog w = .ok (.enter f args) w) (hf:∀k x wr,s.l[k]?=some x->Below B w wr->I k wr->Calls Tryz.prog f (#[mrkV x]++cap) wr (Ans B wr (p k) (I (k+1)))) :
  Calls Tryz.prog 311 #[s.v, .func (.func f) #[] cap] w fun e w'=>e = .returned (.int .i64 (idxI p s.l.length))/\Below B w w':=by
 obtain ⟨A,c,l⟩:=s
 obtain ⟨h1,h2,h3,h4⟩:=hs
 obtain ⟨n,hn⟩:∃n,l.length=n:=⟨_,rfl⟩
 have HS:=aa h3
 have HF:=aa hf
 have HN:=aa hn
 have HI:=aa h0
 simp only [Sl.v,hn] at h1 h2 ⊢
 have hnm:n<=9223372036854775807:=by unfold maxLen at h2;omega
 clear h3 hf hn h0 h4 h1 h2
 go_enter Tryz.func311,Tryz.ntmps311
 go_wp2
 go_loopw [8] (fun i wr=>∃k:Nat,k<=n/\i = .int .i64 k/\Hid (∀j,j<k->p j=false)/\Hid (I k wr)/\Below B w wr) (fun i _=>n - (intOf i).toNat)
 case atStart=>exact ⟨0,Nat.zero_le _,rfl,(fun j hj=>absurd hj (by omega)),HI.out,Below.refl _ _⟩
 case round =>
  obtain ⟨k,hk,rfl,HJ,HK,hb⟩:=hrel
  by_cases hlt:k<n
  ·obtain ⟨x,hx⟩:∃x,l[k]?=some x:=⟨_,List.getElem?_eq_getElem (by rw [HN.out];exact hlt)⟩
   have hs1:=HS.out.below hb
   obtain ⟨tb,ot,rfl,hab,e0,e1,e2⟩:=hs1.mrk hx
   have hwz:tb<wr.heap.size:=by have:=hb.size;omega
   have HC:=aa (HF.out k x wr hx hb HK.out)
   have HX:=aa hx
   clear hx hs1
   obtain ⟨cl,b,c'⟩:=x
   go_wp2_with fail
   refine HC.out.mono ?_
   rintro en w2 ⟨rfl,hI2,hb2⟩
   have HI2:=aa hI2
   clear hI2
   cases hp:p k with
   | true =>
    have HP:=aa (show idxI p n=k from mf hlt hp HJ.out)
    clear hp
    go_wp2
    go_ret
    exact ⟨fG HP.out.symm,hb.trans hb2⟩
   | false =>
    have HJ2:=aa (show ∀j,j<k+1->p j=false from fun j hj=>by
     by_cases h:j=k
     ·rw [h];exact hp
     ·exact HJ.out j (by omega))
    have HI3:=aa (HI2.out hp)
    clear hp
    go_wp2
    go_roundw
    case rel=>exact ⟨k+1,by omega,by go_num,HJ2,HI3,hb.trans hb2⟩
    case measure=>simp [intOf];omega
  ·obtain rfl:k=n:=by omega
   have HP:=aa (show idxI p k = -1 from jW HJ.out)
   go_wp2
   go_ret
   exact ⟨fG HP.out.symm,hb⟩

theorem jp (p:Nat->Bool) (I:Nat->World->Prop) (f:Nat) (cap:Array Value) (s:Sl (MrkM)) (B:Nat) (w:World) (hs:gb w B s) (hB:B<=w.heap.size) (h0:I 0 w)
  (he:∀args w,(callFunc f args).run Tryz.prog w = .ok (.enter f args) w) (hf:∀k x wr,s.l[k]?=some x->Below B w wr->I k wr->Calls Tryz.prog f (#[mrkV x]++cap) wr (Ans B wr (p k) (I (k+1)))) :
  Calls Tryz.prog 246 #[s.v, .func (.func f) #[] cap] w fun e w'=>e = .returned (.bool (anyB p s.l.length))/\Below B w w':=by
 have HC:=aa (mK p I f cap s B w hs hB h0 he hf)
 have HP:=aa (mg p s.l.length)
 clear hf he hs h0
 generalize s.l.length=n at HC HP
 obtain ⟨q,hq⟩:∃q,idxI p n=q:=⟨_,rfl⟩
 rw [hq] at HC HP
 clear hq
 generalize s.v=v at HC
 go_enter Tryz.func246,Tryz.ntmps246
 go_wp2_with fail
 refine HC.out.mono ?_
 rintro en w1 ⟨rfl,hb⟩
 go_wp2
 go_ret
 exact ⟨ae HP.out,hb⟩


section
variable {P : Program}
theorem bW {α:Type} {T:TypeId} {q:Nat} {cs:α->List Value} {p:World->Nat->α->Prop} {f:α->Nat->Prop} {lo:Nat} {v:Value} {xs:List α} (w:World) {ops:Array Oper} {rest:List Oper} {o:Oper} {a:Act} {Q:Exit->Act->World->Prop}
  (hgd:Region.wanted o (yielded ops a.tmps)=true) (so xo:Operand) (t:TypeId) (ho:o.op = .call { callee := .builtin .append,args := #[so,xo],argTypes := #[t,t] })
  (z:Value) (bytes:Nat) (hinfo:(P.info? T).map (fun i=>(i.zero,i.size,i.bytes))=some (some z,q,bytes)) (hzs:z.cells.size=q) (hq:0<q) (hby:bytes<=1000) (ht:P.underlying t=some (.slice T))
  (hC:Coll T q cs p f lo v xs w) (hp:Local p f) (x:α) (hx:p w w.heap.size x) (hfx:∀k,f x k->(lo<=k/\k<w.heap.size)/\v.ownBlock≠some k) (hlo:lo<=w.heap.size)
  (cells:Array Value) (hcells:cells.toList=cs x) (hlen:(cs x).length=q) (hone:∀u∈cs x,u.oneCell'=true) (hn:xs.length<=100000)
  (hs:a.eval so=v) (hxo:a.eval xo = .slice (some ⟨w.heap.size,0,none⟩) 1 1)
  (h:∀A' c' w',Coll T q cs p f lo (.slice A' (xs.length+1) c') (xs++[x]) w'->w.grownBy w' v.ownBlock->wpList P ops Q rest (a.put o.dst (.slice A' (xs.length+1) c')) w'):wpList P ops Q (o::rest) a (w.alloc (.cells cells T)):=by
 refine wpList_step fun _ hK => ?_
 rw [if_pos hgd]
 obtain ⟨i0,hi,hz0,hz1,hz2⟩:=info_parts hinfo
 have hA:Below w.heap.size w (w.alloc (.cells cells T)):=(Below.refl _ _).alloc (Nat.le_refl _) _
 have hC2:=hC.below hp hA
 have hsz:(w.alloc (.cells cells T)).heap.size=w.heap.size+1:=by simp
 obtain ⟨v',w',hrun,h2,h3,h4⟩:=bZ (P:=P) (w.alloc (.cells cells T)) lo t o.type T i0 z q bytes ht hi hz0 hz1 hz2 hzs hq v xs.length (xs.flatMap cs) hC2.own (w.heap.size+1) (some ⟨w.heap.size,0,none⟩) 1 1 (cs x) (by rw [hlen,Nat.one_mul]) (dm w cells T (cs x) hcells) hone (by unfold maxLen;omega)
  (Nat.le_trans (Nat.mul_le_mul (show xs.length+1<=100001 by omega) hby) (by decide)) (by omega)
 have hv:∃A' c',v' = .slice A' (xs.length+1) c':=by
  rcases h2.2 with ⟨rfl,h0⟩ | ⟨g,cap,cur,rfl,_⟩
  ·exact ⟨none,0,by rw [h0]⟩
  ·exact ⟨_,_,rfl⟩
 obtain ⟨A',c',rfl⟩:=hv
 unfold Oper.wp execOp
 simp only [ho,resolve,invoke,builtin,Sem.run_bind,Sem.run_pure,Result.andThen_ok,List.map_toArray,List.map_cons,List.map_nil,hs,hxo,hrun]
 refine hK _ _ (h A' c' w' ?_ ?_)
 ·refine hC2.snoc hp (hp.below hx hA) (fun k hk => ?_) h2 h3 fun k hk => ?_
  ·have:=hfx k hk
   exact ⟨by omega,this.2⟩
  ·rcases h4 with h4|h4
   ·exact .inl (h4 ▸ hk)
   ·rw [h4] at hk
    injection hk with hk
    exact .inr (by omega)
 ·exact (World.grownBy_alloc w _ _).trans h3
end

theorem jA {α:Type} {T:TypeId} {q:Nat} {cs:α->List Value} {p:World->Nat->α->Prop} {f:α->Nat->Prop} {lo:Nat} {v:Value} {xs:List α} {w w':World} {x:α} (hC:Coll T q cs p f lo v xs w) (hlo:lo<=w.heap.size) (hx:Lies f x w.heap.size w'.heap.size) :
  ∀k,f x k->(lo<=k/\k<w'.heap.size)/\v.ownBlock≠some k:=fun k hk=>by
 have h1:=hx k hk
 refine ⟨⟨by omega,h1.2⟩,fun e => ?_⟩
 have:=(hC.own.lt k e).2
 omega
theorem dQ {α:Type} {T:TypeId} {q:Nat} {cs:α->List Value} {p:World->Nat->α->Prop} {f:α->Nat->Prop} {lo:Nat} {v:Value} {xs:List α} {w:World} (hC:Coll T q cs p f lo v xs w):∀k,v.ownBlock=some k->lo<=k:=fun k e=>(hC.own.lt k e).1

def aS (g:Nat):Value := .agg #[.pointer (some ⟨g,0,none⟩)]
def tokV (t:Int × Int):Value := .agg #[.int .u8 t.1, .int .i64 t.2]
def SetM.bare (s:SetM):SetM:=⟨s.var,⟨none,0,s.val.l⟩⟩
def EmM.bare (s:EmM):EmM:=⟨s.tg,s.ac,⟨none,0,s.arg.l⟩⟩
def RuM.bare (r:RuM):RuM:=⟨r.fr,r.ac,r.pa,r.tt,⟨none,0,r.gu.l⟩,⟨none,0,r.se.l.map SetM.bare⟩,⟨none,0,r.em.l.map EmM.bare⟩⟩


def intV (x:Int):Value := .int .i64 x
theorem oo:(Tryz.prog.info? 106).map (fun i=>(i.zero,i.size,i.bytes))=some (some (.agg #[.int .u8 0, .int .u64 0, .int .i64 0, .int .u64 0, .int .i64 0, .slice none 0 0]),6,64):=by kernel_rfl
theorem oq:(Tryz.prog.info? 110).map (fun i=>(i.zero,i.size,i.bytes))=some (some (.agg #[.int .u8 0, .int .u64 0, .int .u64 0]),3,24):=by kernel_rfl
theorem zn (x:Int):∀u∈intC x,u.oneCell'=true:=by
 intro u hu
 simp only [intC,List.mem_cons,List.not_mem_nil,or_false] at hu
 rcases hu with rfl
 rfl
theorem zo (x:CelM):∀u∈celC x,u.oneCell'=true:=by
 intro u hu
 simp only [celC,List.mem_cons,List.not_mem_nil,or_false] at hu
 rcases hu with rfl|rfl|rfl|rfl <;> rfl
theorem zp (x:MrkM):∀u∈mrkC x,u.oneCell'=true:=by
 intro u hu
 simp only [mrkC,List.mem_cons,List.not_mem_nil,or_false] at hu
 rcases hu with rfl|rfl|rfl <;> rfl
theorem wb (x:DoneM):∀u∈x.cs,u.oneCell'=true:=by
 intro u hu
 simp only [DoneM.cs,List.mem_cons,List.not_mem_nil,or_false,Sl.v] at hu
 rcases hu with rfl|rfl|rfl|rfl|rfl|rfl <;> rfl

theorem ce {g:Nat} {s:RS} {w:World} (h:Rdr w g s.1 s.2) (hs:RSok s):Calls Tryz.prog 265 #[aS g] w (iw w g (.int .i64 (numS 1000 s).1) (numS 1000 s).2):=by
 have H:=aa (h.made (.cells #[.pointer (some ⟨g,0,none⟩)] 283))
 have HS:=aa hs
 have hb:=(aG (most:=1000) hs).2
 have HC:=aa (n8 1000 H.out hs)
 obtain ⟨n,hn⟩:∃n,(numS 1000 s).1=n:=⟨_,rfl⟩
 obtain ⟨s2,hs2⟩:∃s2,(numS 1000 s).2=s2:=⟨_,rfl⟩
 rw [hn] at hb
 rw [hn,hs2] at HC ⊢
 unfold aS
 clear h hs hn hs2
 go_enter Tryz.func265,Tryz.ntmps265
 go_wp2_with fail
 refine HC.out.mono ?_
 rintro e w1 ⟨rfl,hr1,hg1⟩
 go_wp2
 go_ret
 exact ⟨rfl,hr1,aj hg1⟩

theorem eO {g:Nat} {s:RS} {w:World} (h:Rdr w g s.1 s.2) (hs:RSok s):Calls Tryz.prog 263 #[aS g] w (iw w g (.int .u8 (numS 255 s).1) (numS 255 s).2):=by
 have H:=aa (h.made (.cells #[.pointer (some ⟨g,0,none⟩)] 283))
 have HS:=aa hs
 have hb:=(aG (most:=255) hs).2
 have HC:=aa (n8 255 H.out hs)
 obtain ⟨n,hn⟩:∃n,(numS 255 s).1=n:=⟨_,rfl⟩
 obtain ⟨s2,hs2⟩:∃s2,(numS 255 s).2=s2:=⟨_,rfl⟩
 rw [hn] at hb
 rw [hn,hs2] at HC ⊢
 unfold aS
 clear h hs hn hs2
 go_enter Tryz.func263,Tryz.ntmps263
 go_wp2_with fail
 refine HC.out.mono ?_
 rintro e w1 ⟨rfl,hr1,hg1⟩
 go_wp2
 go_ret
 exact ⟨rfl,hr1,aj hg1⟩

theorem mL {g:Nat} {s:RS} {w:World} (h:Rdr w g s.1 s.2) (hs:RSok s):Calls Tryz.prog 264 #[aS g] w (iw w g (.int .u64 (numS 18446744073709551615 s).1) (numS 18446744073709551615 s).2):=by
 have H:=aa (h.made (.cells #[.pointer (some ⟨g,0,none⟩)] 283))
 have HS:=aa hs
 have hb:=(aG (most:=18446744073709551615) hs).2
 have HC:=aa (n8 18446744073709551615 H.out hs)
 obtain ⟨n,hn⟩:∃n,(numS 18446744073709551615 s).1=n:=⟨_,rfl⟩
 obtain ⟨s2,hs2⟩:∃s2,(numS 18446744073709551615 s).2=s2:=⟨_,rfl⟩
 rw [hn] at hb
 rw [hn,hs2] at HC ⊢
 unfold aS
 clear h hs hn hs2
 go_enter Tryz.func264,Tryz.ntmps264
 go_wp2_with fail
 refine HC.out.mono ?_
 rintro e w1 ⟨rfl,hr1,hg1⟩
 go_wp2
 go_ret
 exact ⟨rfl,hr1,aj hg1⟩

def aC (s:RS):Nat × RS:=numS 18446744073709551615 s
theorem aO {s:RS} (h:RSok s):RSok (aC s).2/\U64 ((aC s).1:Int):=⟨(aG h).1,by
 have h1:=(aG (most:=18446744073709551615) h).2
 unfold U64 aC
 omega⟩
theorem ci {g:Nat} {s:RS} {w:World} (h:Rdr w g s.1 s.2) (hs:RSok s):Calls Tryz.prog 264 #[aS g] w (iw w g (.int .u64 (aC s).1) (aC s).2):=mL h hs

theorem ov {β:Type} {g:Nat} {s:RS} {w:World} (pp:Int->β) (fn:Nat) (bound cap:Array Value) (fS:RS->β × RS) (h:Rdr w g s.1 s.2) (hs:RSok s) (hfS:∀s,RSok s->RSok (fS s).2)
  (he:∀args w,(callFunc fn args).run Tryz.prog w = .ok (.enter fn args) w)
  (hf:∀w1 s1,w.grownBy w1 (some g)->Rdr w1 g s1.1 s1.2->RSok s1->Calls Tryz.prog fn (bound++cap) w1 (gv intV pp (fun _ _ x=>I64 x) noFt w1 g (fS s1))) :
  Calls Tryz.prog 266 #[aS g, .func (.func fn) bound cap] w (gv Sl.v (fun x=>x.l.map pp) intsOk (Sl.ft noFt) w g (aX 1000 fS s)):=by
 have H:=aa (h.made (.cells #[.pointer (some ⟨g,0,none⟩)] 283))
 have hgl:g<w.heap.size:=h.glt
 have hb:=(aG (most:=1000) hs).2
 have HS1:=aa (aG (most:=1000) hs).1
 have HC:=aa (ce H.out hs)
 have HF:=aa hf
 have HFS:=aa hfS
 have HR:=aa (show aX 1000 fS s=bk fS (numS 1000 s).1 (numS 1000 s).2 from rfl)
 obtain ⟨n,hn⟩:∃n,(numS 1000 s).1=n:=⟨_,rfl⟩
 obtain ⟨s1,hs1⟩:∃s1,(numS 1000 s).2=s1:=⟨_,rfl⟩
 rw [hn] at hb
 rw [hs1] at HS1
 rw [hn,hs1] at HC HR
 rw [HR.out]
 unfold aS
 have hnn:n<=1000:=by omega
 clear h hs hn hs1 hf hfS HR
 go_enter Tryz.func266,Tryz.ntmps266
 go_wp2_with fail
 refine HC.out.mono ?_
 rintro e w1 ⟨rfl,hr1,hg1⟩
 have HR1:=aa hr1
 have HG1:=aa (aj hg1)
 clear hr1 hg1 HC
 go_wp2
 go_loopw [5,8] (fun v i wr=>∃(k:Nat) (xs:List (Int)),k<=n/\i = .int .i64 k/\xs.length=k/\Hid (xs.map pp=(bk fS k s1).1)/\Hid (Coll 2 1 intC (fun _ _ x=>I64 x) noFt w.heap.size v xs wr)/\Hid (Rdr wr g (bk fS k s1).2.1 (bk fS k s1).2.2)/\Hid (w.grownBy wr (some g))) (fun _ i _=>n - (intOf i).toNat)
 case atStart=>exact ⟨0,[],Nat.zero_le _,rfl,rfl,rfl,Coll.nil _,HR1.out,HG1.out⟩
 case round =>
  obtain ⟨k,xs,hk,rfl,hxs,HX,HCO,HRD,HG⟩:=hrel
  by_cases hlt:k<n
  ·have HCALL:=aa (HF.out _ _ HG.out HRD.out (gI HFS.out k s1 HS1.out))
   have hzw:w.heap.size<=wr.heap.size:=HG.out.size
   go_wp2_with fail
   refine HCALL.out.mono ?_
   rintro e w2 ⟨x,rfl,hpx,hok,hli,hrd,hg2⟩
   have HX2:=aa (show (xs++[x]).map pp=(bk fS (k+1) s1).1 by rw [cH,List.map_append,HX.out,<- hpx];rfl)
   have HR2:=aa (show Rdr w2 g (bk fS (k+1) s1).2.1 (bk fS (k+1) s1).2.2 by rw [cH];exact hrd)
   have HG2:=aa (ag HG.out hg2)
   have HCO2:=aa (HCO.out.grown (bz I64) hg2 hgl)
   have HFAR:=aa (show ∀k,noFt x k->(w.heap.size<=k/\k<w2.heap.size)/\_ from jA HCO.out hzw hli)
   have HOK:=aa hok
   have HLEN:=aa hxs
   have hz2:w.heap.size<=w2.heap.size:=HG2.out.size
   have hxl:xs.length<=100000:=by omega
   clear hpx hok hli hrd hg2 HX HCO HRD HG HCALL hxs
   obtain ⟨x0,hx0⟩:∃x0,x0=x:=⟨_,rfl⟩
   have HX0:=aa hx0
   rw [<- hx0] at HX2 HFAR HOK
   clear hx0
   simp only [intV]
   go_wp2_with (at_builtin;refine bW w2 rfl _ _ 26 rfl _ _ rq rfl (by omega) (by omega) Tryz.underlying26 HCO2.out (bz I64) x0 HOK.out HFAR.out hz2 _ (by rw [HX0.out];rfl) rfl (zn _) hxl rfl rfl ?_;intro A3 c3 w3 hco3 hg3;(have HCO3:=aa hco3);(have HG3:=aa (aQ HG2.out hg3 (dQ HCO2.out)));(have HR3:=aa (HR2.out.other hg3 (fun k hk=>by (have:=dQ HCO2.out k hk);omega)));clear hco3 hg3)
   go_roundw
   case rel=>exact ⟨k+1,xs++[x0],by omega,by go_num,by simp [HLEN.out],HX2,HCO3,HR3,HG3⟩
   case measure=>simp [intOf];omega
  ·obtain rfl:k=n:=by omega
   obtain ⟨A,c,hA⟩:=HCO.out.val
   subst hA
   obtain ⟨hso,hsl⟩:=HCO.out.slice rfl
   have HSO:=aa hso
   have HSL:=aa hsl
   clear hso hsl
   go_wp2
   go_ret
   exact ⟨⟨A,c,xs⟩,rfl,HX.out,HSO.out,HSL.out,HRD.out,HG.out⟩

theorem mM {β:Type} {g:Nat} {s:RS} {w:World} (pp:DoneM->β) (fn:Nat) (bound cap:Array Value) (fS:RS->β × RS) (h:Rdr w g s.1 s.2) (hs:RSok s) (hfS:∀s,RSok s->RSok (fS s).2)
  (he:∀args w,(callFunc fn args).run Tryz.prog w = .ok (.enter fn args) w)
  (hf:∀w1 s1,w.grownBy w1 (some g)->Rdr w1 g s1.1 s1.2->RSok s1->Calls Tryz.prog fn (bound++cap) w1 (gv DoneM.v pp DoneM.ok DoneM.ft w1 g (fS s1))) :
  Calls Tryz.prog 268 #[aS g, .func (.func fn) bound cap] w (gv Sl.v (fun x=>x.l.map pp) jk (Sl.ft DoneM.ft) w g (aX 1000 fS s)):=by
 have H:=aa (h.made (.cells #[.pointer (some ⟨g,0,none⟩)] 283))
 have hgl:g<w.heap.size:=h.glt
 have hb:=(aG (most:=1000) hs).2
 have HS1:=aa (aG (most:=1000) hs).1
 have HC:=aa (ce H.out hs)
 have HF:=aa hf
 have HFS:=aa hfS
 have HR:=aa (show aX 1000 fS s=bk fS (numS 1000 s).1 (numS 1000 s).2 from rfl)
 obtain ⟨n,hn⟩:∃n,(numS 1000 s).1=n:=⟨_,rfl⟩
 obtain ⟨s1,hs1⟩:∃s1,(numS 1000 s).2=s1:=⟨_,rfl⟩
 rw [hn] at hb
 rw [hs1] at HS1
 rw [hn,hs1] at HC HR
 rw [HR.out]
 unfold aS
 have hnn:n<=1000:=by omega
 clear h hs hn hs1 hf hfS HR
 go_enter Tryz.func268,Tryz.ntmps268
 go_wp2_with fail
 refine HC.out.mono ?_
 rintro e w1 ⟨rfl,hr1,hg1⟩
 have HR1:=aa hr1
 have HG1:=aa (aj hg1)
 clear hr1 hg1 HC
 go_wp2
 go_loopw [5,8] (fun v i wr=>∃(k:Nat) (xs:List (DoneM)),k<=n/\i = .int .i64 k/\xs.length=k/\Hid (xs.map pp=(bk fS k s1).1)/\Hid (Coll 106 6 DoneM.cs DoneM.ok DoneM.ft w.heap.size v xs wr)/\Hid (Rdr wr g (bk fS k s1).2.1 (bk fS k s1).2.2)/\Hid (w.grownBy wr (some g))) (fun _ i _=>n - (intOf i).toNat)
 case atStart=>exact ⟨0,[],Nat.zero_le _,rfl,rfl,rfl,Coll.nil _,HR1.out,HG1.out⟩
 case round =>
  obtain ⟨k,xs,hk,rfl,hxs,HX,HCO,HRD,HG⟩:=hrel
  by_cases hlt:k<n
  ·have HCALL:=aa (HF.out _ _ HG.out HRD.out (gI HFS.out k s1 HS1.out))
   have hzw:w.heap.size<=wr.heap.size:=HG.out.size
   go_wp2_with fail
   refine HCALL.out.mono ?_
   rintro e w2 ⟨x,rfl,hpx,hok,hli,hrd,hg2⟩
   have HX2:=aa (show (xs++[x]).map pp=(bk fS (k+1) s1).1 by rw [cH,List.map_append,HX.out,<- hpx];rfl)
   have HR2:=aa (show Rdr w2 g (bk fS (k+1) s1).2.1 (bk fS (k+1) s1).2.2 by rw [cH];exact hrd)
   have HG2:=aa (ag HG.out hg2)
   have HCO2:=aa (HCO.out.grown (iB) hg2 hgl)
   have HFAR:=aa (show ∀k,DoneM.ft x k->(w.heap.size<=k/\k<w2.heap.size)/\_ from jA HCO.out hzw hli)
   have HOK:=aa hok
   have HLEN:=aa hxs
   have hz2:w.heap.size<=w2.heap.size:=HG2.out.size
   have hxl:xs.length<=100000:=by omega
   clear hpx hok hli hrd hg2 HX HCO HRD HG HCALL hxs
   obtain ⟨x0,hx0⟩:∃x0,x0=x:=⟨_,rfl⟩
   have HX0:=aa hx0
   rw [<- hx0] at HX2 HFAR HOK
   clear hx0
   obtain ⟨cl,sq,er,inc,st,⟨vA,vc,vl⟩⟩:=x
   simp only [DoneM.v,Sl.v]
   go_wp2_with (at_builtin;refine bW w2 rfl _ _ 27 rfl _ _ oo rfl (by omega) (by omega) Tryz.underlying27 HCO2.out (iB) x0 HOK.out HFAR.out hz2 _ (by rw [HX0.out];rfl) rfl (wb _) hxl rfl rfl ?_;intro A3 c3 w3 hco3 hg3;(have HCO3:=aa hco3);(have HG3:=aa (aQ HG2.out hg3 (dQ HCO2.out)));(have HR3:=aa (HR2.out.other hg3 (fun k hk=>by (have:=dQ HCO2.out k hk);omega)));clear hco3 hg3)
   go_roundw
   case rel=>exact ⟨k+1,xs++[x0],by omega,by go_num,by simp [HLEN.out],HX2,HCO3,HR3,HG3⟩
   case measure=>simp [intOf];omega
  ·obtain rfl:k=n:=by omega
   obtain ⟨A,c,hA⟩:=HCO.out.val
   subst hA
   obtain ⟨hso,hsl⟩:=HCO.out.slice rfl
   have HSO:=aa hso
   have HSL:=aa hsl
   clear hso hsl
   go_wp2
   go_ret
   exact ⟨⟨A,c,xs⟩,rfl,HX.out,HSO.out,HSL.out,HRD.out,HG.out⟩

theorem mN {β:Type} {g:Nat} {s:RS} {w:World} (pp:CelM->β) (fn:Nat) (bound cap:Array Value) (fS:RS->β × RS) (h:Rdr w g s.1 s.2) (hs:RSok s) (hfS:∀s,RSok s->RSok (fS s).2)
  (he:∀args w,(callFunc fn args).run Tryz.prog w = .ok (.enter fn args) w)
  (hf:∀w1 s1,w.grownBy w1 (some g)->Rdr w1 g s1.1 s1.2->RSok s1->Calls Tryz.prog fn (bound++cap) w1 (gv celV pp (fun _ _ c=>jm c) noFt w1 g (fS s1))) :
  Calls Tryz.prog 270 #[aS g, .func (.func fn) bound cap] w (gv Sl.v (fun x=>x.l.map pp) ga (Sl.ft noFt) w g (aX 1000 fS s)):=by
 have H:=aa (h.made (.cells #[.pointer (some ⟨g,0,none⟩)] 283))
 have hgl:g<w.heap.size:=h.glt
 have hb:=(aG (most:=1000) hs).2
 have HS1:=aa (aG (most:=1000) hs).1
 have HC:=aa (ce H.out hs)
 have HF:=aa hf
 have HFS:=aa hfS
 have HR:=aa (show aX 1000 fS s=bk fS (numS 1000 s).1 (numS 1000 s).2 from rfl)
 obtain ⟨n,hn⟩:∃n,(numS 1000 s).1=n:=⟨_,rfl⟩
 obtain ⟨s1,hs1⟩:∃s1,(numS 1000 s).2=s1:=⟨_,rfl⟩
 rw [hn] at hb
 rw [hs1] at HS1
 rw [hn,hs1] at HC HR
 rw [HR.out]
 unfold aS
 have hnn:n<=1000:=by omega
 clear h hs hn hs1 hf hfS HR
 go_enter Tryz.func270,Tryz.ntmps270
 go_wp2_with fail
 refine HC.out.mono ?_
 rintro e w1 ⟨rfl,hr1,hg1⟩
 have HR1:=aa hr1
 have HG1:=aa (aj hg1)
 clear hr1 hg1 HC
 go_wp2
 go_loopw [5,8] (fun v i wr=>∃(k:Nat) (xs:List (CelM)),k<=n/\i = .int .i64 k/\xs.length=k/\Hid (xs.map pp=(bk fS k s1).1)/\Hid (Coll 108 4 celC (fun _ _ c=>jm c) noFt w.heap.size v xs wr)/\Hid (Rdr wr g (bk fS k s1).2.1 (bk fS k s1).2.2)/\Hid (w.grownBy wr (some g))) (fun _ i _=>n - (intOf i).toNat)
 case atStart=>exact ⟨0,[],Nat.zero_le _,rfl,rfl,rfl,Coll.nil _,HR1.out,HG1.out⟩
 case round =>
  obtain ⟨k,xs,hk,rfl,hxs,HX,HCO,HRD,HG⟩:=hrel
  by_cases hlt:k<n
  ·have HCALL:=aa (HF.out _ _ HG.out HRD.out (gI HFS.out k s1 HS1.out))
   have hzw:w.heap.size<=wr.heap.size:=HG.out.size
   go_wp2_with fail
   refine HCALL.out.mono ?_
   rintro e w2 ⟨x,rfl,hpx,hok,hli,hrd,hg2⟩
   have HX2:=aa (show (xs++[x]).map pp=(bk fS (k+1) s1).1 by rw [cH,List.map_append,HX.out,<- hpx];rfl)
   have HR2:=aa (show Rdr w2 g (bk fS (k+1) s1).2.1 (bk fS (k+1) s1).2.2 by rw [cH];exact hrd)
   have HG2:=aa (ag HG.out hg2)
   have HCO2:=aa (HCO.out.grown (bz jm) hg2 hgl)
   have HFAR:=aa (show ∀k,noFt x k->(w.heap.size<=k/\k<w2.heap.size)/\_ from jA HCO.out hzw hli)
   have HOK:=aa hok
   have HLEN:=aa hxs
   have hz2:w.heap.size<=w2.heap.size:=HG2.out.size
   have hxl:xs.length<=100000:=by omega
   clear hpx hok hli hrd hg2 HX HCO HRD HG HCALL hxs
   obtain ⟨x0,hx0⟩:∃x0,x0=x:=⟨_,rfl⟩
   have HX0:=aa hx0
   rw [<- hx0] at HX2 HFAR HOK
   clear hx0
   obtain ⟨a,b,c,d⟩:=x
   simp only [celV]
   go_wp2_with (at_builtin;refine bW w2 rfl _ _ 28 rfl _ _ nZ rfl (by omega) (by omega) Tryz.underlying28 HCO2.out (bz jm) x0 HOK.out HFAR.out hz2 _ (by rw [HX0.out];rfl) rfl (zo _) hxl rfl rfl ?_;intro A3 c3 w3 hco3 hg3;(have HCO3:=aa hco3);(have HG3:=aa (aQ HG2.out hg3 (dQ HCO2.out)));(have HR3:=aa (HR2.out.other hg3 (fun k hk=>by (have:=dQ HCO2.out k hk);omega)));clear hco3 hg3)
   go_roundw
   case rel=>exact ⟨k+1,xs++[x0],by omega,by go_num,by simp [HLEN.out],HX2,HCO3,HR3,HG3⟩
   case measure=>simp [intOf];omega
  ·obtain rfl:k=n:=by omega
   obtain ⟨A,c,hA⟩:=HCO.out.val
   subst hA
   obtain ⟨hso,hsl⟩:=HCO.out.slice rfl
   have HSO:=aa hso
   have HSL:=aa hsl
   clear hso hsl
   go_wp2
   go_ret
   exact ⟨⟨A,c,xs⟩,rfl,HX.out,HSO.out,HSL.out,HRD.out,HG.out⟩

theorem mO {β:Type} {g:Nat} {s:RS} {w:World} (pp:MrkM->β) (fn:Nat) (bound cap:Array Value) (fS:RS->β × RS) (h:Rdr w g s.1 s.2) (hs:RSok s) (hfS:∀s,RSok s->RSok (fS s).2)
  (he:∀args w,(callFunc fn args).run Tryz.prog w = .ok (.enter fn args) w)
  (hf:∀w1 s1,w.grownBy w1 (some g)->Rdr w1 g s1.1 s1.2->RSok s1->Calls Tryz.prog fn (bound++cap) w1 (gv mrkV pp (fun _ _ c=>gP c) noFt w1 g (fS s1))) :
  Calls Tryz.prog 272 #[aS g, .func (.func fn) bound cap] w (gv Sl.v (fun x=>x.l.map pp) gb (Sl.ft noFt) w g (aX 1000 fS s)):=by
 have H:=aa (h.made (.cells #[.pointer (some ⟨g,0,none⟩)] 283))
 have hgl:g<w.heap.size:=h.glt
 have hb:=(aG (most:=1000) hs).2
 have HS1:=aa (aG (most:=1000) hs).1
 have HC:=aa (ce H.out hs)
 have HF:=aa hf
 have HFS:=aa hfS
 have HR:=aa (show aX 1000 fS s=bk fS (numS 1000 s).1 (numS 1000 s).2 from rfl)
 obtain ⟨n,hn⟩:∃n,(numS 1000 s).1=n:=⟨_,rfl⟩
 obtain ⟨s1,hs1⟩:∃s1,(numS 1000 s).2=s1:=⟨_,rfl⟩
 rw [hn] at hb
 rw [hs1] at HS1
 rw [hn,hs1] at HC HR
 rw [HR.out]
 unfold aS
 have hnn:n<=1000:=by omega
 clear h hs hn hs1 hf hfS HR
 go_enter Tryz.func272,Tryz.ntmps272
 go_wp2_with fail
 refine HC.out.mono ?_
 rintro e w1 ⟨rfl,hr1,hg1⟩
 have HR1:=aa hr1
 have HG1:=aa (aj hg1)
 clear hr1 hg1 HC
 go_wp2
 go_loopw [5,8] (fun v i wr=>∃(k:Nat) (xs:List (MrkM)),k<=n/\i = .int .i64 k/\xs.length=k/\Hid (xs.map pp=(bk fS k s1).1)/\Hid (Coll 110 3 mrkC (fun _ _ c=>gP c) noFt w.heap.size v xs wr)/\Hid (Rdr wr g (bk fS k s1).2.1 (bk fS k s1).2.2)/\Hid (w.grownBy wr (some g))) (fun _ i _=>n - (intOf i).toNat)
 case atStart=>exact ⟨0,[],Nat.zero_le _,rfl,rfl,rfl,Coll.nil _,HR1.out,HG1.out⟩
 case round =>
  obtain ⟨k,xs,hk,rfl,hxs,HX,HCO,HRD,HG⟩:=hrel
  by_cases hlt:k<n
  ·have HCALL:=aa (HF.out _ _ HG.out HRD.out (gI HFS.out k s1 HS1.out))
   have hzw:w.heap.size<=wr.heap.size:=HG.out.size
   go_wp2_with fail
   refine HCALL.out.mono ?_
   rintro e w2 ⟨x,rfl,hpx,hok,hli,hrd,hg2⟩
   have HX2:=aa (show (xs++[x]).map pp=(bk fS (k+1) s1).1 by rw [cH,List.map_append,HX.out,<- hpx];rfl)
   have HR2:=aa (show Rdr w2 g (bk fS (k+1) s1).2.1 (bk fS (k+1) s1).2.2 by rw [cH];exact hrd)
   have HG2:=aa (ag HG.out hg2)
   have HCO2:=aa (HCO.out.grown (bz gP) hg2 hgl)
   have HFAR:=aa (show ∀k,noFt x k->(w.heap.size<=k/\k<w2.heap.size)/\_ from jA HCO.out hzw hli)
   have HOK:=aa hok
   have HLEN:=aa hxs
   have hz2:w.heap.size<=w2.heap.size:=HG2.out.size
   have hxl:xs.length<=100000:=by omega
   clear hpx hok hli hrd hg2 HX HCO HRD HG HCALL hxs
   obtain ⟨x0,hx0⟩:∃x0,x0=x:=⟨_,rfl⟩
   have HX0:=aa hx0
   rw [<- hx0] at HX2 HFAR HOK
   clear hx0
   obtain ⟨a,b,c⟩:=x
   simp only [mrkV]
   go_wp2_with (at_builtin;refine bW w2 rfl _ _ 29 rfl _ _ oq rfl (by omega) (by omega) Tryz.underlying29 HCO2.out (bz gP) x0 HOK.out HFAR.out hz2 _ (by rw [HX0.out];rfl) rfl (zp _) hxl rfl rfl ?_;intro A3 c3 w3 hco3 hg3;(have HCO3:=aa hco3);(have HG3:=aa (aQ HG2.out hg3 (dQ HCO2.out)));(have HR3:=aa (HR2.out.other hg3 (fun k hk=>by (have:=dQ HCO2.out k hk);omega)));clear hco3 hg3)
   go_roundw
   case rel=>exact ⟨k+1,xs++[x0],by omega,by go_num,by simp [HLEN.out],HX2,HCO3,HR3,HG3⟩
   case measure=>simp [intOf];omega
  ·obtain rfl:k=n:=by omega
   obtain ⟨A,c,hA⟩:=HCO.out.val
   subst hA
   obtain ⟨hso,hsl⟩:=HCO.out.slice rfl
   have HSO:=aa hso
   have HSL:=aa hsl
   clear hso hsl
   go_wp2
   go_ret
   exact ⟨⟨A,c,xs⟩,rfl,HX.out,HSO.out,HSL.out,HRD.out,HG.out⟩


structure RepM where
 er:Int
 inc:Int
 st:Int
 va:IntS
def RepM.v (d:RepM):Value := .agg #[.int .i64 d.er, .int .u64 d.inc, .int .i64 d.st,d.va.v]
def RepM.ok (w:World) (B:Nat) (d:RepM):Prop:=(I64 d.er/\U64 d.inc/\I64 d.st)/\intsOk w B d.va
def RepM.ft (d:RepM):Nat->Prop:=Sl.ft noFt d.va
def RepM.p (d:RepM):RepP:=(d.er,d.inc,d.st,d.va.l)
theorem d9:Local RepM.ok RepM.ft:=fun w w' B B' x h hk hB=>⟨h.1,ints_local w w' B B' x.va h.2 hk hB⟩
theorem CB:Stable RepM.ok:=fun w w' B B' x h hk hB=>⟨h.1,ints_stable w w' B B' x.va h.2 hk hB⟩
theorem Bv {w:World} {B:Nat} {a b:Int} {r:RepM} (h1:U8 a) (h2:U64 b) (h:RepM.ok w B r):DoneM.ok w B ⟨a,b,r.er,r.inc,r.st,r.va⟩:=⟨⟨h1,h2,h.1⟩,h.2⟩

def varS (s:RS):List Int × RS:=aX 1000 intS s
def repS (s:RS):RepP × RS :=
 ((((numS 1000 s).1:Int),((aC (numS 1000 s).2).1:Int),((numS 1000 (aC (numS 1000 s).2).2).1:Int),(varS (numS 1000 (aC (numS 1000 s).2).2).2).1),(varS (numS 1000 (aC (numS 1000 s).2).2).2).2)
def eP (s:RS):fY × RS :=
 ((((numS 255 s).1:Int),((aC (numS 255 s).2).1:Int),(repS (aC (numS 255 s).2).2).1),(repS (aC (numS 255 s).2).2).2)
def celS (s:RS):CelM × RS :=
 ((((aC s).1:Int),((numS 255 (aC s).2).1:Int),((numS 1000 (numS 255 (aC s).2).2).1:Int),(intS (numS 1000 (numS 255 (aC s).2).2).2).1),(intS (numS 1000 (numS 255 (aC s).2).2).2).2)
def mrkS (s:RS):MrkM × RS :=
 ((((numS 255 s).1:Int),((aC (numS 255 s).2).1:Int),((aC (aC (numS 255 s).2).2).1:Int)),(aC (aC (numS 255 s).2).2).2)
theorem mP {s:RS} (h:RSok s):RSok (varS s).2:=eE (fun _ h=>(iu h).1) h
theorem wd {s:RS} (h:RSok s):RSok (repS s).2:=mP (aG (aO (aG h).1).1).1
theorem mQ {s:RS} (h:RSok s):RSok (eP s).2:=wd (aO (aG h).1).1
theorem p7 {s:RS} (h:RSok s):RSok (celS s).2:=(iu (aG (aG (aO h).1).1).1).1
theorem p8 {s:RS} (h:RSok s):RSok (mrkS s).2:=(aO (aO (aG h).1).1).1


theorem kh {g:Nat} {s:RS} {w:World} (h:Rdr w g s.1 s.2) (hs:RSok s):Calls Tryz.prog 266 #[aS g, .func (.func 267) #[.pointer (some ⟨g,0,none⟩)] #[]] w (gv Sl.v (fun x=>x.l) intsOk (Sl.ft noFt) w g (varS s)):=by
 refine (ov id 267 #[.pointer (some ⟨g,0,none⟩)] #[] intS h hs (fun _ h=>(iu h).1) (fun _ _=>rfl) (fun w1 s1 _ hr hs1=>(Aj hr hs1).mono ?_)).mono ?_
 ·rintro en w2 ⟨rfl,hr2,hg2⟩
  exact ⟨(intS s1).1,rfl,rfl,(iu hs1).2,fun _ h=>h.elim,hr2,hg2⟩
 ·rintro en w2 ⟨x,rfl,hp,ho,hl,hr,hg⟩
  exact ⟨x,rfl,by rw [<- show x.l.map id=(varS s).1 from hp,List.map_id],ho,hl,hr,hg⟩


theorem iY (st:Int) (A:Option Addr) (va:List Int) (n c:Nat) (hn:va.length=n) (hm:n<=9223372036854775807) (w:World):Calls Tryz.prog 232 #[.int .i64 st, .slice A n c] w fun e w'=>e = .returned (.bool (staB st va))/\w=w':=by
 have HR:=aa (show staB st va=(inB st 0 31 && decide (n<=8)) by unfold staB;rw [hn])
 rw [HR.out]
 clear hn
 cases h:inB st 0 31 with
 | false =>
  have HI:=aa h
  clear h
  go_enter Tryz.func232,Tryz.ntmps232
  go_wp2_with fail
  refine (dq _ _ _ _).mono ?_
  rw [HI.out]
  rintro en w1 ⟨rfl,rfl⟩
  go_wp2
  go_ret
  exact ⟨rfl,rfl⟩
 | true =>
  have HI:=aa h
  clear h
  by_cases h8:n<=8
  ·have hd:decide ((n:Int)<=8)=true:=decide_eq_true (by omega)
   have HD:=aa (show (true && decide (n<=8))=true by simp [h8])
   clear h8
   go_enter Tryz.func232,Tryz.ntmps232
   go_wp2_with fail
   refine (dq _ _ _ _).mono ?_
   rw [HI.out]
   rintro en w1 ⟨rfl,rfl⟩
   go_wp2
   go_ret
   exact ⟨ae HD.out.symm,rfl⟩
  ·have hd:decide ((n:Int)<=8)=false:=decide_eq_false (by omega)
   have HD:=aa (show (true && decide (n<=8))=false by simp [h8])
   clear h8
   go_enter Tryz.func232,Tryz.ntmps232
   go_wp2_with fail
   refine (dq _ _ _ _).mono ?_
   rw [HI.out]
   rintro en w1 ⟨rfl,rfl⟩
   go_wp2
   go_ret
   exact ⟨ae HD.out.symm,rfl⟩

theorem ox (r:RepM) (hm:r.va.l.length<=9223372036854775807) (w:World):Calls Tryz.prog 291 #[r.v] w fun e w'=>e = .returned (.bool (repB r.p))/\Below w.heap.size w w':=by
 obtain ⟨er,inc,st,⟨A,c,va⟩⟩:=r
 obtain ⟨n,hn⟩:∃n,va.length=n:=⟨_,rfl⟩
 simp only [hn] at hm
 have HS:=aa (fun u=>iY st A va n c hn hm u)
 simp only [RepM.v,Sl.v,RepM.p,hn]
 clear hn
 have HR:=aa (show repB (er,inc,st,va)=(inB er 0 99 && staB st va) from rfl)
 rw [HR.out]
 clear HR
 cases h:inB er 0 99 with
 | false =>
  have HI:=aa h
  clear h
  go_enter Tryz.func291,Tryz.ntmps291
  go_wp2_with fail
  refine (gR _ _ _ _).mono ?_
  rw [HI.out]
  rintro en w1 ⟨rfl,rfl⟩
  go_wp2
  go_ret
  exact ⟨rfl,(Below.refl _ _).alloc (Nat.le_refl _) _⟩
 | true =>
  have HI:=aa h
  clear h
  obtain ⟨q,hq⟩:∃q,staB st va=q:=⟨_,rfl⟩
  simp only [hq] at HS
  rw [hq]
  clear hq
  go_enter Tryz.func291,Tryz.ntmps291
  go_wp2_with fail
  refine (gR _ _ _ _).mono ?_
  rw [HI.out]
  rintro en w1 ⟨rfl,rfl⟩
  go_wp2_with fail
  refine (HS.out _).mono ?_
  rintro en w2 ⟨rfl,rfl⟩
  go_wp2
  go_ret
  exact ⟨by simp,(Below.refl _ _).alloc (Nat.le_refl _) _⟩

theorem zq (x:DoneM) (hx:U8 x.cl) (w:World):Calls Tryz.prog 289 #[x.v] w fun e w'=>e = .returned (.int .u64 x.cl)/\Below w.heap.size w w':=by
 obtain ⟨cl,sq,er,inc,st,⟨vA,vc,vl⟩⟩:=x
 obtain ⟨h1,h2⟩:=hx
 simp only at h1 h2
 simp only [DoneM.v,Sl.v]
 go_enter Tryz.func289,Tryz.ntmps289
 go_wp2
 go_ret
 exact ⟨rfl,(Below.refl _ _).alloc (Nat.le_refl _) _⟩
theorem zr (x:CelM) (w:World):Calls Tryz.prog 294 #[celV x] w fun e w'=>e = .returned (.int .u64 x.1)/\Below w.heap.size w w':=by
 obtain ⟨a,b,c,d⟩:=x
 simp only [celV]
 go_enter Tryz.func294,Tryz.ntmps294
 go_wp2
 go_ret
 exact ⟨rfl,(Below.refl _ _).alloc (Nat.le_refl _) _⟩
theorem zt (x:MrkM) (hx:U8 x.1) (w:World):Calls Tryz.prog 298 #[mrkV x] w fun e w'=>e = .returned (.int .u64 x.1)/\Below w.heap.size w w':=by
 obtain ⟨a,b,c⟩:=x
 obtain ⟨h1,h2⟩:=hx
 simp only at h1 h2
 simp only [mrkV]
 go_enter Tryz.func298,Tryz.ntmps298
 go_wp2
 go_ret
 exact ⟨rfl,(Below.refl _ _).alloc (Nat.le_refl _) _⟩

theorem p9 (x:DoneM) (hm:x.va.l.length<=9223372036854775807) (w:World):Calls Tryz.prog 290 #[x.v] w fun e w'=>e = .returned (.bool (decide (x.sq=0) || !(repB x.p.2.2)))/\Below w.heap.size w w':=by
 obtain ⟨cl,sq,er,inc,st,⟨vA,vc,vl⟩⟩:=x
 have HC:=aa (fun u=>ox ⟨er,inc,st,⟨vA,vc,vl⟩⟩ hm u)
 simp only [RepM.v,Sl.v,RepM.p] at HC
 simp only [DoneM.v,Sl.v,DoneM.p]
 obtain ⟨q,hq⟩:∃q,repB (er,inc,st,vl)=q:=⟨_,rfl⟩
 simp only [hq] at HC ⊢
 clear hq hm
 by_cases h0:sq=0
 ·have hb:(sq == 0)=true:=by simp [h0]
  have HD:=aa (show (decide (sq=0) || !q)=true by simp [h0])
  clear h0
  go_enter Tryz.func290,Tryz.ntmps290
  go_wp2
  go_ret
  exact ⟨ae HD.out.symm,(Below.refl _ _).alloc (Nat.le_refl _) _⟩
 ·have hb:(sq == 0)=false:=beq_eq_false_iff_ne.2 h0
  have HD:=aa (show (decide (sq=0) || !q) = !q by simp [h0])
  clear h0
  go_enter Tryz.func290,Tryz.ntmps290
  go_wp2_with fail
  refine (HC.out _).mono ?_
  rintro en w1 ⟨rfl,hb1⟩
  have HB1:=aa (((Below.refl w.heap.size w).alloc (Nat.le_refl _) _).trans (hb1.mono (by simp)))
  clear hb1
  go_wp2
  go_ret
  exact ⟨ae HD.out.symm,HB1.out⟩
theorem qb (x:CelM) (w:World):Calls Tryz.prog 295 #[celV x] w fun e w'=>e = .returned (.bool (decide (16<=x.2.1) || !(inB x.2.2.1 0 31)))/\Below w.heap.size w w':=by
 obtain ⟨a,b,c,d⟩:=x
 simp only [celV]
 by_cases h0:16<=b
 ·have hb:decide (16<=b)=true:=decide_eq_true h0
  have HD:=aa (show (decide (16<=b) || !(inB c 0 31))=true by simp [h0])
  clear h0
  go_enter Tryz.func295,Tryz.ntmps295
  go_wp2
  go_ret
  exact ⟨ae HD.out.symm,(Below.refl _ _).alloc (Nat.le_refl _) _⟩
 ·have hb:decide (16<=b)=false:=decide_eq_false h0
  have HD:=aa (show (decide (16<=b) || !(inB c 0 31)) = !(inB c 0 31) by simp [h0])
  clear h0
  go_enter Tryz.func295,Tryz.ntmps295
  go_wp2_with fail
  refine (dq _ _ _ _).mono ?_
  rintro en w1 ⟨rfl,rfl⟩
  go_wp2
  go_ret
  exact ⟨ae HD.out.symm,(Below.refl _ _).alloc (Nat.le_refl _) _⟩
theorem qd (x:MrkM) (w:World):Calls Tryz.prog 299 #[mrkV x] w fun e w'=>e = .returned (.bool (decide (x.2.1=0) || decide (x.2.2=0)))/\Below w.heap.size w w':=by
 obtain ⟨a,b,c⟩:=x
 simp only [mrkV]
 by_cases h0:b=0
 ·have hb:(b == 0)=true:=by simp [h0]
  have HD:=aa (show (decide (b=0) || decide (c=0))=true by simp [h0])
  clear h0
  go_enter Tryz.func299,Tryz.ntmps299
  go_wp2
  go_ret
  exact ⟨ae HD.out.symm,(Below.refl _ _).alloc (Nat.le_refl _) _⟩
 ·have hb:(b == 0)=false:=beq_eq_false_iff_ne.2 h0
  have HD:=aa (show (decide (b=0) || decide (c=0))=(c == 0) by rw [decide_eq_false h0,Bool.false_or,Bool.eq_iff_iff];simp)
  clear h0
  go_enter Tryz.func299,Tryz.ntmps299
  go_wp2
  go_ret
  exact ⟨ae HD.out.symm,(Below.refl _ _).alloc (Nat.le_refl _) _⟩

theorem cw {α:Type} {cs:α->List Value} {p:World->Nat->α->Prop} {w:World} {B:Nat} {s:Sl α} (h:Sl.ok cs p w B s):s.l.length<=9223372036854775807:=by
 have h3:=h.1
 have h4:=h.2.1
 unfold maxLen at h4
 omega

theorem qe (s:Sl DoneM) (B:Nat) (w:World) (hs:jk w B s) (hB:B<=w.heap.size):Calls Tryz.prog 233 #[s.v] w fun e w'=>e = .returned (.bool (dnsB (s.l.map DoneM.p)))/\Below B w w':=by
 have HR:=aa (mF 289 1 8 s B w hs hB (fun _ _=>rfl) (fun x wr hx=>zq x (hs.2.2.2 x hx).1.1 wr))
 have HC:=aa (fun (u:World) (hb:Below B w u)=>jn (dnX (s.l.map DoneM.p)) (fun _ _=>True) 290 #[] s B u (dns_stable.below hs hb) (Nat.le_trans hB hb.size) trivial (fun _ _=>rfl) (fun k x wr hx hb2 _=>by
  show Calls Tryz.prog 290 #[DoneM.v x] wr _
  refine (p9 x (cw (hs.2.2.2 x (List.mem_of_getElem? hx)).2) wr).mono ?_
  rintro en w2 ⟨rfl,hb3⟩
  exact ⟨ae (by rw [vV (d:=x.p) (by rw [List.getElem?_map,hx];rfl)];rfl),fun _=>trivial,hb3.mono (Nat.le_trans (Nat.le_trans hB hb.size) hb2.size)⟩))
 have HD:=aa (show dnsB (s.l.map DoneM.p)=(risB (s.l.map (fun x=>x.cl)) 1 8 && !(anyB (dnX (s.l.map DoneM.p)) s.l.length)) by
  unfold dnsB
  rw [List.map_map,List.length_map]
  rfl)
 rw [HD.out]
 obtain ⟨q1,h1⟩:∃q,risB (s.l.map (fun x=>x.cl)) 1 8=q:=⟨_,rfl⟩
 obtain ⟨q2,h2⟩:∃q,anyB (dnX (s.l.map DoneM.p)) s.l.length=q:=⟨_,rfl⟩
 simp only [h1] at HR ⊢
 simp only [h2] at HC ⊢
 clear HD h1 h2 hs
 simp only [Sl.v] at HR HC ⊢
 go_enter Tryz.func233,Tryz.ntmps233
 go_wp2_with fail
 refine HR.out.mono ?_
 rintro en w1 ⟨rfl,hb1⟩
 cases q1 with
 | false =>
  go_wp2
  go_ret
  exact ⟨rfl,hb1⟩
 | true =>
  have HB1:=aa hb1
  clear hb1
  go_wp2_with fail
  refine (HC.out _ HB1.out).mono ?_
  rintro en w2 ⟨rfl,hb2⟩
  have HB2:=aa (HB1.out.trans hb2)
  clear hb2
  go_wp2
  go_ret
  exact ⟨by simp,HB2.out⟩

theorem oy (s:Sl MrkM) (B:Nat) (w:World) (hs:gb w B s) (hB:B<=w.heap.size):Calls Tryz.prog 235 #[s.v] w fun e w'=>e = .returned (.bool (mksB s.l))/\Below B w w':=by
 have HR:=aa (mH 298 0 15 s B w hs hB (fun _ _=>rfl) (fun x wr hx=>zt x (hs.2.2.2 x hx).1 wr))
 have HC:=aa (fun (u:World) (hb:Below B w u)=>jp (mkX s.l) (fun _ _=>True) 299 #[] s B u (mrks_stable.below hs hb) (Nat.le_trans hB hb.size) trivial (fun _ _=>rfl) (fun k x wr hx hb2 _=>by
  show Calls Tryz.prog 299 #[mrkV x] wr _
  refine (qd x wr).mono ?_
  rintro en w2 ⟨rfl,hb3⟩
  exact ⟨ae (by rw [Al hx]),fun _=>trivial,hb3.mono (Nat.le_trans (Nat.le_trans hB hb.size) hb2.size)⟩))
 have HD:=aa (show mksB s.l=(risB (s.l.map (fun x=>x.1)) 0 15 && !(anyB (mkX s.l) s.l.length)) from rfl)
 rw [HD.out]
 obtain ⟨q1,h1⟩:∃q,risB (s.l.map (fun x=>x.1)) 0 15=q:=⟨_,rfl⟩
 obtain ⟨q2,h2⟩:∃q,anyB (mkX s.l) s.l.length=q:=⟨_,rfl⟩
 simp only [h1] at HR ⊢
 simp only [h2] at HC ⊢
 clear HD h1 h2 hs
 simp only [Sl.v] at HR HC ⊢
 go_enter Tryz.func235,Tryz.ntmps235
 go_wp2_with fail
 refine HR.out.mono ?_
 rintro en w1 ⟨rfl,hb1⟩
 cases q1 with
 | false =>
  go_wp2
  go_ret
  exact ⟨rfl,hb1⟩
 | true =>
  have HB1:=aa hb1
  clear hb1
  go_wp2_with fail
  refine (HC.out _ HB1.out).mono ?_
  rintro en w2 ⟨rfl,hb2⟩
  have HB2:=aa (HB1.out.trans hb2)
  clear hb2
  go_wp2
  go_ret
  exact ⟨by simp,HB2.out⟩

theorem tc (s:Sl CelM) (la:Int) (B:Nat) (w:World) (hs:ga w B s) (hB:B<=w.heap.size):Calls Tryz.prog 234 #[s.v, .int .u64 la] w fun e w'=>e = .returned (.bool (ousB s.l la))/\Below B w w':=by
 have HR:=aa (mG 294 1 la s B w hs hB (fun _ _=>rfl) (fun x wr _=>zr x wr))
 have HC:=aa (fun (u:World) (hb:Below B w u)=>jo (ouX s.l) (fun _ _=>True) 295 #[] s B u (cels_stable.below hs hb) (Nat.le_trans hB hb.size) trivial (fun _ _=>rfl) (fun k x wr hx hb2 _=>by
  show Calls Tryz.prog 295 #[celV x] wr _
  refine (qb x wr).mono ?_
  rintro en w2 ⟨rfl,hb3⟩
  exact ⟨ae (by rw [vW hx]),fun _=>trivial,hb3.mono (Nat.le_trans (Nat.le_trans hB hb.size) hb2.size)⟩))
 have hm:=cw hs
 have HD:=aa (show ousB s.l la=(decide (s.l.length<=8) && (risB (s.l.map (fun x=>x.1)) 1 la && !(anyB (ouX s.l) s.l.length))) from rfl)
 rw [HD.out]
 obtain ⟨q1,h1⟩:∃q,risB (s.l.map (fun x=>x.1)) 1 la=q:=⟨_,rfl⟩
 obtain ⟨q2,h2⟩:∃q,anyB (ouX s.l) s.l.length=q:=⟨_,rfl⟩
 simp only [h1] at HR ⊢
 simp only [h2] at HC ⊢
 clear HD h1 h2 hs
 obtain ⟨n,hn⟩:∃n,s.l.length=n:=⟨_,rfl⟩
 simp only [Sl.v,hn] at HR HC hm ⊢
 clear hn
 by_cases h8:n<=8
 case neg =>
  have hd:decide ((n:Int)<=8)=false:=decide_eq_false (by omega)
  have HE:=aa (show (decide (n<=8) && (q1 && !q2))=false by simp [h8])
  clear h8
  go_enter Tryz.func234,Tryz.ntmps234
  go_wp2
  go_ret
  exact ⟨ae HE.out.symm,Below.refl _ _⟩
 have hd:decide ((n:Int)<=8)=true:=decide_eq_true (by omega)
 have HE:=aa (show (decide (n<=8) && (q1 && !q2))=(q1 && !q2) by simp [h8])
 rw [HE.out]
 clear h8 HE
 go_enter Tryz.func234,Tryz.ntmps234
 go_wp2_with fail
 refine HR.out.mono ?_
 rintro en w1 ⟨rfl,hb1⟩
 cases q1 with
 | false =>
  go_wp2
  go_ret
  exact ⟨rfl,hb1⟩
 | true =>
  have HB1:=aa hb1
  clear hb1
  go_wp2_with fail
  refine (HC.out _ HB1.out).mono ?_
  rintro en w2 ⟨rfl,hb2⟩
  have HB2:=aa (HB1.out.trans hb2)
  clear hb2
  go_wp2
  go_ret
  exact ⟨by simp,HB2.out⟩

def RegM.box (r:RegM):Array Value := #[.int .u8 r.ki, .int .u64 r.inc, .int .i64 r.st, .slice r.va.A r.va.l.length r.va.c, .slice r.dn.A r.dn.l.length r.dn.c, .slice r.ou.A r.ou.l.length r.ou.c, .int .u64 r.la, .slice r.ma.A r.ma.l.length r.ma.c]

theorem mR (r:RegM) (B:Nat) (w:World) (hr:RegM.ok w B r) (hB:B<=w.heap.size):Calls Tryz.prog 171 #[r.v] w fun e w'=>e = .returned (.bool (stnB r.p))/\Below B w w':=by
 have HW:=aa (show Below B w (w.alloc (.cells r.box 31)) from (Below.refl _ _).alloc hB _)
 have HX:=aa (BoxAt.new w r.box 31)
 have HS:=aa (fun (u:World)=>iY r.st r.va.A r.va.l r.va.l.length r.va.c rfl (cw hr.2.1) u)
 have HD:=aa (fun (u:World) (hb:Below B w u)=>qe r.dn u.heap.size u (dns_stable.more (dns_stable.below hr.2.2.1 hb) (Nat.le_trans hB hb.size)) (Nat.le_refl _))
 have HO:=aa (fun (u:World) (hb:Below B w u)=>tc r.ou r.la u.heap.size u (cels_stable.more (cels_stable.below hr.2.2.2.1 hb) (Nat.le_trans hB hb.size)) (Nat.le_refl _))
 have HM:=aa (fun (u:World) (hb:Below B w u)=>oy r.ma u.heap.size u (mrks_stable.more (mrks_stable.below hr.2.2.2.2 hb) (Nat.le_trans hB hb.size)) (Nat.le_refl _))
 have HP:=aa (show stnB r.p=(!(decide (r.inc=0)) && (staB r.st r.va.l && (dnsB (r.dn.l.map DoneM.p) && (ousB r.ou.l r.la && mksB r.ma.l)))) from rfl)
 rw [HP.out]
 obtain ⟨q1,h1⟩:∃q,staB r.st r.va.l=q:=⟨_,rfl⟩
 obtain ⟨q2,h2⟩:∃q,dnsB (r.dn.l.map DoneM.p)=q:=⟨_,rfl⟩
 obtain ⟨q3,h3⟩:∃q,ousB r.ou.l r.la=q:=⟨_,rfl⟩
 obtain ⟨q4,h4⟩:∃q,mksB r.ma.l=q:=⟨_,rfl⟩
 simp only [h1] at HS ⊢
 simp only [h2] at HD ⊢
 simp only [h3] at HO ⊢
 simp only [h4] at HM ⊢
 clear HP h1 h2 h3 h4 hr
 obtain ⟨ki,inc,st,⟨vA,vc,vl⟩,⟨dA,dc,dl⟩,⟨oA,oc,ol⟩,la,⟨mA,mc,ml⟩⟩:=r
 simp only [RegM.v,RegM.box,Sl.v] at HS HD HO HM HW HX ⊢
 by_cases hi:inc=0
 ·have hd:(inc != 0)=false:=by simp [hi]
  have HE:=aa (show (!(decide (inc=0)) && (q1 && (q2 && (q3 && q4))))=false by simp [hi])
  clear hi
  go_enter Tryz.func171,Tryz.ntmps171
  go_wp2
  go_ret
  exact ⟨ae HE.out.symm,HW.out⟩
 have hd:(inc != 0)=true:=by simp [hi]
 have HE:=aa (show (!(decide (inc=0)) && (q1 && (q2 && (q3 && q4))))=(q1 && (q2 && (q3 && q4))) by simp [hi])
 rw [HE.out]
 clear hi HE
 go_enter Tryz.func171,Tryz.ntmps171
 go_wp2_with fail
 refine (HS.out _).mono ?_
 rintro en w1 ⟨rfl,rfl⟩
 cases q1 with
 | false =>
  go_wp2
  go_ret
  exact ⟨rfl,HW.out⟩
 | true =>
 go_wp2_with fail
 refine (HD.out _ HW.out).mono ?_
 rintro en w2 ⟨rfl,hb2⟩
 have HB2:=aa (HW.out.trans (hb2.mono (Nat.le_trans hB HW.out.size)))
 have HX2:=aa (HX.out.below hb2)
 clear hb2
 have hz2:w.heap.size<w2.heap.size:=HX2.out.lt
 have hcx:=HX2.out.cell
 cases q2 with
 | false =>
  go_wp2
  go_ret
  exact ⟨rfl,HB2.out⟩
 | true =>
 go_wp2_with fail
 refine (HO.out _ HB2.out).mono ?_
 rintro en w3 ⟨rfl,hb3⟩
 have HB3:=aa (HB2.out.trans (hb3.mono (Nat.le_trans hB HB2.out.size)))
 have HX3:=aa (HX2.out.below hb3)
 clear hb3
 clear hcx
 have hz3:w.heap.size<w3.heap.size:=HX3.out.lt
 have hcx:=HX3.out.cell
 cases q3 with
 | false =>
  go_wp2
  go_ret
  exact ⟨rfl,HB3.out⟩
 | true =>
 go_wp2_with fail
 refine (HM.out _ HB3.out).mono ?_
 rintro en w4 ⟨rfl,hb4⟩
 have HB4:=aa (HB3.out.trans (hb4.mono (Nat.le_trans hB HB3.out.size)))
 have HX4:=aa (HX3.out.below hb4)
 clear hb4
 clear hcx
 go_wp2
 go_ret
 exact ⟨by simp,HB4.out⟩

theorem iZ (l1 l2:List (Int)) (A1 A2:Option Addr) (n1 n2 c1 c2 B:Nat) (w:World) (hn1:l1.length=n1) (hn2:l2.length=n2) (hm:n1<=9223372036854775807) (hm2:n2<=9223372036854775807) (h1:Sees w B A1 (l1.flatMap intC)) (h2:Sees w B A2 (l2.flatMap intC)) (hB:B<=w.heap.size) :
  Calls Tryz.prog 195 #[.slice A1 n1 c1, .slice A2 n2 c2] w fun e w'=>e = .returned (.bool (decide (l1=l2)))/\Below w.heap.size w w':=by
 by_cases hne:n1=n2
 case neg =>
  have HD:=aa (show decide (l1=l2)=false by rw [decide_eq_false_iff_not];intro e;exact hne (by rw [<- hn1,<- hn2,e]))
  have hb:((n1:Int) != (n2:Int))=true:=by simpa using (show ¬(n1:Int)=n2 by omega)
  clear hn1 hn2 h1 h2 hne
  go_enter Tryz.func195,Tryz.ntmps195
  go_wp2
  go_ret
  exact ⟨ae HD.out.symm,Below.refl _ _⟩
 subst hne
 have hb:((n1:Int) != (n1:Int))=false:=by simp
 have HN1:=aa hn1
 have HN2:=aa hn2
 have HS1:=aa h1
 have HS2:=aa h2
 clear hn1 hn2 h1 h2
 go_enter Tryz.func195,Tryz.ntmps195
 go_wp2
 go_loopw [13] (fun i wr=>∃k:Nat,k<=n1/\i = .int .i64 k/\Hid (∀j,j<k->l1[j]?=l2[j]?)/\Below w.heap.size w wr) (fun i _=>n1 - (intOf i).toNat)
 case atStart=>exact ⟨0,Nat.zero_le _,rfl,(fun j hj=>absurd hj (by omega)),Below.refl _ _⟩
 case round =>
  obtain ⟨k,hk,rfl,HJ,hb'⟩:=hrel
  have HBW:=aa hb'
  have hzw:w.heap.size<=wr.heap.size:=hb'.size
  by_cases hlt:k<n1
  case neg =>
   obtain rfl:k=n1:=by omega
   have HD:=aa (show decide (l1=l2)=true by
    rw [decide_eq_true_eq]
    refine List.ext_getElem? fun j => ?_
    by_cases h:j<k
    ·exact HJ.out j h
    ·rw [List.getElem?_eq_none (by rw [HN1.out];omega),List.getElem?_eq_none (by rw [HN2.out];omega)])
   clear hb'
   go_wp2
   go_ret
   exact ⟨ae HD.out.symm,HBW.out⟩
  obtain ⟨x,hx⟩:∃x,l1[k]?=some x:=⟨_,List.getElem?_eq_getElem (by rw [HN1.out];exact hlt)⟩
  obtain ⟨y,hy⟩:∃y,l2[k]?=some y:=⟨_,List.getElem?_eq_getElem (by rw [HN2.out];exact hlt)⟩
  obtain ⟨tb,ot,hAe,hab,e0⟩:=(HS1.out.below (hb'.mono hB)).i64 hx
  obtain ⟨ub,uo,hAe2,hab2,g0⟩:=(HS2.out.below (hb'.mono hB)).i64 hy
  have hwz:tb<wr.heap.size:=by omega
  have huz:ub<wr.heap.size:=by omega
  subst hAe hAe2
  have HX:=aa hx
  have HY:=aa hy
  clear hx hy hb' HS1 HS2
  by_cases hq:x=y
  case neg =>
   have HD:=aa (show decide (l1=l2)=false by rw [decide_eq_false_iff_not];rintro rfl;have h:=HX.out.symm.trans HY.out;simp at h;exact hq (by simp [h]))
   have hd:(x == y)=false:=beq_eq_false_iff_ne.2 hq
   have hd2:(x != y)=true:=bne_iff_ne.2 hq
   clear hq
   go_upto_region 6 with fail
   refine wp_region_held_drew (S:=fun w'=>w'.cell? ⟨tb,ot+k,none⟩=some (.int .i64 x)/\w'.cell? ⟨ub,uo+k,none⟩=some (.int .i64 y)) (by kernel_rfl) (⟨e0,g0⟩) (fun hHeld => ?_)
   refine tkY 0 16 ?v1 rfl ?hy1 (by assumption) ?rest1
   case hy1=>intro w hSw;(try dsimp only at hSw);go_simp <;> with_reducible rfl
   simp only [Act.put,sTI,sT0,sT1]
   refine tkY 1 17 ?v2 rfl ?hy2 (by assumption) ?rest2
   case hy2=>intro w hSw;(try dsimp only at hSw);go_simp <;> with_reducible rfl
   simp only [Act.put,sTI,sT0,sT1]
   refine tkY 2 18 ?v3 rfl ?hy3 (by assumption) ?rest3
   case hy3=>intro w hSw;(try dsimp only at hSw);go_simp <;> with_reducible rfl
   simp only [Act.put,sTI,sT0,sT1]
   refine tkY 3 19 ?v4 rfl ?hy4 (by assumption) ?rest4
   case hy4=>intro w hSw;(try dsimp only at hSw);go_simp <;> with_reducible rfl
   simp only [Act.put,sTI,sT0,sT1]
   refine tkY 4 20 ?v5 rfl ?hy5 (by assumption) ?rest5
   case hy5=>intro w hSw;(try dsimp only at hSw);go_simp <;> with_reducible rfl
   simp only [Act.put,sTI,sT0,sT1]
   refine tkY 5 21 ?v6 rfl ?hy6 (by assumption) ?rest6
   case hy6=>intro w hSw;(try dsimp only at hSw);go_simp <;> with_reducible rfl
   simp only [Act.put,sTI,sT0,sT1]
   refine tkY 6 22 ?v7 rfl ?hy7 (by assumption) ?rest7
   case hy7=>intro w hSw;(try dsimp only at hSw);go_simp <;> with_reducible rfl
   simp only [Act.put,sTI,sT0,sT1]
   refine tkY 7 23 ?v8 rfl ?hy8 (by assumption) ?rest8
   case hy8=>intro w hSw;(try dsimp only at hSw);go_simp <;> with_reducible rfl
   simp only [Act.put,sTI,sT0,sT1]
   refine tkY 8 24 ?v9 rfl ?hy9 (by assumption) ?rest9
   case hy9=>intro w hSw;(try dsimp only at hSw);go_simp <;> with_reducible rfl
   simp only [Act.put,sTI,sT0,sT1]
   refine wpAnyH_done (by kernel_rfl) ?_ _
   go_wp2_with fail
   go_ret
   exact ⟨ae HD.out.symm,HBW.out.drew⟩
  subst hq
  have HJ2:=aa (show ∀j,j<k+1->l1[j]?=l2[j]? from fun j hj=>by
   by_cases h:j=k
   ·rw [h,HX.out,HY.out]
   ·exact HJ.out j (by omega))
  go_upto_region 6 with fail
  refine wp_region_held_drew (S:=fun w'=>w'.cell? ⟨tb,ot+k,none⟩=some (.int .i64 x)/\w'.cell? ⟨ub,uo+k,none⟩=some (.int .i64 x)) (by kernel_rfl) (⟨e0,g0⟩) (fun hHeld => ?_)
  refine tkY 0 16 ?v10 rfl ?hy10 (by assumption) ?rest10
  case hy10=>intro w hSw;(try dsimp only at hSw);go_simp <;> with_reducible rfl
  simp only [Act.put,sTI,sT0,sT1]
  refine tkY 1 17 ?v11 rfl ?hy11 (by assumption) ?rest11
  case hy11=>intro w hSw;(try dsimp only at hSw);go_simp <;> with_reducible rfl
  simp only [Act.put,sTI,sT0,sT1]
  refine tkY 2 18 ?v12 rfl ?hy12 (by assumption) ?rest12
  case hy12=>intro w hSw;(try dsimp only at hSw);go_simp <;> with_reducible rfl
  simp only [Act.put,sTI,sT0,sT1]
  refine tkY 3 19 ?v13 rfl ?hy13 (by assumption) ?rest13
  case hy13=>intro w hSw;(try dsimp only at hSw);go_simp <;> with_reducible rfl
  simp only [Act.put,sTI,sT0,sT1]
  refine tkY 4 20 ?v14 rfl ?hy14 (by assumption) ?rest14
  case hy14=>intro w hSw;(try dsimp only at hSw);go_simp <;> with_reducible rfl
  simp only [Act.put,sTI,sT0,sT1]
  refine tkY 5 21 ?v15 rfl ?hy15 (by assumption) ?rest15
  case hy15=>intro w hSw;(try dsimp only at hSw);go_simp <;> with_reducible rfl
  simp only [Act.put,sTI,sT0,sT1]
  refine tkY 6 22 ?v16 rfl ?hy16 (by assumption) ?rest16
  case hy16=>intro w hSw;(try dsimp only at hSw);go_simp <;> with_reducible rfl
  simp only [Act.put,sTI,sT0,sT1]
  refine tkY 7 23 ?v17 rfl ?hy17 (by assumption) ?rest17
  case hy17=>intro w hSw;(try dsimp only at hSw);go_simp <;> with_reducible rfl
  simp only [Act.put,sTI,sT0,sT1]
  refine tkY 8 24 ?v18 rfl ?hy18 (by assumption) ?rest18
  case hy18=>intro w hSw;(try dsimp only at hSw);go_simp <;> with_reducible rfl
  simp only [Act.put,sTI,sT0,sT1]
  refine wpAnyH_done (by kernel_rfl) ?_ _
  go_wp2_with fail
  go_roundw
  case rel=>exact ⟨k+1,by omega,by go_num,HJ2,HBW.out.drew⟩
  case measure=>simp [intOf];omega


theorem qf (x y:RepM) (B:Nat) (w:World) (hx:RepM.ok w B x) (hy:RepM.ok w B y) (hB:B<=w.heap.size) :
  Calls Tryz.prog 259 #[x.v,y.v] w fun e w'=>e = .returned (.bool (decide (x.p=y.p)))/\Below w.heap.size w w':=by
 obtain ⟨er,inc,st,⟨A,c,va⟩⟩:=x
 obtain ⟨er2,inc2,st2,⟨A2,c2,va2⟩⟩:=y
 have h1:=hx.2
 have h2:=hy.2
 obtain ⟨n,hn⟩:∃n,va.length=n:=⟨_,rfl⟩
 obtain ⟨n2,hn2⟩:∃n,va2.length=n:=⟨_,rfl⟩
 have hm:n<=9223372036854775807:=by have h3:=h1.1;have h4:=h1.2.1;unfold maxLen at h4;simp only at h3 h4;omega
 have hm2:n2<=9223372036854775807:=by have h3:=h2.1;have h4:=h2.2.1;unfold maxLen at h4;simp only at h3 h4;omega
 have HC:=aa (fun (u:World) (hb:Below w.heap.size w u)=>iZ va va2 A A2 n n2 c c2 B u hn hn2 hm hm2 (h1.2.2.1.below (hb.mono hB)) (h2.2.2.1.below (hb.mono hB)) (Nat.le_trans hB hb.size))
 simp only [RepM.v,Sl.v,RepM.p,hn,hn2]
 have HW:=aa (((Below.refl w.heap.size w).alloc (Nat.le_refl _) (.cells #[.int .i64 er, .int .u64 inc, .int .i64 st, .slice A n c] 38)).alloc (by simp) (.cells #[.int .i64 er2, .int .u64 inc2, .int .i64 st2, .slice A2 n2 c2] 38))
 clear hx hy h1 h2 hn hn2
 by_cases q1:er=er2
 case neg =>
  have HD:=aa (show decide ((er,inc,st,va)=(er2,inc2,st2,va2))=false by rw [decide_eq_false_iff_not];intro e;simp only [Prod.mk.injEq] at e;exact q1 e.1)
  have hd:(er == er2)=false:=beq_eq_false_iff_ne.2 q1
  clear q1
  go_enter Tryz.func259,Tryz.ntmps259
  go_wp2
  go_ret
  exact ⟨ae HD.out.symm,HW.out⟩
 subst q1
 by_cases q2:inc=inc2
 case neg =>
  have HD:=aa (show decide ((er,inc,st,va)=(er,inc2,st2,va2))=false by rw [decide_eq_false_iff_not];intro e;simp only [Prod.mk.injEq] at e;exact q2 e.2.1)
  have hd:(inc == inc2)=false:=beq_eq_false_iff_ne.2 q2
  clear q2
  go_enter Tryz.func259,Tryz.ntmps259
  go_wp2
  go_ret
  exact ⟨ae HD.out.symm,HW.out⟩
 subst q2
 by_cases q3:st=st2
 case neg =>
  have HD:=aa (show decide ((er,inc,st,va)=(er,inc,st2,va2))=false by rw [decide_eq_false_iff_not];intro e;simp only [Prod.mk.injEq] at e;exact q3 e.2.2.1)
  have hd:(st == st2)=false:=beq_eq_false_iff_ne.2 q3
  clear q3
  go_enter Tryz.func259,Tryz.ntmps259
  go_wp2
  go_ret
  exact ⟨ae HD.out.symm,HW.out⟩
 subst q3
 have HD:=aa (show decide ((er,inc,st,va)=(er,inc,st,va2))=decide (va=va2) by simp)
 go_enter Tryz.func259,Tryz.ntmps259
 go_wp2_with fail
 refine (HC.out _ HW.out).mono ?_
 rintro en w1 ⟨rfl,hb1⟩
 have HB1:=aa (HW.out.trans (hb1.mono (by simp;omega)))
 clear hb1
 go_wp2
 go_ret
 exact ⟨ae HD.out.symm,HB1.out⟩

theorem oz (x y:DoneM) (B:Nat) (w:World) (hx:DoneM.ok w B x) (hy:DoneM.ok w B y) (hB:B<=w.heap.size) :
  Calls Tryz.prog 197 #[x.v,y.v] w fun e w'=>e = .returned (.bool (decide (x.p=y.p)))/\Below w.heap.size w w':=by
 obtain ⟨cl,sq,er,inc,st,⟨A,c,va⟩⟩:=x
 obtain ⟨cl2,sq2,er2,inc2,st2,⟨A2,c2,va2⟩⟩:=y
 have h1:=hx.2
 have h2:=hy.2
 have HC:=aa (fun (u:World) (hb:Below w.heap.size w u)=>qf ⟨er,inc,st,⟨A,c,va⟩⟩ ⟨er2,inc2,st2,⟨A2,c2,va2⟩⟩ B u ⟨hx.1.2.2,ints_stable.below h1 (hb.mono hB)⟩ ⟨hy.1.2.2,ints_stable.below h2 (hb.mono hB)⟩ (Nat.le_trans hB hb.size))
 obtain ⟨q,hq⟩:∃q,decide ((RepM.mk er inc st ⟨A,c,va⟩).p=(RepM.mk er2 inc2 st2 ⟨A2,c2,va2⟩).p)=q:=⟨_,rfl⟩
 simp only [hq] at HC
 simp only [RepM.v,Sl.v] at HC
 simp only [DoneM.v,Sl.v]
 have HW:=aa (((Below.refl w.heap.size w).alloc (Nat.le_refl _) (.cells #[.int .u8 cl, .int .u64 sq, .int .i64 er, .int .u64 inc, .int .i64 st, .slice A va.length c] 106)).alloc (by simp) (.cells #[.int .u8 cl2, .int .u64 sq2, .int .i64 er2, .int .u64 inc2, .int .i64 st2, .slice A2 va2.length c2] 106))
 have HQ:=aa hq
 clear hx hy h1 h2 hq
 by_cases q1:cl=cl2
 case neg =>
  have HD:=aa (show decide ((DoneM.mk cl sq er inc st ⟨A,c,va⟩).p=(DoneM.mk cl2 sq2 er2 inc2 st2 ⟨A2,c2,va2⟩).p)=false by rw [decide_eq_false_iff_not];intro e;simp only [DoneM.p,Prod.mk.injEq] at e;exact q1 e.1)
  have hd:(cl == cl2)=false:=beq_eq_false_iff_ne.2 q1
  clear q1
  go_enter Tryz.func197,Tryz.ntmps197
  go_wp2
  go_ret
  exact ⟨ae HD.out.symm,HW.out⟩
 subst q1
 by_cases q2:sq=sq2
 case neg =>
  have HD:=aa (show decide ((DoneM.mk cl sq er inc st ⟨A,c,va⟩).p=(DoneM.mk cl sq2 er2 inc2 st2 ⟨A2,c2,va2⟩).p)=false by rw [decide_eq_false_iff_not];intro e;simp only [DoneM.p,Prod.mk.injEq] at e;exact q2 e.2.1)
  have hd:(sq == sq2)=false:=beq_eq_false_iff_ne.2 q2
  clear q2
  go_enter Tryz.func197,Tryz.ntmps197
  go_wp2
  go_ret
  exact ⟨ae HD.out.symm,HW.out⟩
 subst q2
 have HD:=aa (show decide ((DoneM.mk cl sq er inc st ⟨A,c,va⟩).p=(DoneM.mk cl sq er2 inc2 st2 ⟨A2,c2,va2⟩).p)=q by rw [<- HQ.out,Bool.eq_iff_iff,decide_eq_true_eq,decide_eq_true_eq];simp only [DoneM.p,RepM.p,Prod.mk.injEq,true_and])
 clear HQ
 go_enter Tryz.func197,Tryz.ntmps197
 go_wp2_with fail
 refine (HC.out _ HW.out).mono ?_
 rintro en w1 ⟨rfl,hb1⟩
 have HB1:=aa (HW.out.trans (hb1.mono (by simp;omega)))
 clear hb1
 go_wp2
 go_ret
 exact ⟨ae HD.out.symm,HB1.out⟩

theorem mS (s1 s2:Sl DoneM) (B:Nat) (w:World) (h1:jk w B s1) (h2:jk w B s2) (hB:B<=w.heap.size) :
  Calls Tryz.prog 196 #[s1.v,s2.v, .func (.func 197) #[] #[]] w fun e w'=>e = .returned (.bool (decide (s1.l.map DoneM.p=s2.l.map DoneM.p)))/\Below w.heap.size w w':=by
 have HD1:=aa h1
 have HD2:=aa h2
 obtain ⟨A1,c1,l1⟩:=s1
 obtain ⟨A2,c2,l2⟩:=s2
 obtain ⟨n1,hn1⟩:∃n,l1.length=n:=⟨_,rfl⟩
 obtain ⟨n2,hn2⟩:∃n,l2.length=n:=⟨_,rfl⟩
 have hm:n1<=9223372036854775807:=by have h3:=h1.1;have h4:=h1.2.1;unfold maxLen at h4;simp only [hn1] at h3 h4;omega
 have hm2:n2<=9223372036854775807:=by have h3:=h2.1;have h4:=h2.2.1;unfold maxLen at h4;simp only [hn2] at h3 h4;omega
 simp only [Sl.v,hn1,hn2]
 by_cases hne:n1=n2
 case neg =>
  have HD:=aa (show decide (l1.map DoneM.p=l2.map DoneM.p)=false by
   rw [decide_eq_false_iff_not]
   intro e
   have h:=congrArg List.length e
   rw [List.length_map,List.length_map] at h
   exact hne (by rw [<- hn1,<- hn2,h]))
  have hb:((n1:Int) != (n2:Int))=true:=by simpa using (show ¬(n1:Int)=n2 by omega)
  clear hn1 hn2 h1 h2 hne
  go_enter Tryz.func196,Tryz.ntmps196
  go_wp2
  go_ret
  exact ⟨ae HD.out.symm,Below.refl _ _⟩
 subst hne
 have hb:((n1:Int) != (n1:Int))=false:=by simp
 have HN1:=aa hn1
 have HN2:=aa hn2
 clear hn1 hn2 h1 h2
 go_enter Tryz.func196,Tryz.ntmps196
 go_wp2
 go_loopw [17] (fun i wr=>∃k:Nat,k<=n1/\i = .int .i64 k/\Hid (∀j,j<k->(l1.map DoneM.p)[j]?=(l2.map DoneM.p)[j]?)/\Below w.heap.size w wr) (fun i _=>n1 - (intOf i).toNat)
 case atStart=>exact ⟨0,Nat.zero_le _,rfl,(fun j hj=>absurd hj (by omega)),Below.refl _ _⟩
 case round =>
  obtain ⟨k,hk,rfl,HJ,hb'⟩:=hrel
  have HBW:=aa hb'
  have hzw:w.heap.size<=wr.heap.size:=hb'.size
  by_cases hlt:k<n1
  case neg =>
   obtain rfl:k=n1:=by omega
   have HD:=aa (show decide (l1.map DoneM.p=l2.map DoneM.p)=true by
    rw [decide_eq_true_eq]
    refine List.ext_getElem? fun j => ?_
    by_cases h:j<k
    ·exact HJ.out j h
    ·rw [List.getElem?_eq_none (by rw [List.length_map,HN1.out];omega),List.getElem?_eq_none (by rw [List.length_map,HN2.out];omega)])
   clear hb'
   go_wp2
   go_ret
   exact ⟨ae HD.out.symm,HBW.out⟩
  obtain ⟨x,hx⟩:∃x,l1[k]?=some x:=⟨_,List.getElem?_eq_getElem (by rw [HN1.out];exact hlt)⟩
  obtain ⟨y,hy⟩:∃y,l2[k]?=some y:=⟨_,List.getElem?_eq_getElem (by rw [HN2.out];exact hlt)⟩
  obtain ⟨tb,ot,hAe,hab,e0,e1,e2,e3,e4,e5⟩:=(HD1.out.2.2.1.below (hb'.mono hB)).done hx
  obtain ⟨ub,uo,hAe2,hab2,g0,g1,g2,g3,g4,g5⟩:=(HD2.out.2.2.1.below (hb'.mono hB)).done hy
  have hwz:tb<wr.heap.size:=by omega
  have huz:ub<wr.heap.size:=by omega
  have hxo:=HD1.out.2.2.2 x (List.mem_of_getElem? hx)
  have hyo:=HD2.out.2.2.2 y (List.mem_of_getElem? hy)
  have HCALL:=aa (fun (u:World) (hb:Below w.heap.size w u)=>oz x y B u (done_stable.below hxo (hb.mono hB)) (done_stable.below hyo (hb.mono hB)) (Nat.le_trans hB hb.size))
  have hpx:(l1.map DoneM.p)[k]?=some x.p:=by rw [List.getElem?_map,hx];rfl
  have hpy:(l2.map DoneM.p)[k]?=some y.p:=by rw [List.getElem?_map,hy];rfl
  have HPX:=aa hpx
  have HPY:=aa hpy
  obtain ⟨q,hq⟩:∃q,decide (x.p=y.p)=q:=⟨_,rfl⟩
  simp only [hq] at HCALL
  have HQ:=aa hq
  subst hAe hAe2
  clear hx hy hb' hxo hyo hpx hpy hq HD1 HD2
  obtain ⟨cl,sq,er,inc,st,⟨A,c,va⟩⟩:=x
  obtain ⟨cl2,sq2,er2,inc2,st2,⟨A2,c2',va2⟩⟩:=y
  simp only [DoneM.v,Sl.v] at e0 e1 e2 e3 e4 e5 g0 g1 g2 g3 g4 g5 HCALL
  have HWW:=aa ((HBW.out.alloc hzw (.cells #[.int .u8 cl, .int .u64 sq, .int .i64 er, .int .u64 inc, .int .i64 st, .slice A va.length c] 106)).alloc (by simp;omega) (.cells #[.int .u8 cl2, .int .u64 sq2, .int .i64 er2, .int .u64 inc2, .int .i64 st2, .slice A2 va2.length c2'] 106))
  go_wp2_with fail
  refine (HCALL.out _ HWW.out).mono ?_
  rintro en w1 ⟨rfl,hb1⟩
  have HB1:=aa (HWW.out.trans (hb1.mono (by simp;omega)))
  clear hb1
  cases q with
  | false =>
   have HD:=aa (show decide (l1.map DoneM.p=l2.map DoneM.p)=false by
    rw [decide_eq_false_iff_not]
    intro e
    have h:=HPX.out
    rw [e,HPY.out] at h
    injection h with h
    exact of_decide_eq_false HQ.out h.symm)
   clear e0 e1 e2 e3 e4 e5 g0 g1 g2 g3 g4 g5
   go_wp2
   go_ret
   exact ⟨ae HD.out.symm,HB1.out⟩
  | true =>
   have HJ2:=aa (show ∀j,j<k+1->(l1.map DoneM.p)[j]?=(l2.map DoneM.p)[j]? from fun j hj=>by
    by_cases h:j=k
    ·rw [h,HPX.out,HPY.out,of_decide_eq_true HQ.out]
    ·exact HJ.out j (by omega))
   clear e0 e1 e2 e3 e4 e5 g0 g1 g2 g3 g4 g5
   go_wp2
   go_roundw
   case rel=>exact ⟨k+1,by omega,by go_num,HJ2,HB1.out⟩
   case measure=>simp [intOf];omega

theorem mT (l1 l2:List (CelM)) (A1 A2:Option Addr) (n1 n2 c1 c2 B:Nat) (w:World) (hn1:l1.length=n1) (hn2:l2.length=n2) (hm:n1<=9223372036854775807) (hm2:n2<=9223372036854775807) (h1:Sees w B A1 (l1.flatMap celC)) (h2:Sees w B A2 (l2.flatMap celC)) (hB:B<=w.heap.size) :
  Calls Tryz.prog 198 #[.slice A1 n1 c1, .slice A2 n2 c2] w fun e w'=>e = .returned (.bool (decide (l1=l2)))/\Below w.heap.size w w':=by
 by_cases hne:n1=n2
 case neg =>
  have HD:=aa (show decide (l1=l2)=false by rw [decide_eq_false_iff_not];intro e;exact hne (by rw [<- hn1,<- hn2,e]))
  have hb:((n1:Int) != (n2:Int))=true:=by simpa using (show ¬(n1:Int)=n2 by omega)
  clear hn1 hn2 h1 h2 hne
  go_enter Tryz.func198,Tryz.ntmps198
  go_wp2
  go_ret
  exact ⟨ae HD.out.symm,Below.refl _ _⟩
 subst hne
 have hb:((n1:Int) != (n1:Int))=false:=by simp
 have HN1:=aa hn1
 have HN2:=aa hn2
 have HS1:=aa h1
 have HS2:=aa h2
 clear hn1 hn2 h1 h2
 go_enter Tryz.func198,Tryz.ntmps198
 go_wp2
 go_loopw [13] (fun i wr=>∃k:Nat,k<=n1/\i = .int .i64 k/\Hid (∀j,j<k->l1[j]?=l2[j]?)/\Below w.heap.size w wr) (fun i _=>n1 - (intOf i).toNat)
 case atStart=>exact ⟨0,Nat.zero_le _,rfl,(fun j hj=>absurd hj (by omega)),Below.refl _ _⟩
 case round =>
  obtain ⟨k,hk,rfl,HJ,hb'⟩:=hrel
  have HBW:=aa hb'
  have hzw:w.heap.size<=wr.heap.size:=hb'.size
  by_cases hlt:k<n1
  case neg =>
   obtain rfl:k=n1:=by omega
   have HD:=aa (show decide (l1=l2)=true by
    rw [decide_eq_true_eq]
    refine List.ext_getElem? fun j => ?_
    by_cases h:j<k
    ·exact HJ.out j h
    ·rw [List.getElem?_eq_none (by rw [HN1.out];omega),List.getElem?_eq_none (by rw [HN2.out];omega)])
   clear hb'
   go_wp2
   go_ret
   exact ⟨ae HD.out.symm,HBW.out⟩
  obtain ⟨x,hx⟩:∃x,l1[k]?=some x:=⟨_,List.getElem?_eq_getElem (by rw [HN1.out];exact hlt)⟩
  obtain ⟨y,hy⟩:∃y,l2[k]?=some y:=⟨_,List.getElem?_eq_getElem (by rw [HN2.out];exact hlt)⟩
  obtain ⟨tb,ot,hAe,hab,e0,e1,e2,e3⟩:=(HS1.out.below (hb'.mono hB)).cel hx
  obtain ⟨ub,uo,hAe2,hab2,g0,g1,g2,g3⟩:=(HS2.out.below (hb'.mono hB)).cel hy
  have hwz:tb<wr.heap.size:=by omega
  have huz:ub<wr.heap.size:=by omega
  subst hAe hAe2
  have HX:=aa hx
  have HY:=aa hy
  clear hx hy hb' HS1 HS2
  obtain ⟨a,b,c',d⟩:=x
  obtain ⟨a2,b2,c2',d2⟩:=y
  simp only at e0 e1 e2 e3 g0 g1 g2 g3
  by_cases hq:a=a2
  case neg =>
   have HD:=aa (show decide (l1=l2)=false by rw [decide_eq_false_iff_not];rintro rfl;have h:=HX.out.symm.trans HY.out;simp at h;exact hq (by simp [h]))
   have hd:(a == a2)=false:=beq_eq_false_iff_ne.2 hq
   have hd2:(a != a2)=true:=bne_iff_ne.2 hq
   clear hq
   go_upto_region 6 with fail
   refine wp_region_held_drew (S:=fun w'=>w'.cell? ⟨tb,ot+k * 4,none⟩=some (.int .u64 a)/\w'.cell? ⟨tb,ot+k * 4+1,none⟩=some (.int .u8 b)/\w'.cell? ⟨tb,ot+k * 4+2,none⟩=some (.int .i64 c')/\w'.cell? ⟨tb,ot+k * 4+3,none⟩=some (.int .i64 d)/\w'.cell? ⟨ub,uo+k * 4,none⟩=some (.int .u64 a2)/\w'.cell? ⟨ub,uo+k * 4+1,none⟩=some (.int .u8 b2)/\w'.cell? ⟨ub,uo+k * 4+2,none⟩=some (.int .i64 c2')/\w'.cell? ⟨ub,uo+k * 4+3,none⟩=some (.int .i64 d2)) (by kernel_rfl) (⟨e0,e1,e2,e3,g0,g1,g2,g3⟩) (fun hHeld => ?_)
   refine tkY 0 16 ?v1 rfl ?hy1 (by assumption) ?rest1
   case hy1=>intro w hSw;(try dsimp only at hSw);go_simp <;> with_reducible rfl
   simp only [Act.put,sTI,sT0,sT1]
   refine tkY 1 17 ?v2 rfl ?hy2 (by assumption) ?rest2
   case hy2=>intro w hSw;(try dsimp only at hSw);go_simp <;> with_reducible rfl
   simp only [Act.put,sTI,sT0,sT1]
   refine tkY 2 18 ?v3 rfl ?hy3 (by assumption) ?rest3
   case hy3=>intro w hSw;(try dsimp only at hSw);go_simp <;> with_reducible rfl
   simp only [Act.put,sTI,sT0,sT1]
   refine tkY 3 19 ?v4 rfl ?hy4 (by assumption) ?rest4
   case hy4=>intro w hSw;(try dsimp only at hSw);go_simp <;> with_reducible rfl
   simp only [Act.put,sTI,sT0,sT1]
   refine tkY 4 20 ?v5 rfl ?hy5 (by assumption) ?rest5
   case hy5=>intro w hSw;(try dsimp only at hSw);go_simp <;> with_reducible rfl
   simp only [Act.put,sTI,sT0,sT1]
   refine tkY 5 21 ?v6 rfl ?hy6 (by assumption) ?rest6
   case hy6=>intro w hSw;(try dsimp only at hSw);go_simp <;> with_reducible rfl
   simp only [Act.put,sTI,sT0,sT1]
   refine tkY 6 22 ?v7 rfl ?hy7 (by assumption) ?rest7
   case hy7=>intro w hSw;(try dsimp only at hSw);go_simp <;> with_reducible rfl
   simp only [Act.put,sTI,sT0,sT1]
   refine tkY 7 23 ?v8 rfl ?hy8 (by assumption) ?rest8
   case hy8=>intro w hSw;(try dsimp only at hSw);go_simp <;> with_reducible rfl
   simp only [Act.put,sTI,sT0,sT1]
   refine tkY 8 24 ?v9 rfl ?hy9 (by assumption) ?rest9
   case hy9=>intro w hSw;(try dsimp only at hSw);go_simp <;> with_reducible rfl
   simp only [Act.put,sTI,sT0,sT1]
   refine wpAnyH_done (by kernel_rfl) ?_ _
   go_wp2_with fail
   go_ret
   exact ⟨ae HD.out.symm,HBW.out.drew⟩
  subst hq
  by_cases hq:b=b2
  case neg =>
   have HD:=aa (show decide (l1=l2)=false by rw [decide_eq_false_iff_not];rintro rfl;have h:=HX.out.symm.trans HY.out;simp at h;exact hq (by simp [h]))
   have hd:(b == b2)=false:=beq_eq_false_iff_ne.2 hq
   have hd2:(b != b2)=true:=bne_iff_ne.2 hq
   clear hq
   go_upto_region 6 with fail
   refine wp_region_held_drew (S:=fun w'=>w'.cell? ⟨tb,ot+k * 4,none⟩=some (.int .u64 a)/\w'.cell? ⟨tb,ot+k * 4+1,none⟩=some (.int .u8 b)/\w'.cell? ⟨tb,ot+k * 4+2,none⟩=some (.int .i64 c')/\w'.cell? ⟨tb,ot+k * 4+3,none⟩=some (.int .i64 d)/\w'.cell? ⟨ub,uo+k * 4,none⟩=some (.int .u64 a)/\w'.cell? ⟨ub,uo+k * 4+1,none⟩=some (.int .u8 b2)/\w'.cell? ⟨ub,uo+k * 4+2,none⟩=some (.int .i64 c2')/\w'.cell? ⟨ub,uo+k * 4+3,none⟩=some (.int .i64 d2)) (by kernel_rfl) (⟨e0,e1,e2,e3,g0,g1,g2,g3⟩) (fun hHeld => ?_)
   refine tkY 0 16 ?v10 rfl ?hy10 (by assumption) ?rest10
   case hy10=>intro w hSw;(try dsimp only at hSw);go_simp <;> with_reducible rfl
   simp only [Act.put,sTI,sT0,sT1]
   refine tkY 1 17 ?v11 rfl ?hy11 (by assumption) ?rest11
   case hy11=>intro w hSw;(try dsimp only at hSw);go_simp <;> with_reducible rfl
   simp only [Act.put,sTI,sT0,sT1]
   refine tkY 2 18 ?v12 rfl ?hy12 (by assumption) ?rest12
   case hy12=>intro w hSw;(try dsimp only at hSw);go_simp <;> with_reducible rfl
   simp only [Act.put,sTI,sT0,sT1]
   refine tkY 3 19 ?v13 rfl ?hy13 (by assumption) ?rest13
   case hy13=>intro w hSw;(try dsimp only at hSw);go_simp <;> with_reducible rfl
   simp only [Act.put,sTI,sT0,sT1]
   refine tkY 4 20 ?v14 rfl ?hy14 (by assumption) ?rest14
   case hy14=>intro w hSw;(try dsimp only at hSw);go_simp <;> with_reducible rfl
   simp only [Act.put,sTI,sT0,sT1]
   refine tkY 5 21 ?v15 rfl ?hy15 (by assumption) ?rest15
   case hy15=>intro w hSw;(try dsimp only at hSw);go_simp <;> with_reducible rfl
   simp only [Act.put,sTI,sT0,sT1]
   refine tkY 6 22 ?v16 rfl ?hy16 (by assumption) ?rest16
   case hy16=>intro w hSw;(try dsimp only at hSw);go_simp <;> with_reducible rfl
   simp only [Act.put,sTI,sT0,sT1]
   refine tkY 7 23 ?v17 rfl ?hy17 (by assumption) ?rest17
   case hy17=>intro w hSw;(try dsimp only at hSw);go_simp <;> with_reducible rfl
   simp only [Act.put,sTI,sT0,sT1]
   refine tkY 8 24 ?v18 rfl ?hy18 (by assumption) ?rest18
   case hy18=>intro w hSw;(try dsimp only at hSw);go_simp <;> with_reducible rfl
   simp only [Act.put,sTI,sT0,sT1]
   refine wpAnyH_done (by kernel_rfl) ?_ _
   go_wp2_with fail
   go_ret
   exact ⟨ae HD.out.symm,HBW.out.drew⟩
  subst hq
  by_cases hq:c'=c2'
  case neg =>
   have HD:=aa (show decide (l1=l2)=false by rw [decide_eq_false_iff_not];rintro rfl;have h:=HX.out.symm.trans HY.out;simp at h;exact hq (by simp [h]))
   have hd:(c' == c2')=false:=beq_eq_false_iff_ne.2 hq
   have hd2:(c' != c2')=true:=bne_iff_ne.2 hq
   clear hq
   go_upto_region 6 with fail
   refine wp_region_held_drew (S:=fun w'=>w'.cell? ⟨tb,ot+k * 4,none⟩=some (.int .u64 a)/\w'.cell? ⟨tb,ot+k * 4+1,none⟩=some (.int .u8 b)/\w'.cell? ⟨tb,ot+k * 4+2,none⟩=some (.int .i64 c')/\w'.cell? ⟨tb,ot+k * 4+3,none⟩=some (.int .i64 d)/\w'.cell? ⟨ub,uo+k * 4,none⟩=some (.int .u64 a)/\w'.cell? ⟨ub,uo+k * 4+1,none⟩=some (.int .u8 b)/\w'.cell? ⟨ub,uo+k * 4+2,none⟩=some (.int .i64 c2')/\w'.cell? ⟨ub,uo+k * 4+3,none⟩=some (.int .i64 d2)) (by kernel_rfl) (⟨e0,e1,e2,e3,g0,g1,g2,g3⟩) (fun hHeld => ?_)
   refine tkY 0 16 ?v19 rfl ?hy19 (by assumption) ?rest19
   case hy19=>intro w hSw;(try dsimp only at hSw);go_simp <;> with_reducible rfl
   simp only [Act.put,sTI,sT0,sT1]
   refine tkY 1 17 ?v20 rfl ?hy20 (by assumption) ?rest20
   case hy20=>intro w hSw;(try dsimp only at hSw);go_simp <;> with_reducible rfl
   simp only [Act.put,sTI,sT0,sT1]
   refine tkY 2 18 ?v21 rfl ?hy21 (by assumption) ?rest21
   case hy21=>intro w hSw;(try dsimp only at hSw);go_simp <;> with_reducible rfl
   simp only [Act.put,sTI,sT0,sT1]
   refine tkY 3 19 ?v22 rfl ?hy22 (by assumption) ?rest22
   case hy22=>intro w hSw;(try dsimp only at hSw);go_simp <;> with_reducible rfl
   simp only [Act.put,sTI,sT0,sT1]
   refine tkY 4 20 ?v23 rfl ?hy23 (by assumption) ?rest23
   case hy23=>intro w hSw;(try dsimp only at hSw);go_simp <;> with_reducible rfl
   simp only [Act.put,sTI,sT0,sT1]
   refine tkY 5 21 ?v24 rfl ?hy24 (by assumption) ?rest24
   case hy24=>intro w hSw;(try dsimp only at hSw);go_simp <;> with_reducible rfl
   simp only [Act.put,sTI,sT0,sT1]
   refine tkY 6 22 ?v25 rfl ?hy25 (by assumption) ?rest25
   case hy25=>intro w hSw;(try dsimp only at hSw);go_simp <;> with_reducible rfl
   simp only [Act.put,sTI,sT0,sT1]
   refine tkY 7 23 ?v26 rfl ?hy26 (by assumption) ?rest26
   case hy26=>intro w hSw;(try dsimp only at hSw);go_simp <;> with_reducible rfl
   simp only [Act.put,sTI,sT0,sT1]
   refine tkY 8 24 ?v27 rfl ?hy27 (by assumption) ?rest27
   case hy27=>intro w hSw;(try dsimp only at hSw);go_simp <;> with_reducible rfl
   simp only [Act.put,sTI,sT0,sT1]
   refine wpAnyH_done (by kernel_rfl) ?_ _
   go_wp2_with fail
   go_ret
   exact ⟨ae HD.out.symm,HBW.out.drew⟩
  subst hq
  by_cases hq:d=d2
  case neg =>
   have HD:=aa (show decide (l1=l2)=false by rw [decide_eq_false_iff_not];rintro rfl;have h:=HX.out.symm.trans HY.out;simp at h;exact hq (by simp [h]))
   have hd:(d == d2)=false:=beq_eq_false_iff_ne.2 hq
   have hd2:(d != d2)=true:=bne_iff_ne.2 hq
   clear hq
   go_upto_region 6 with fail
   refine wp_region_held_drew (S:=fun w'=>w'.cell? ⟨tb,ot+k * 4,none⟩=some (.int .u64 a)/\w'.cell? ⟨tb,ot+k * 4+1,none⟩=some (.int .u8 b)/\w'.cell? ⟨tb,ot+k * 4+2,none⟩=some (.int .i64 c')/\w'.cell? ⟨tb,ot+k * 4+3,none⟩=some (.int .i64 d)/\w'.cell? ⟨ub,uo+k * 4,none⟩=some (.int .u64 a)/\w'.cell? ⟨ub,uo+k * 4+1,none⟩=some (.int .u8 b)/\w'.cell? ⟨ub,uo+k * 4+2,none⟩=some (.int .i64 c')/\w'.cell? ⟨ub,uo+k * 4+3,none⟩=some (.int .i64 d2)) (by kernel_rfl) (⟨e0,e1,e2,e3,g0,g1,g2,g3⟩) (fun hHeld => ?_)
   refine tkY 0 16 ?v28 rfl ?hy28 (by assumption) ?rest28
   case hy28=>intro w hSw;(try dsimp only at hSw);go_simp <;> with_reducible rfl
   simp only [Act.put,sTI,sT0,sT1]
   refine tkY 1 17 ?v29 rfl ?hy29 (by assumption) ?rest29
   case hy29=>intro w hSw;(try dsimp only at hSw);go_simp <;> with_reducible rfl
   simp only [Act.put,sTI,sT0,sT1]
   refine tkY 2 18 ?v30 rfl ?hy30 (by assumption) ?rest30
   case hy30=>intro w hSw;(try dsimp only at hSw);go_simp <;> with_reducible rfl
   simp only [Act.put,sTI,sT0,sT1]
   refine tkY 3 19 ?v31 rfl ?hy31 (by assumption) ?rest31
   case hy31=>intro w hSw;(try dsimp only at hSw);go_simp <;> with_reducible rfl
   simp only [Act.put,sTI,sT0,sT1]
   refine tkY 4 20 ?v32 rfl ?hy32 (by assumption) ?rest32
   case hy32=>intro w hSw;(try dsimp only at hSw);go_simp <;> with_reducible rfl
   simp only [Act.put,sTI,sT0,sT1]
   refine tkY 5 21 ?v33 rfl ?hy33 (by assumption) ?rest33
   case hy33=>intro w hSw;(try dsimp only at hSw);go_simp <;> with_reducible rfl
   simp only [Act.put,sTI,sT0,sT1]
   refine tkY 6 22 ?v34 rfl ?hy34 (by assumption) ?rest34
   case hy34=>intro w hSw;(try dsimp only at hSw);go_simp <;> with_reducible rfl
   simp only [Act.put,sTI,sT0,sT1]
   refine tkY 7 23 ?v35 rfl ?hy35 (by assumption) ?rest35
   case hy35=>intro w hSw;(try dsimp only at hSw);go_simp <;> with_reducible rfl
   simp only [Act.put,sTI,sT0,sT1]
   refine tkY 8 24 ?v36 rfl ?hy36 (by assumption) ?rest36
   case hy36=>intro w hSw;(try dsimp only at hSw);go_simp <;> with_reducible rfl
   simp only [Act.put,sTI,sT0,sT1]
   refine wpAnyH_done (by kernel_rfl) ?_ _
   go_wp2_with fail
   go_ret
   exact ⟨ae HD.out.symm,HBW.out.drew⟩
  subst hq
  have HJ2:=aa (show ∀j,j<k+1->l1[j]?=l2[j]? from fun j hj=>by
   by_cases h:j=k
   ·rw [h,HX.out,HY.out]
   ·exact HJ.out j (by omega))
  go_upto_region 6 with fail
  refine wp_region_held_drew (S:=fun w'=>w'.cell? ⟨tb,ot+k * 4,none⟩=some (.int .u64 a)/\w'.cell? ⟨tb,ot+k * 4+1,none⟩=some (.int .u8 b)/\w'.cell? ⟨tb,ot+k * 4+2,none⟩=some (.int .i64 c')/\w'.cell? ⟨tb,ot+k * 4+3,none⟩=some (.int .i64 d)/\w'.cell? ⟨ub,uo+k * 4,none⟩=some (.int .u64 a)/\w'.cell? ⟨ub,uo+k * 4+1,none⟩=some (.int .u8 b)/\w'.cell? ⟨ub,uo+k * 4+2,none⟩=some (.int .i64 c')/\w'.cell? ⟨ub,uo+k * 4+3,none⟩=some (.int .i64 d)) (by kernel_rfl) (⟨e0,e1,e2,e3,g0,g1,g2,g3⟩) (fun hHeld => ?_)
  refine tkY 0 16 ?v37 rfl ?hy37 (by assumption) ?rest37
  case hy37=>intro w hSw;(try dsimp only at hSw);go_simp <;> with_reducible rfl
  simp only [Act.put,sTI,sT0,sT1]
  refine tkY 1 17 ?v38 rfl ?hy38 (by assumption) ?rest38
  case hy38=>intro w hSw;(try dsimp only at hSw);go_simp <;> with_reducible rfl
  simp only [Act.put,sTI,sT0,sT1]
  refine tkY 2 18 ?v39 rfl ?hy39 (by assumption) ?rest39
  case hy39=>intro w hSw;(try dsimp only at hSw);go_simp <;> with_reducible rfl
  simp only [Act.put,sTI,sT0,sT1]
  refine tkY 3 19 ?v40 rfl ?hy40 (by assumption) ?rest40
  case hy40=>intro w hSw;(try dsimp only at hSw);go_simp <;> with_reducible rfl
  simp only [Act.put,sTI,sT0,sT1]
  refine tkY 4 20 ?v41 rfl ?hy41 (by assumption) ?rest41
  case hy41=>intro w hSw;(try dsimp only at hSw);go_simp <;> with_reducible rfl
  simp only [Act.put,sTI,sT0,sT1]
  refine tkY 5 21 ?v42 rfl ?hy42 (by assumption) ?rest42
  case hy42=>intro w hSw;(try dsimp only at hSw);go_simp <;> with_reducible rfl
  simp only [Act.put,sTI,sT0,sT1]
  refine tkY 6 22 ?v43 rfl ?hy43 (by assumption) ?rest43
  case hy43=>intro w hSw;(try dsimp only at hSw);go_simp <;> with_reducible rfl
  simp only [Act.put,sTI,sT0,sT1]
  refine tkY 7 23 ?v44 rfl ?hy44 (by assumption) ?rest44
  case hy44=>intro w hSw;(try dsimp only at hSw);go_simp <;> with_reducible rfl
  simp only [Act.put,sTI,sT0,sT1]
  refine tkY 8 24 ?v45 rfl ?hy45 (by assumption) ?rest45
  case hy45=>intro w hSw;(try dsimp only at hSw);go_simp <;> with_reducible rfl
  simp only [Act.put,sTI,sT0,sT1]
  refine wpAnyH_done (by kernel_rfl) ?_ _
  go_wp2_with fail
  go_roundw
  case rel=>exact ⟨k+1,by omega,by go_num,HJ2,HBW.out.drew⟩
  case measure=>simp [intOf];omega


theorem mU (l1 l2:List (MrkM)) (A1 A2:Option Addr) (n1 n2 c1 c2 B:Nat) (w:World) (hn1:l1.length=n1) (hn2:l2.length=n2) (hm:n1<=9223372036854775807) (hm2:n2<=9223372036854775807) (h1:Sees w B A1 (l1.flatMap mrkC)) (h2:Sees w B A2 (l2.flatMap mrkC)) (hB:B<=w.heap.size) :
  Calls Tryz.prog 199 #[.slice A1 n1 c1, .slice A2 n2 c2] w fun e w'=>e = .returned (.bool (decide (l1=l2)))/\Below w.heap.size w w':=by
 by_cases hne:n1=n2
 case neg =>
  have HD:=aa (show decide (l1=l2)=false by rw [decide_eq_false_iff_not];intro e;exact hne (by rw [<- hn1,<- hn2,e]))
  have hb:((n1:Int) != (n2:Int))=true:=by simpa using (show ¬(n1:Int)=n2 by omega)
  clear hn1 hn2 h1 h2 hne
  go_enter Tryz.func199,Tryz.ntmps199
  go_wp2
  go_ret
  exact ⟨ae HD.out.symm,Below.refl _ _⟩
 subst hne
 have hb:((n1:Int) != (n1:Int))=false:=by simp
 have HN1:=aa hn1
 have HN2:=aa hn2
 have HS1:=aa h1
 have HS2:=aa h2
 clear hn1 hn2 h1 h2
 go_enter Tryz.func199,Tryz.ntmps199
 go_wp2
 go_loopw [13] (fun i wr=>∃k:Nat,k<=n1/\i = .int .i64 k/\Hid (∀j,j<k->l1[j]?=l2[j]?)/\Below w.heap.size w wr) (fun i _=>n1 - (intOf i).toNat)
 case atStart=>exact ⟨0,Nat.zero_le _,rfl,(fun j hj=>absurd hj (by omega)),Below.refl _ _⟩
 case round =>
  obtain ⟨k,hk,rfl,HJ,hb'⟩:=hrel
  have HBW:=aa hb'
  have hzw:w.heap.size<=wr.heap.size:=hb'.size
  by_cases hlt:k<n1
  case neg =>
   obtain rfl:k=n1:=by omega
   have HD:=aa (show decide (l1=l2)=true by
    rw [decide_eq_true_eq]
    refine List.ext_getElem? fun j => ?_
    by_cases h:j<k
    ·exact HJ.out j h
    ·rw [List.getElem?_eq_none (by rw [HN1.out];omega),List.getElem?_eq_none (by rw [HN2.out];omega)])
   clear hb'
   go_wp2
   go_ret
   exact ⟨ae HD.out.symm,HBW.out⟩
  obtain ⟨x,hx⟩:∃x,l1[k]?=some x:=⟨_,List.getElem?_eq_getElem (by rw [HN1.out];exact hlt)⟩
  obtain ⟨y,hy⟩:∃y,l2[k]?=some y:=⟨_,List.getElem?_eq_getElem (by rw [HN2.out];exact hlt)⟩
  obtain ⟨tb,ot,hAe,hab,e0,e1,e2⟩:=(HS1.out.below (hb'.mono hB)).mrk hx
  obtain ⟨ub,uo,hAe2,hab2,g0,g1,g2⟩:=(HS2.out.below (hb'.mono hB)).mrk hy
  have hwz:tb<wr.heap.size:=by omega
  have huz:ub<wr.heap.size:=by omega
  subst hAe hAe2
  have HX:=aa hx
  have HY:=aa hy
  clear hx hy hb' HS1 HS2
  obtain ⟨a,b,c'⟩:=x
  obtain ⟨a2,b2,c2'⟩:=y
  simp only at e0 e1 e2 g0 g1 g2
  by_cases hq:a=a2
  case neg =>
   have HD:=aa (show decide (l1=l2)=false by rw [decide_eq_false_iff_not];rintro rfl;have h:=HX.out.symm.trans HY.out;simp at h;exact hq (by simp [h]))
   have hd:(a == a2)=false:=beq_eq_false_iff_ne.2 hq
   have hd2:(a != a2)=true:=bne_iff_ne.2 hq
   clear hq
   go_upto_region 6 with fail
   refine wp_region_held_drew (S:=fun w'=>w'.cell? ⟨tb,ot+k * 3,none⟩=some (.int .u8 a)/\w'.cell? ⟨tb,ot+k * 3+1,none⟩=some (.int .u64 b)/\w'.cell? ⟨tb,ot+k * 3+2,none⟩=some (.int .u64 c')/\w'.cell? ⟨ub,uo+k * 3,none⟩=some (.int .u8 a2)/\w'.cell? ⟨ub,uo+k * 3+1,none⟩=some (.int .u64 b2)/\w'.cell? ⟨ub,uo+k * 3+2,none⟩=some (.int .u64 c2')) (by kernel_rfl) (⟨e0,e1,e2,g0,g1,g2⟩) (fun hHeld => ?_)
   refine tkY 0 16 ?v1 rfl ?hy1 (by assumption) ?rest1
   case hy1=>intro w hSw;(try dsimp only at hSw);go_simp <;> with_reducible rfl
   simp only [Act.put,sTI,sT0,sT1]
   refine tkY 1 17 ?v2 rfl ?hy2 (by assumption) ?rest2
   case hy2=>intro w hSw;(try dsimp only at hSw);go_simp <;> with_reducible rfl
   simp only [Act.put,sTI,sT0,sT1]
   refine tkY 2 18 ?v3 rfl ?hy3 (by assumption) ?rest3
   case hy3=>intro w hSw;(try dsimp only at hSw);go_simp <;> with_reducible rfl
   simp only [Act.put,sTI,sT0,sT1]
   refine tkY 3 19 ?v4 rfl ?hy4 (by assumption) ?rest4
   case hy4=>intro w hSw;(try dsimp only at hSw);go_simp <;> with_reducible rfl
   simp only [Act.put,sTI,sT0,sT1]
   refine tkY 4 20 ?v5 rfl ?hy5 (by assumption) ?rest5
   case hy5=>intro w hSw;(try dsimp only at hSw);go_simp <;> with_reducible rfl
   simp only [Act.put,sTI,sT0,sT1]
   refine tkY 5 21 ?v6 rfl ?hy6 (by assumption) ?rest6
   case hy6=>intro w hSw;(try dsimp only at hSw);go_simp <;> with_reducible rfl
   simp only [Act.put,sTI,sT0,sT1]
   refine tkY 6 22 ?v7 rfl ?hy7 (by assumption) ?rest7
   case hy7=>intro w hSw;(try dsimp only at hSw);go_simp <;> with_reducible rfl
   simp only [Act.put,sTI,sT0,sT1]
   refine tkY 7 23 ?v8 rfl ?hy8 (by assumption) ?rest8
   case hy8=>intro w hSw;(try dsimp only at hSw);go_simp <;> with_reducible rfl
   simp only [Act.put,sTI,sT0,sT1]
   refine tkY 8 24 ?v9 rfl ?hy9 (by assumption) ?rest9
   case hy9=>intro w hSw;(try dsimp only at hSw);go_simp <;> with_reducible rfl
   simp only [Act.put,sTI,sT0,sT1]
   refine wpAnyH_done (by kernel_rfl) ?_ _
   go_wp2_with fail
   go_ret
   exact ⟨ae HD.out.symm,HBW.out.drew⟩
  subst hq
  by_cases hq:b=b2
  case neg =>
   have HD:=aa (show decide (l1=l2)=false by rw [decide_eq_false_iff_not];rintro rfl;have h:=HX.out.symm.trans HY.out;simp at h;exact hq (by simp [h]))
   have hd:(b == b2)=false:=beq_eq_false_iff_ne.2 hq
   have hd2:(b != b2)=true:=bne_iff_ne.2 hq
   clear hq
   go_upto_region 6 with fail
   refine wp_region_held_drew (S:=fun w'=>w'.cell? ⟨tb,ot+k * 3,none⟩=some (.int .u8 a)/\w'.cell? ⟨tb,ot+k * 3+1,none⟩=some (.int .u64 b)/\w'.cell? ⟨tb,ot+k * 3+2,none⟩=some (.int .u64 c')/\w'.cell? ⟨ub,uo+k * 3,none⟩=some (.int .u8 a)/\w'.cell? ⟨ub,uo+k * 3+1,none⟩=some (.int .u64 b2)/\w'.cell? ⟨ub,uo+k * 3+2,none⟩=some (.int .u64 c2')) (by kernel_rfl) (⟨e0,e1,e2,g0,g1,g2⟩) (fun hHeld => ?_)
   refine tkY 0 16 ?v10 rfl ?hy10 (by assumption) ?rest10
   case hy10=>intro w hSw;(try dsimp only at hSw);go_simp <;> with_reducible rfl
   simp only [Act.put,sTI,sT0,sT1]
   refine tkY 1 17 ?v11 rfl ?hy11 (by assumption) ?rest11
   case hy11=>intro w hSw;(try dsimp only at hSw);go_simp <;> with_reducible rfl
   simp only [Act.put,sTI,sT0,sT1]
   refine tkY 2 18 ?v12 rfl ?hy12 (by assumption) ?rest12
   case hy12=>intro w hSw;(try dsimp only at hSw);go_simp <;> with_reducible rfl
   simp only [Act.put,sTI,sT0,sT1]
   refine tkY 3 19 ?v13 rfl ?hy13 (by assumption) ?rest13
   case hy13=>intro w hSw;(try dsimp only at hSw);go_simp <;> with_reducible rfl
   simp only [Act.put,sTI,sT0,sT1]
   refine tkY 4 20 ?v14 rfl ?hy14 (by assumption) ?rest14
   case hy14=>intro w hSw;(try dsimp only at hSw);go_simp <;> with_reducible rfl
   simp only [Act.put,sTI,sT0,sT1]
   refine tkY 5 21 ?v15 rfl ?hy15 (by assumption) ?rest15
   case hy15=>intro w hSw;(try dsimp only at hSw);go_simp <;> with_reducible rfl
   simp only [Act.put,sTI,sT0,sT1]
   refine tkY 6 22 ?v16 rfl ?hy16 (by assumption) ?rest16
   case hy16=>intro w hSw;(try dsimp only at hSw);go_simp <;> with_reducible rfl
   simp only [Act.put,sTI,sT0,sT1]
   refine tkY 7 23 ?v17 rfl ?hy17 (by assumption) ?rest17
   case hy17=>intro w hSw;(try dsimp only at hSw);go_simp <;> with_reducible rfl
   simp only [Act.put,sTI,sT0,sT1]
   refine tkY 8 24 ?v18 rfl ?hy18 (by assumption) ?rest18
   case hy18=>intro w hSw;(try dsimp only at hSw);go_simp <;> with_reducible rfl
   simp only [Act.put,sTI,sT0,sT1]
   refine wpAnyH_done (by kernel_rfl) ?_ _
   go_wp2_with fail
   go_ret
   exact ⟨ae HD.out.symm,HBW.out.drew⟩
  subst hq
  by_cases hq:c'=c2'
  case neg =>
   have HD:=aa (show decide (l1=l2)=false by rw [decide_eq_false_iff_not];rintro rfl;have h:=HX.out.symm.trans HY.out;simp at h;exact hq (by simp [h]))
   have hd:(c' == c2')=false:=beq_eq_false_iff_ne.2 hq
   have hd2:(c' != c2')=true:=bne_iff_ne.2 hq
   clear hq
   go_upto_region 6 with fail
   refine wp_region_held_drew (S:=fun w'=>w'.cell? ⟨tb,ot+k * 3,none⟩=some (.int .u8 a)/\w'.cell? ⟨tb,ot+k * 3+1,none⟩=some (.int .u64 b)/\w'.cell? ⟨tb,ot+k * 3+2,none⟩=some (.int .u64 c')/\w'.cell? ⟨ub,uo+k * 3,none⟩=some (.int .u8 a)/\w'.cell? ⟨ub,uo+k * 3+1,none⟩=some (.int .u64 b)/\w'.cell? ⟨ub,uo+k * 3+2,none⟩=some (.int .u64 c2')) (by kernel_rfl) (⟨e0,e1,e2,g0,g1,g2⟩) (fun hHeld => ?_)
   refine tkY 0 16 ?v19 rfl ?hy19 (by assumption) ?rest19
   case hy19=>intro w hSw;(try dsimp only at hSw);go_simp <;> with_reducible rfl
   simp only [Act.put,sTI,sT0,sT1]
   refine tkY 1 17 ?v20 rfl ?hy20 (by assumption) ?rest20
   case hy20=>intro w hSw;(try dsimp only at hSw);go_simp <;> with_reducible rfl
   simp only [Act.put,sTI,sT0,sT1]
   refine tkY 2 18 ?v21 rfl ?hy21 (by assumption) ?rest21
   case hy21=>intro w hSw;(try dsimp only at hSw);go_simp <;> with_reducible rfl
   simp only [Act.put,sTI,sT0,sT1]
   refine tkY 3 19 ?v22 rfl ?hy22 (by assumption) ?rest22
   case hy22=>intro w hSw;(try dsimp only at hSw);go_simp <;> with_reducible rfl
   simp only [Act.put,sTI,sT0,sT1]
   refine tkY 4 20 ?v23 rfl ?hy23 (by assumption) ?rest23
   case hy23=>intro w hSw;(try dsimp only at hSw);go_simp <;> with_reducible rfl
   simp only [Act.put,sTI,sT0,sT1]
   refine tkY 5 21 ?v24 rfl ?hy24 (by assumption) ?rest24
   case hy24=>intro w hSw;(try dsimp only at hSw);go_simp <;> with_reducible rfl
   simp only [Act.put,sTI,sT0,sT1]
   refine tkY 6 22 ?v25 rfl ?hy25 (by assumption) ?rest25
   case hy25=>intro w hSw;(try dsimp only at hSw);go_simp <;> with_reducible rfl
   simp only [Act.put,sTI,sT0,sT1]
   refine tkY 7 23 ?v26 rfl ?hy26 (by assumption) ?rest26
   case hy26=>intro w hSw;(try dsimp only at hSw);go_simp <;> with_reducible rfl
   simp only [Act.put,sTI,sT0,sT1]
   refine tkY 8 24 ?v27 rfl ?hy27 (by assumption) ?rest27
   case hy27=>intro w hSw;(try dsimp only at hSw);go_simp <;> with_reducible rfl
   simp only [Act.put,sTI,sT0,sT1]
   refine wpAnyH_done (by kernel_rfl) ?_ _
   go_wp2_with fail
   go_ret
   exact ⟨ae HD.out.symm,HBW.out.drew⟩
  subst hq
  have HJ2:=aa (show ∀j,j<k+1->l1[j]?=l2[j]? from fun j hj=>by
   by_cases h:j=k
   ·rw [h,HX.out,HY.out]
   ·exact HJ.out j (by omega))
  go_upto_region 6 with fail
  refine wp_region_held_drew (S:=fun w'=>w'.cell? ⟨tb,ot+k * 3,none⟩=some (.int .u8 a)/\w'.cell? ⟨tb,ot+k * 3+1,none⟩=some (.int .u64 b)/\w'.cell? ⟨tb,ot+k * 3+2,none⟩=some (.int .u64 c')/\w'.cell? ⟨ub,uo+k * 3,none⟩=some (.int .u8 a)/\w'.cell? ⟨ub,uo+k * 3+1,none⟩=some (.int .u64 b)/\w'.cell? ⟨ub,uo+k * 3+2,none⟩=some (.int .u64 c')) (by kernel_rfl) (⟨e0,e1,e2,g0,g1,g2⟩) (fun hHeld => ?_)
  refine tkY 0 16 ?v28 rfl ?hy28 (by assumption) ?rest28
  case hy28=>intro w hSw;(try dsimp only at hSw);go_simp <;> with_reducible rfl
  simp only [Act.put,sTI,sT0,sT1]
  refine tkY 1 17 ?v29 rfl ?hy29 (by assumption) ?rest29
  case hy29=>intro w hSw;(try dsimp only at hSw);go_simp <;> with_reducible rfl
  simp only [Act.put,sTI,sT0,sT1]
  refine tkY 2 18 ?v30 rfl ?hy30 (by assumption) ?rest30
  case hy30=>intro w hSw;(try dsimp only at hSw);go_simp <;> with_reducible rfl
  simp only [Act.put,sTI,sT0,sT1]
  refine tkY 3 19 ?v31 rfl ?hy31 (by assumption) ?rest31
  case hy31=>intro w hSw;(try dsimp only at hSw);go_simp <;> with_reducible rfl
  simp only [Act.put,sTI,sT0,sT1]
  refine tkY 4 20 ?v32 rfl ?hy32 (by assumption) ?rest32
  case hy32=>intro w hSw;(try dsimp only at hSw);go_simp <;> with_reducible rfl
  simp only [Act.put,sTI,sT0,sT1]
  refine tkY 5 21 ?v33 rfl ?hy33 (by assumption) ?rest33
  case hy33=>intro w hSw;(try dsimp only at hSw);go_simp <;> with_reducible rfl
  simp only [Act.put,sTI,sT0,sT1]
  refine tkY 6 22 ?v34 rfl ?hy34 (by assumption) ?rest34
  case hy34=>intro w hSw;(try dsimp only at hSw);go_simp <;> with_reducible rfl
  simp only [Act.put,sTI,sT0,sT1]
  refine tkY 7 23 ?v35 rfl ?hy35 (by assumption) ?rest35
  case hy35=>intro w hSw;(try dsimp only at hSw);go_simp <;> with_reducible rfl
  simp only [Act.put,sTI,sT0,sT1]
  refine tkY 8 24 ?v36 rfl ?hy36 (by assumption) ?rest36
  case hy36=>intro w hSw;(try dsimp only at hSw);go_simp <;> with_reducible rfl
  simp only [Act.put,sTI,sT0,sT1]
  refine wpAnyH_done (by kernel_rfl) ?_ _
  go_wp2_with fail
  go_roundw
  case rel=>exact ⟨k+1,by omega,by go_num,HJ2,HBW.out.drew⟩
  case measure=>simp [intOf];omega


theorem Bw (a b:RegP):decide (a=b)=(decide (a.ki=b.ki) && (decide (a.inc=b.inc) && (decide (a.st=b.st) && (decide (a.va=b.va) && (decide (a.dn=b.dn) && (decide (a.ou=b.ou) && (decide (a.la=b.la) && decide (a.ma=b.ma)))))))):=by
 obtain ⟨_,_,_,_,_,_,_,_⟩:=a
 obtain ⟨_,_,_,_,_,_,_,_⟩:=b
 rw [Bool.eq_iff_iff]
 simp only [RegP.mk.injEq,Bool.and_eq_true,decide_eq_true_eq]

theorem kj (x y:RegM) (B:Nat) (w:World) (hx:RegM.ok w B x) (hy:RegM.ok w B y) (hB:B<=w.heap.size):Calls Tryz.prog 127 #[x.v,y.v] w fun e w'=>e = .returned (.bool (decide (x.p=y.p)))/\Below w.heap.size w w':=by
 have HW:=aa (show Below w.heap.size w ((w.alloc (.cells x.box 31)).alloc (.cells y.box 31)) from ((Below.refl _ _).alloc (Nat.le_refl _) _).alloc (by simp) _)
 have HX:=aa ((BoxAt.new w x.box 31).alloc (.cells y.box 31))
 have HY:=aa (show BoxAt ((w.alloc (.cells x.box 31)).alloc (.cells y.box 31)) (w.heap.size+1) y.box 31 by
  have:=BoxAt.new (w.alloc (.cells x.box 31)) y.box 31
  simpa using this)
 have HCI:=aa (fun (u:World) (hb:Below w.heap.size w u)=>iZ x.va.l y.va.l x.va.A y.va.A x.va.l.length y.va.l.length x.va.c y.va.c B u rfl rfl (cw hx.2.1) (cw hy.2.1) (hx.2.1.2.2.1.below (hb.mono hB)) (hy.2.1.2.2.1.below (hb.mono hB)) (Nat.le_trans hB hb.size))
 have HCD:=aa (fun (u:World) (hb:Below w.heap.size w u)=>mS x.dn y.dn B u (dns_stable.below hx.2.2.1 (hb.mono hB)) (dns_stable.below hy.2.2.1 (hb.mono hB)) (Nat.le_trans hB hb.size))
 have HCC:=aa (fun (u:World) (hb:Below w.heap.size w u)=>mT x.ou.l y.ou.l x.ou.A y.ou.A x.ou.l.length y.ou.l.length x.ou.c y.ou.c B u rfl rfl (cw hx.2.2.2.1) (cw hy.2.2.2.1) (hx.2.2.2.1.2.2.1.below (hb.mono hB)) (hy.2.2.2.1.2.2.1.below (hb.mono hB)) (Nat.le_trans hB hb.size))
 have HCM:=aa (fun (u:World) (hb:Below w.heap.size w u)=>mU x.ma.l y.ma.l x.ma.A y.ma.A x.ma.l.length y.ma.l.length x.ma.c y.ma.c B u rfl rfl (cw hx.2.2.2.2) (cw hy.2.2.2.2) (hx.2.2.2.2.2.2.1.below (hb.mono hB)) (hy.2.2.2.2.2.2.1.below (hb.mono hB)) (Nat.le_trans hB hb.size))
 have HP:=aa (Bw x.p y.p)
 rw [HP.out]
 unfold RegM.p
 simp only
 obtain ⟨q4,h4⟩:∃q,decide (x.va.l=y.va.l)=q:=⟨_,rfl⟩
 obtain ⟨q5,h5⟩:∃q,decide (x.dn.l.map DoneM.p=y.dn.l.map DoneM.p)=q:=⟨_,rfl⟩
 obtain ⟨q6,h6⟩:∃q,decide (x.ou.l=y.ou.l)=q:=⟨_,rfl⟩
 obtain ⟨q8,h8⟩:∃q,decide (x.ma.l=y.ma.l)=q:=⟨_,rfl⟩
 simp only [h4] at HCI ⊢
 simp only [h5] at HCD ⊢
 simp only [h6] at HCC ⊢
 simp only [h8] at HCM ⊢
 clear HP h4 h5 h6 h8 hx hy
 obtain ⟨ki,inc,st,⟨vA,vc,vl⟩,⟨dA,dc,dl⟩,⟨oA,oc,ol⟩,la,⟨mA,mc,ml⟩⟩:=x
 obtain ⟨ki2,inc2,st2,⟨vA2,vc2,vl2⟩,⟨dA2,dc2,dl2⟩,⟨oA2,oc2,ol2⟩,la2,⟨mA2,mc2,ml2⟩⟩:=y
 simp only [RegM.v,RegM.box,Sl.v] at HCI HCD HCC HCM HW HX HY ⊢
 by_cases c0:ki=ki2
 case neg =>
  have hd:(ki == ki2)=false:=beq_eq_false_iff_ne.2 c0
  have hf:=decide_eq_false c0
  have HE:=aa hf
  clear c0 hf
  go_enter Tryz.func127,Tryz.ntmps127
  go_wp2
  go_ret
  exact ⟨by rw [HE.out];simp,HW.out⟩
 subst c0
 by_cases c1:inc=inc2
 case neg =>
  have hd:(inc == inc2)=false:=beq_eq_false_iff_ne.2 c1
  have hf:=decide_eq_false c1
  have HE:=aa hf
  clear c1 hf
  go_enter Tryz.func127,Tryz.ntmps127
  go_wp2
  go_ret
  exact ⟨by rw [HE.out];simp,HW.out⟩
 subst c1
 by_cases c2:st=st2
 case neg =>
  have hd:(st == st2)=false:=beq_eq_false_iff_ne.2 c2
  have hf:=decide_eq_false c2
  have HE:=aa hf
  clear c2 hf
  go_enter Tryz.func127,Tryz.ntmps127
  go_wp2
  go_ret
  exact ⟨by rw [HE.out];simp,HW.out⟩
 subst c2
 simp only [decide_true,Bool.true_and]
 go_enter Tryz.func127,Tryz.ntmps127
 go_wp2_with fail
 refine (HCI.out _ HW.out).mono ?_
 rintro en w1 ⟨rfl,hb1⟩
 have HB1:=aa (HW.out.trans (hb1.mono HW.out.size))
 have HX1:=aa (HX.out.below hb1)
 have HY1:=aa (HY.out.below hb1)
 clear hb1
 have hz1:w.heap.size<w1.heap.size:=HX1.out.lt
 have hy1:w.heap.size+1<w1.heap.size:=HY1.out.lt
 have hcx:=HX1.out.cell
 have hcy:=HY1.out.cell
 cases q4 with
 | false =>
  go_wp2
  go_ret
  exact ⟨by simp,HB1.out⟩
 | true =>
 go_wp2_with fail
 refine (HCD.out _ HB1.out).mono ?_
 rintro en w2 ⟨rfl,hb2⟩
 have HB2:=aa (HB1.out.trans (hb2.mono HB1.out.size))
 have HX2:=aa (HX1.out.below hb2)
 have HY2:=aa (HY1.out.below hb2)
 clear hb2 hcx hcy
 have hz2:w.heap.size<w2.heap.size:=HX2.out.lt
 have hy2:w.heap.size+1<w2.heap.size:=HY2.out.lt
 have hcx:=HX2.out.cell
 have hcy:=HY2.out.cell
 cases q5 with
 | false =>
  go_wp2
  go_ret
  exact ⟨by simp,HB2.out⟩
 | true =>
 go_wp2_with fail
 refine (HCC.out _ HB2.out).mono ?_
 rintro en w3 ⟨rfl,hb3⟩
 have HB3:=aa (HB2.out.trans (hb3.mono HB2.out.size))
 have HX3:=aa (HX2.out.below hb3)
 have HY3:=aa (HY2.out.below hb3)
 clear hb3 hcx hcy
 have hz3:w.heap.size<w3.heap.size:=HX3.out.lt
 have hy3:w.heap.size+1<w3.heap.size:=HY3.out.lt
 have hcx:=HX3.out.cell
 have hcy:=HY3.out.cell
 cases q6 with
 | false =>
  go_wp2
  go_ret
  exact ⟨by simp,HB3.out⟩
 | true =>
 by_cases c6:la=la2
 case neg =>
  have hd:(la == la2)=false:=beq_eq_false_iff_ne.2 c6
  have hf:=decide_eq_false c6
  have HE:=aa hf
  clear c6 hf
  go_wp2
  go_ret
  exact ⟨by rw [HE.out];simp,HB3.out⟩
 subst c6
 go_wp2_with fail
 refine (HCM.out _ HB3.out).mono ?_
 rintro en w4 ⟨rfl,hb4⟩
 have HB4:=aa (HB3.out.trans (hb4.mono HB3.out.size))
 clear hb4 hcx hcy
 go_wp2
 go_ret
 exact ⟨by simp,HB4.out⟩

theorem iE (x:RegM) (B:Nat) (w:World) (hx:RegM.ok w B x) (hB:B<=w.heap.size):Calls Tryz.prog 96 #[x.v] w fun e w'=>e = .returned (.bool (mayG x.p))/\Below w.heap.size w w':=by
 have HW:=aa (show Below w.heap.size w (w.alloc (.cells x.box 31)) from (Below.refl _ _).alloc (Nat.le_refl _) _)
 have HX:=aa (BoxAt.new w x.box 31)
 have HS:=aa (fun (u:World) (hb:Below w.heap.size w u)=>kj x zeroM B u (reg_stable.below hx (hb.mono hB)) (bA u B) (Nat.le_trans hB hb.size))
 have HM:=aa (fun (u:World) (hb:Below w.heap.size w u)=>mR x u.heap.size u (reg_stable.more (reg_stable.below hx (hb.mono hB)) (Nat.le_trans hB hb.size)) (Nat.le_refl _))
 have hm1:=cw hx.2.1
 have hm2:=cw hx.2.2.2.1
 have hk0:=hx.1.1
 have HZ:=aa (show mayG x.p=if x.ki=0 then decide (x.p=zeroP) else if x.ki=1 then stnB x.p else if x.ki=2 then stnB x.p && (decide (x.st=0) && (decide (x.va.l.length=0) && decide (x.ou.l.length=0))) else false from rfl)
 rw [HZ.out]
 obtain ⟨q1,h1⟩:∃q,decide (x.p=zeroP)=q:=⟨_,rfl⟩
 obtain ⟨q2,h2⟩:∃q,stnB x.p=q:=⟨_,rfl⟩
 simp only [show zeroM.p=zeroP from rfl,h1] at HS
 simp only [h2] at HM
 simp only [h1,h2]
 clear HZ h1 h2 hx
 obtain ⟨ki,inc,st,⟨vA,vc,vl⟩,⟨dA,dc,dl⟩,⟨oA,oc,ol⟩,la,⟨mA,mc,ml⟩⟩:=x
 simp only [RegM.v,RegM.box,Sl.v,zeroM,List.length_nil] at HS HM HW HX hm1 hm2 hk0 ⊢
 obtain ⟨nv,hnv⟩:∃n,vl.length=n:=⟨_,rfl⟩
 obtain ⟨no,hno⟩:∃n,ol.length=n:=⟨_,rfl⟩
 simp only [hnv,hno] at HS HM HW HX hm1 hm2 ⊢
 clear hnv hno
 by_cases k0:ki=0
 ·subst k0
  simp only [if_true]
  go_enter Tryz.func96,Tryz.ntmps96
  go_wp2_with fail
  refine (HS.out _ HW.out).mono ?_
  rintro en w1 ⟨rfl,hb1⟩
  have HB1:=aa (HW.out.trans (hb1.mono (by simp)))
  clear hb1
  go_wp2
  go_ret
  exact ⟨rfl,HB1.out⟩
 have hd0:(ki == 0)=false:=beq_eq_false_iff_ne.2 k0
 rw [if_neg k0]
 by_cases k1:ki=1
 ·subst k1
  simp only [if_true]
  clear hd0 k0
  go_enter Tryz.func96,Tryz.ntmps96
  go_wp2_with fail
  refine (HM.out _ HW.out).mono ?_
  rintro en w1 ⟨rfl,hb1⟩
  have HB1:=aa (HW.out.trans (hb1.mono (by simp)))
  clear hb1
  go_wp2
  go_ret
  exact ⟨rfl,HB1.out⟩
 have hd1:(ki == 1)=false:=beq_eq_false_iff_ne.2 k1
 rw [if_neg k1]
 by_cases k2:ki=2
 ·subst k2
  simp only [if_true]
  clear hd0 k0 hd1 k1
  go_enter Tryz.func96,Tryz.ntmps96
  go_wp2_with fail
  refine (HM.out _ HW.out).mono ?_
  rintro en w1 ⟨rfl,hb1⟩
  have HB1:=aa (HW.out.trans (hb1.mono (by simp)))
  have HX1:=aa (HX.out.below hb1)
  clear hb1
  have hz1:w.heap.size<w1.heap.size:=HX1.out.lt
  have hcx:=HX1.out.cell
  cases q2 with
  | false =>
   go_wp2
   go_ret
   exact ⟨rfl,HB1.out⟩
  | true =>
  by_cases c1:st=0
  case neg =>
   have hd:(st == 0)=false:=beq_eq_false_iff_ne.2 c1
   have HE:=aa (decide_eq_false c1)
   clear c1
   go_wp2
   go_ret
   exact ⟨by rw [HE.out];simp,HB1.out⟩
  subst c1
  by_cases c2:nv=0
  case neg =>
   have hd:((nv:Int) == 0)=false:=beq_eq_false_iff_ne.2 (by omega)
   have HE:=aa (decide_eq_false c2)
   clear c2
   go_wp2
   go_ret
   exact ⟨by rw [HE.out];simp,HB1.out⟩
  subst c2
  by_cases c3:no=0
  case neg =>
   have hd:((no:Int) == 0)=false:=beq_eq_false_iff_ne.2 (by omega)
   have HE:=aa (decide_eq_false c3)
   clear c3
   go_wp2
   go_ret
   exact ⟨by rw [HE.out];simp,HB1.out⟩
  subst c3
  go_wp2
  go_ret
  exact ⟨by simp,HB1.out⟩
 have hd2:(ki == 2)=false:=beq_eq_false_iff_ne.2 k2
 rw [if_neg k2]
 clear k0 k1 k2
 go_enter Tryz.func96,Tryz.ntmps96
 go_wp2
 go_ret
 exact ⟨rfl,HW.out⟩


theorem BoxAt.frozen {w:World} {g:Nat} {cs:Array Value} {t:TypeId} (h:BoxAt w g cs t) (i:Nat):w.frozen? ⟨g,i,none⟩=false:=by
 unfold BoxAt at h
 simp [World.frozen?,h]

end Go.Proofs.YtnkjdijbfnmnhaaGreat
