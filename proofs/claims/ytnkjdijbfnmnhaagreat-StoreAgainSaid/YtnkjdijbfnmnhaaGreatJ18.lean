/-
  Texts of this claim put together: MayT, MayT2, FindT, Fire, Fire2, PutT.
-/
import Derived.Test.YtnkjdijbfnmnhaaGreatJ17
import Derived.Shelf.Abstract
import Derived.Test.YtnkjdijbfnmnhaaGreatJ15
import Derived.Test.YtnkjdijbfnmnhaaGreatJ16
import Derived.Deep.RegionHeld

namespace Go.Proofs.YtnkjdijbfnmnhaaGreat
open Go.RowKit


def TabI (st vs:Int) (t:Sl RuM) (bt:Nat) (w:World):Prop :=
 w.cell? ⟨bt,0,none⟩=some (.int .i64 st)/\w.cell? ⟨bt,1,none⟩=some (.int .i64 vs)/\w.cell? ⟨bt,2,none⟩=some (.slice t.A t.l.length t.c)/\bt<w.heap.size
theorem TabI.below {st vs:Int} {t:Sl RuM} {bt:Nat} {w w':World} (h:TabI st vs t bt w) (hb:Below w.heap.size w w'):TabI st vs t bt w':=by
 obtain ⟨h1,h2,h3,b1⟩:=h
 have hz:=hb.size
 exact ⟨(hb.cell (p:=⟨bt,0,none⟩) b1).trans h1,(hb.cell (p:=⟨bt,1,none⟩) b1).trans h2,(hb.cell (p:=⟨bt,2,none⟩) b1).trans h3,by omega⟩
theorem TabI.new (st vs:Int) (t:Sl RuM) (w:World):TabI st vs t w.heap.size (w.alloc (.cells #[.int .i64 st, .int .i64 vs, .slice t.A t.l.length t.c] 24)):=by
 refine ⟨?_,?_,?_,by simp⟩ <;> (rw [World.cell?_alloc_at _ _ _ _ rfl];rfl)
theorem E7 {st vs:Int} {l:List RuM} {k:Nat} {x:RuM} (h:l[k]?=some x):ruX st vs l k = !(ruB st vs x):=by unfold ruX;rw [h]


def TakI (sa ac pa:Int) (V:Option Addr) (m k:Nat) (arg:Int) (z:Nat) (w:World):Prop :=
 w.cell? ⟨z,0,none⟩=some (.int .i64 sa)/\w.cell? ⟨z+1,0,none⟩=some (.int .i64 ac)/\w.cell? ⟨z+2,0,none⟩=some (.int .i64 pa)/\w.cell? ⟨z+3,0,none⟩=some (.slice V m k)/\w.cell? ⟨z+4,0,none⟩=some (.int .i64 arg)/\z+4<w.heap.size
theorem TakI.below {sa ac pa:Int} {V:Option Addr} {m k:Nat} {arg:Int} {z:Nat} {w w':World} (h:TakI sa ac pa V m k arg z w) (hb:Below w.heap.size w w'):TakI sa ac pa V m k arg z w':=by
 obtain ⟨h1,h2,h3,h4,h5,b1⟩:=h
 have hz:=hb.size
 exact ⟨(hb.cell (p:=⟨z,0,none⟩) (by simp;omega)).trans h1,(hb.cell (p:=⟨z+1,0,none⟩) (by simp;omega)).trans h2,(hb.cell (p:=⟨z+2,0,none⟩) (by simp;omega)).trans h3,(hb.cell (p:=⟨z+3,0,none⟩) (by simp;omega)).trans h4,(hb.cell (p:=⟨z+4,0,none⟩) (by simp;omega)).trans h5,by omega⟩
theorem A0 {sa ac pa:Int} {vars:List Int} {arg:Int} {l:List RuM} {k:Nat} {x:RuM} (h:l[k]?=some x):takX sa ac pa vars arg l k=AR sa ac pa vars arg x:=by unfold takX;rw [h]



def Fires (r:Int × List Int × List (Int × Int × Int) × Int) (w:World) (e:Ending) (w':World):Prop :=
 ∃A c A2 c2,e = .returned (.tuple #[.int .i64 r.1, .slice A r.2.1.length c, .slice A2 r.2.2.1.length c2, .int .i64 r.2.2.2])/\w'.ownsRow w.heap.size 2 1 (.slice A r.2.1.length c) r.2.1.length (iv r.2.1) /\
  w'.ownsRow w.heap.size 108 4 (.slice A2 r.2.2.1.length c2) r.2.2.1.length (cv r.2.2.1)/\Below w.heap.size w w'
theorem Fires.none {R:Int × List Int × List (Int × Int × Int) × Int} {e:Int} {w w':World} (h:R=(0,[],[],e)) (hb:Below w.heap.size w w'):Fires R w (.returned (.tuple #[.int .i64 0, .slice none 0 0, .slice none 0 0, .int .i64 e])) w':=by
 subst h
 exact ⟨_,_,_,_,rfl,World.ownsRow_nil _ _ _ _,World.ownsRow_nil _ _ _ _,hb⟩


structure RowStep (base:Nat) (v:Value) (w:World) (v':Value) (w':World) (r:List UInt8):Prop where
 own:w'.ownsRow base 5 1 v' r.length (bv r)
 grow:w.grownBy w' v.ownBlock
 blk:∀k,v'.ownBlock=some k->v.ownBlock=some k∨w.heap.size<=k

theorem RowStep.refl {base:Nat} {v:Value} {w:World} {r:List UInt8} (h:w.ownsRow base 5 1 v r.length (bv r)):RowStep base v w v w r:=⟨h,World.grownBy.refl _ _,fun _ h => .inl h⟩
theorem RowStep.trans {base:Nat} {v v1 v2:Value} {w w1 w2:World} {r1 r2:List UInt8} (h1:RowStep base v w v1 w1 r1) (h2:RowStep base v1 w1 v2 w2 r2):RowStep base v w v2 w2 r2:=by
 refine ⟨h2.own,⟨h2.grow.os.trans h1.grow.os,h2.grow.tape.trans h1.grow.tape,h2.grow.output.trans h1.grow.output,Nat.le_trans h1.grow.size h2.grow.size,fun k hk hne => ?_⟩,fun k hk => ?_⟩
 ·refine (h2.grow.block k (Nat.lt_of_lt_of_le hk h1.grow.size) fun e => ?_).trans (h1.grow.block k hk hne)
  rcases h1.blk k e.symm with h|h
  ·exact hne h.symm
  ·omega
 ·rcases h2.blk k hk with h|h
  ·exact h1.blk k h
  ·exact .inr (Nat.le_trans h1.grow.size h)

theorem RowStep.fresh {base:Nat} {v v':Value} {w w1 w':World} {r:List UInt8} (hb:Below w.heap.size w w1) (h:RowStep base v w1 v' w' r):RowStep base v w v' w' r:=by
 refine ⟨h.own,⟨h.grow.os.trans hb.os,h.grow.tape.trans hb.tape,h.grow.output.trans hb.output,Nat.le_trans hb.size h.grow.size,fun k hk hne => ?_⟩,fun k hk => ?_⟩
 ·exact (h.grow.block k (Nat.lt_of_lt_of_le hk hb.size) hne).trans (hb.block k hk)
 ·rcases h.blk k hk with h2|h2
  ·exact .inl h2
  ·exact .inr (Nat.le_trans hb.size h2)
theorem RowStep.below {base B:Nat} {v v':Value} {w w':World} {r0 r:List UInt8} (hown:w.ownsRow base 5 1 v r0.length (bv r0)) (h:RowStep base v w v' w' r) (hB:B<=base) (hw:B<=w.heap.size):Below B w w' :=
 (Below.refl B w).grown h.grow hw fun k hk=>Nat.le_trans hB (hown.lt k hk).1
theorem BoxAt.step {w w':World} {g base:Nat} {cs:Array Value} {t:TypeId} {v v':Value} {r0 r:List UInt8} (h:BoxAt w g cs t) (ht:t≠5) (hown:w.ownsRow base 5 1 v r0.length (bv r0)) (hs:RowStep base v w v' w' r):BoxAt w' g cs t:=by
 refine (hs.grow.block g h.lt fun e => ?_).trans h
 rcases hown.2 with ⟨rfl,_⟩ | ⟨g',cap,cur,rfl,_,hg',_⟩
 ·cases e
 ·injection e with e
  subst e
  unfold BoxAt at h
  have h2:=h.symm.trans hg'
  injection h2 with h2
  injection h2 with _ h2
  exact ht h2

section
variable {P : Program}

theorem bE (w:World) {ops:Array Oper} {rest:List Oper} {o:Oper} {a:Act} {Q:Exit->Act->World->Prop} (hgd:Region.wanted o (yielded ops a.tmps)=true) (s x:Operand) (t:TypeId)
  (ho:o.op = .call { callee := .builtin .append,args := #[s,x],argTypes := #[t,t] })
  (base:Nat) (hinfo:(P.info? 5).map (fun i=>(i.zero,i.size,i.bytes))=some (some (.int .u8 0),1,1)) (ht:P.underlying t=some (.slice 5))
  (v:Value) (l1 l2 r:List UInt8) (hres:l1++l2=r) (hs:a.eval s=v) (hown:w.ownsRow base 5 1 v l1.length (bv l1))
  (B:Nat) (A:Option Addr) (m c:Nat) (hx:a.eval x = .slice A m c) (hl:l2.length=m) (hr:Sees w B A (bv l2)) (hn:l1.length<=10000000/\m<=10000000) (hbase:base<=w.heap.size)
  (h:∀A' c' w',RowStep base v w (.slice A' r.length c') w' r->wpList P ops Q rest (a.put o.dst (.slice A' r.length c')) w'):wpList P ops Q (o::rest) a w:=by
 refine wpList_step fun _ hK => ?_
 rw [if_pos hgd]
 obtain ⟨i0,hi,hz0,hz1,hz2⟩:=info_parts hinfo
 have e1:l1.length+m=r.length:=by rw [<- hres,List.length_append];omega
 obtain ⟨v',w',hrun,h2,h3,h4⟩:=cL (P:=P) w base t o.type 5 i0 (.int .u8 0) 1 ht hi hz0 hz1 hz2 rfl v l1.length (bv l1) hown B A m c (bv l2) (by rw [bv_length,hl]) hr (bD l2) (by unfold maxLen;omega) (by omega) hbase
 rw [e1,<- bv_append,hres] at h2
 obtain ⟨A',c',rfl⟩:=bg h2
 unfold Oper.wp execOp
 simp only [ho,resolve,invoke,builtin,Sem.run_bind,Sem.run_pure,Result.andThen_ok,List.map_toArray,List.map_cons,List.map_nil,hs,hx,hrun]
 refine hK _ _ (h A' c' w' ⟨h2,h3,fun k hk => ?_⟩)
 rcases h4 with h4|h4
 ·exact .inl (h4 ▸ hk)
 ·rw [h4] at hk
  injection hk with hk
  exact .inr (by omega)
end

def lm (base:Nat) (v:Value) (r:List UInt8) (w:World) (e:Ending) (w':World):Prop:=∃A c,e = .returned (.slice A r.length c)/\RowStep base v w (.slice A r.length c) w' r

end Go.Proofs.YtnkjdijbfnmnhaaGreat
