/-
  Texts of this claim put together: Step12, Aw12, Pair12.
-/
import Derived.Test.YtnkjdijbfnmnhaaGreatJ43
import Derived.Test.YtnkjdijbfnmnhaaGreatJ15
import Derived.IntWalk

namespace Go.Proofs.YtnkjdijbfnmnhaaGreat
open Go.RowKit

theorem Cb (l:List UInt8):l.flatMap (fun b=>[Value.int .u8 (b.toNat:Int)])=bv l:=by
 induction l with
 | nil=>rfl
 | cons b l ih=>rw [List.flatMap_cons,ih];rfl

def qH (w:World) (B:Nat) (s:Sl UInt8):Prop:=Sees w B s.A (bv s.l)/\s.l.length<=s.c/\s.c<=maxLen
theorem oX:Stable qH:=fun _ _ _ _ _ h hk hB=>⟨(h.1.keep hk).more hB,h.2⟩

structure StM where
 ki:Int
 i:Int
 q:Int
 b:Sl UInt8
 t:Bool
 y:UInt8
def StM.cs (s:StM):List Value:=[.int .i64 s.ki, .int .i64 s.i, .int .i64 s.q,s.b.v, .bool s.t, .int .u8 (s.y.toNat:Int)]
def StM.ok (w:World) (B:Nat) (s:StM):Prop:=(I64 s.ki/\I64 s.i/\I64 s.q)/\qH w B s.b
theorem xx:Stable StM.ok:=fun w w' B B' x h hk hB=>⟨h.1,oX w w' B B' x.b h.2 hk hB⟩
def Cc (w:World) (B:Nat) (s:Sl StM):Prop:=Sl.ok StM.cs StM.ok w B s
theorem Az:Stable Cc:=Sl.stable xx
theorem Sees.st {w:World} {B:Nat} {A:Option Addr} {l:List StM} {k:Nat} {x:StM} (h:Sees w B A (l.flatMap StM.cs)) (hk:l[k]?=some x) :
  ∃b o,A=some ⟨b,o,none⟩/\b<B/\w.cell? ⟨b,o+k * 6,none⟩=some (.int .i64 x.ki)/\w.cell? ⟨b,o+k * 6+1,none⟩=some (.int .i64 x.i)/\w.cell? ⟨b,o+k * 6+2,none⟩=some (.int .i64 x.q)/\w.cell? ⟨b,o+k * 6+3,none⟩=some x.b.v /\
   w.cell? ⟨b,o+k * 6+4,none⟩=some (.bool x.t)/\w.cell? ⟨b,o+k * 6+5,none⟩=some (.int .u8 (x.y.toNat:Int)):=by
 obtain ⟨b,o,e,hb,hc⟩:=h.at (q:=6) (fun _=>rfl) (by omega) hk
 exact ⟨b,o,e,hb,hc 0 _ rfl,hc 1 _ rfl,hc 2 _ rfl,hc 3 _ rfl,hc 4 _ rfl,hc 5 _ rfl⟩

section
open Go.ChangeShapes Go.WideShapes Go.ChangeAt
variable {H : Type} {enc : TypeId × Value -> H} {w : World} {base : Nat} {spare : Nat -> Bool} {held : Bool}
theorem xy {n:Nat} {v:Value} {y:DataW H × List MemPlace} (h:DataW.trod enc Tryz.prog w base spare held n 5 [v]=some y):∃b:UInt8,v = .int .u8 (b.toNat:Int):=by
 obtain ⟨a,rfl,ha,hb⟩:=dp Tryz.underlying5 h
 refine ⟨UInt8.ofNat a.toNat,?_⟩
 rw [lR (by omega)]
 congr 1
 omega
set_option maxRecDepth 100000 in
theorem Cd {n:Nat} {v:Value} {y:DataW H × List MemPlace} (h:DataW.trod enc Tryz.prog w base spare held n 50 [v]=some y):∃s:Sl UInt8,v=s.v/\qH w w.heap.size s:=by
 obtain ⟨s,hv,h1,h2,h3,_⟩:=dz (fun b:UInt8=>[Value.int .u8 (b.toNat:Int)]) (fun _=>True) (q:=1) (by omega) Tryz.underlying50 (by kernel_rfl) (fun _=>rfl) (fun n xs y hl h=>by
  match xs,hl with
  | [c0],_ =>
   obtain ⟨b,rfl⟩:=xy h
   exact ⟨b,rfl,trivial⟩) h
 rw [Cb] at h3
 exact ⟨s,hv,h3,h1,h2⟩
theorem CG {n:Nat} {v:Value} {y:DataW H × List MemPlace} (h:DataW.trod enc Tryz.prog w base spare held n 4 [v]=some y):∃t:Bool,v = .bool t:=by
 obtain ⟨t,e,_⟩:=DataW.trod_bool Tryz.underlying4 h
 injection e with e _
 exact ⟨t,e⟩

end



structure Pair (w:World) (Lc Ld:Lay) (D E:Dk) (wr:World):Prop where
 c:DiskAt wr Lc D
 d:DiskAt wr Ld E
 ap:∀g,Lc.has g->¬Ld.has g
 b:Below w.heap.size w wr
 hc:∀g,Lc.has g->w.heap.size<=g
 hd:∀g,Ld.has g->w.heap.size<=g

section
variable {w wr w' : World} {Lc Ld : Lay} {D E D' : Dk}
end

def Dk.calm (D:Dk):Prop:=D.on=true/\D.hf=false
theorem CH {D:Dk} (h:D.calm) (i:Int) (l:List UInt8):(dj D i l).calm/\(dj D i l).n=D.n/\(dj D i l).c=D.c/\(dj D i l).waits.length<=D.waits.length+1/\(dj D i l).kept=D.kept:=by
 unfold dj
 split
 ·split
  ·rw [burnD,if_neg (by rw [h.2];simp)]
   exact ⟨h,rfl,rfl,by simp,rfl⟩
  ·exact ⟨h,rfl,rfl,by omega,rfl⟩
 ·exact ⟨h,rfl,rfl,by omega,rfl⟩
theorem oY {D:Dk} (h:D.calm):kS D=0/\gn D=decideD D D.waits.length false:=by
 have hb:dh D=false:=by rw [dh,h.2];rfl
 refine ⟨by rw [kS,if_pos h.1,if_neg (by rw [hb];simp)],?_⟩
 rw [gn,if_pos h.1,if_neg (by rw [hb];simp),burnD,if_neg (by rw [h.2];simp)]
theorem xz (n c:Nat):(ip n c).calm:=⟨rfl,rfl⟩
theorem nu {D:Dk} (h:D.on=true) {i:Int} (h0:0<=i) (h1:i<D.c):cF D i=0:=by
 rw [cF,if_pos h,if_pos ⟨h0,h1⟩]
theorem Ce {D:Dk} (h:D.on=true) (hw:D.waits=[]) {i:Nat} (h1:i<D.c):rdB D i=D.kept i:=by
 rw [rdB,if_pos (nu h (by omega) (by omega)),Int.toNat_natCast,newD,hw]
 rfl

theorem Ew {D:Dk} (h:D.calm) {k:Int} (hk:(D.waits.length:Int)<=k):(backD D k false).kept=(gn D).kept/\(backD D k false).on=true/\(backD D k false).waits=[]/\(backD D k false).c=D.c/\(backD D k false).n=D.n /\
  (gn D).on=true/\(gn D).waits=[]/\(gn D).c=D.c/\(gn D).n=D.n:=by
 have hm:min k.toNat D.waits.length=D.waits.length:=by omega
 have hf:(dI D).waits=D.waits:=jT D
 have hk:(dI D).kept=D.kept:=by
  unfold dI
  split <;> rfl
 rw [(oY h).2,backD,hm]
 refine ⟨?_,rfl,rfl,(jU D).2,(jU D).1,h.1,rfl,rfl,rfl⟩
 show (decideD (dI D) D.waits.length false).kept=_
 rw [decideD,decideD,hf,hk,(jU D).1]
end Go.Proofs.YtnkjdijbfnmnhaaGreat
