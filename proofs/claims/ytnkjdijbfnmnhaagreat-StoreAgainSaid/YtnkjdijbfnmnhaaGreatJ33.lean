/-
  Texts of this claim put together: Msg1, OpenN, Msg2, Msg4.
-/
import Derived.Test.YtnkjdijbfnmnhaaGreatJ22
import Derived.Test.YtnkjdijbfnmnhaaGreatJ30
import Derived.Test.YtnkjdijbfnmnhaaGreatJ25
import Derived.Test.YtnkjdijbfnmnhaaGreatJ31
import Derived.Test.YtnkjdijbfnmnhaaGreatJ07
import Derived.Lib.SmallJoins

namespace Go.Proofs.YtnkjdijbfnmnhaaGreat
open Go.RowKit

structure MsgM where
 ki:Nat
 fr:Nat
 tt:Nat
 ke:Nat
 co:Nat
 bc:Nat
 bn:Nat
 bl:Nat
 ok:Bool
 ac:Nat
 an:Nat
 al:Nat
 r:RegM
 nc:Nat
 nn:Nat
 nl:Nat
 mx:Nat

structure MsgP where
 ki:Nat
 fr:Nat
 tt:Nat
 ke:Nat
 co:Nat
 bc:Nat
 bn:Nat
 bl:Nat
 ok:Bool
 ac:Nat
 an:Nat
 al:Nat
 r:RegP
 nc:Nat
 nn:Nat
 nl:Nat
 mx:Nat
deriving DecidableEq
def MsgM.p (m:MsgM):MsgP:=⟨m.ki,m.fr,m.tt,m.ke,m.co,m.bc,m.bn,m.bl,m.ok,m.ac,m.an,m.al,m.r.p,m.nc,m.nn,m.nl,m.mx⟩
def MsgM.box (m:MsgM):Array Value := #[.int .u8 m.ki, .int .u8 m.fr, .int .u8 m.tt, .int .u8 m.ke, .int .u64 m.co, .int .u64 m.bc, .int .u8 m.bn, .int .u32 m.bl, .bool m.ok, .int .u64 m.ac, .int .u8 m.an, .int .u32 m.al,
 .int .u8 m.r.ki, .int .u64 m.r.inc, .int .i64 m.r.st, .slice m.r.va.A m.r.va.l.length m.r.va.c, .slice m.r.dn.A m.r.dn.l.length m.r.dn.c, .slice m.r.ou.A m.r.ou.l.length m.r.ou.c, .int .u64 m.r.la, .slice m.r.ma.A m.r.ma.l.length m.r.ma.c,
 .int .u64 m.nc, .int .u8 m.nn, .int .u32 m.nl, .int .u64 m.mx]
def MsgM.v (m:MsgM):Value := .agg m.box
def N64 (n:Nat):Prop:=n<18446744073709551616
def BalIn (c n l:Nat):Prop:=N64 c/\n<=255/\l<=4294967295
def MsgM.ok' (m:MsgM):Prop:=(m.ki<=255/\m.fr<=255/\m.tt<=255/\m.ke<=255)/\(N64 m.co/\N64 m.mx)/\BalIn m.bc m.bn m.bl/\BalIn m.ac m.an m.al/\BalIn m.nc m.nn m.nl
def MsgM.good (w:World) (B:Nat) (m:MsgM):Prop:=m.ok'/\RegM.ok w B m.r
theorem CF:Stable MsgM.good:=fun w w' B B' x h hk hB=>⟨h.1,reg_stable w w' B B' x.r h.2 hk hB⟩
theorem DH:Local MsgM.good (fun m=>RegM.ft m.r):=fun w w' B B' x h hk hB=>⟨h.1,reg_local w w' B B' x.r h.2 hk hB⟩
def wA:MsgM:=⟨0,0,0,0,0,0,0,0,false,0,0,0,zeroM,0,0,0,0⟩
theorem Ao (w:World) (B:Nat):MsgM.good w B wA:=⟨by simp [MsgM.ok',BalIn,N64,wA],bA w B⟩

def fb (c n l:Nat):Bool:=decide (c=0) && (decide (n=0) && decide (l=0))
theorem tw {c n l:Nat}:fb c n l=true ↔ c=0/\n=0/\l=0:=by simp [fb]
def hasB (p:MsgP):Bool:=fb p.ac p.an p.al && decide (p.r=zeroP)
def ES (p:MsgP):Bool:=if p.ok then (decide (p.r.ki=0) || !fb p.ac p.an p.al) && (mayG p.r && decide (p.mx=0)) else hasB p
def ET (p:MsgP):Bool:=fb p.nc p.nn p.nl || (decide (p.nn=p.bn) && (decide (p.nl=p.bl) && decide (p.bc<p.nc)))
def EU (p:MsgP):Bool :=
 if p.ki=1 then !p.ok && (hasB p && (fb p.nc p.nn p.nl && decide (p.mx=0)))
 else if p.ki=2 then ES p && fb p.nc p.nn p.nl
 else if p.ki=3 then !p.ok && (fb p.ac p.an p.al && (mayG p.r && (ET p && decide (p.mx=0))))
 else if p.ki=4 then hasB p && (fb p.nc p.nn p.nl && (!p.ok || decide (p.mx=0)))
 else false
def mayM (p:MsgP):Bool:=decide (p.fr<64) && (decide (p.tt<64) && (decide (p.ke<16) && (!fb p.bc p.bn p.bl && EU p)))

theorem rH (c n l:Nat) (w:World):Calls Tryz.prog 201 #[.agg #[.int .u64 c, .int .u8 n, .int .u32 l]] w fun e w'=>e = .returned (.bool (fb c n l))/\Below w.heap.size w w':=by
 by_cases h:c=0/\n=0/\l=0
 ·obtain ⟨rfl,rfl,rfl⟩:=h
  exact yW w
 ·rw [show fb c n l=false from by rw [<- Bool.not_eq_true,tw];exact h]
  exact Bf c n l h w

open Go.ChangeShapes Go.WideShapes Go.ChangeAt Go.RowKit Go.Joins Go.Deep

section
variable {H : Type} {enc : TypeId × Value -> H} {w : World} {base : Nat} {spare : Nat -> Bool} {held : Bool}

theorem BH {x:Int} (h:U64 x):∃n:Nat,x=n/\N64 n:=by
 obtain ⟨n,rfl⟩:=Int.eq_ofNat_of_zero_le h.1
 exact ⟨n,rfl,by have:=h.2;unfold N64;omega⟩
theorem DI {x:Int} (h:0<=x/\x<=255):∃n:Nat,x=n/\n<=255:=by
 obtain ⟨n,rfl⟩:=Int.eq_ofNat_of_zero_le h.1
 exact ⟨n,rfl,by omega⟩
theorem oH {n:Nat} {t:TypeId} {v:Value} {y:DataW H × List MemPlace} (ht:Tryz.prog.underlying t=some (.int .u32)) (h:DataW.trod enc Tryz.prog w base spare held n t [v]=some y):∃x:Nat,v = .int .u32 x/\x<=4294967295:=by
 obtain ⟨a,rfl,wa⟩:=gE ht h
 have h2:0<=a/\a<=4294967295:=by simpa [Lit.wf,IntKind.min,IntKind.max,IntKind.signed,IntKind.bits] using wa
 obtain ⟨m,rfl⟩:=Int.eq_ofNat_of_zero_le h2.1
 exact ⟨m,rfl,by omega⟩
theorem km {n:Nat} {t:TypeId} {v:Value} {y:DataW H × List MemPlace} (ht:Tryz.prog.underlying t=some (.int .u64)) (h:DataW.trod enc Tryz.prog w base spare held n t [v]=some y):∃x:Nat,v = .int .u64 x/\N64 x:=by
 obtain ⟨a,rfl,wa⟩:=db ht h
 obtain ⟨m,rfl,hm⟩:=BH wa
 exact ⟨m,rfl,hm⟩
theorem nf {n:Nat} {t:TypeId} {v:Value} {y:DataW H × List MemPlace} (ht:Tryz.prog.underlying t=some (.int .u8)) (h:DataW.trod enc Tryz.prog w base spare held n t [v]=some y):∃x:Nat,v = .int .u8 x/\x<=255:=by
 obtain ⟨a,rfl,wa⟩:=dp ht h
 obtain ⟨m,rfl,hm⟩:=DI wa
 exact ⟨m,rfl,hm⟩

set_option maxRecDepth 100000 in
theorem Ap {n:Nat} {xs:List Value} {y:DataW H × List MemPlace} (hl:xs.length=3) (h:DataW.trod enc Tryz.prog w base spare held n 49 xs=some y):∃a b c:Nat,xs=[.int .u64 a, .int .u8 b, .int .u32 c]/\BalIn a b c:=by
 match xs,hl with
 | [c0,c1,c2],_ =>
  obtain ⟨_,_,h0⟩:=ay Tryz.underlying49 h 0 rfl rfl rfl (by kernel_rfl) rfl
  obtain ⟨_,_,h1⟩:=ay Tryz.underlying49 h 1 rfl rfl rfl (by kernel_rfl) rfl
  obtain ⟨_,_,h2⟩:=ay Tryz.underlying49 h 2 rfl rfl rfl (by kernel_rfl) rfl
  obtain ⟨a,rfl,ha⟩:=km Tryz.underlying25 h0
  obtain ⟨b,rfl,hb⟩:=nf Tryz.underlying5 h1
  obtain ⟨c,rfl,hc⟩:=oH Tryz.underlying47 h2
  exact ⟨a,b,c,rfl,ha,hb,hc⟩
end


theorem iH {g n:Nat} (most:Nat) {t:List UInt8} {w:World} (h:Rdr w g (numB n++t) 0) (hn:n<=most) (hm:n<18446744073709551616) (hl:(numB n++t).length<=1000000) :
  Calls Tryz.prog 135 #[.pointer (some ⟨g,0,none⟩), .int .u64 most] w (eW w g (.int .u64 n) t 0):=by
 have h1:=gG most h (by omega)
 rw [cW n most t hm hn] at h1
 exact h1

theorem lu {g c n l:Nat} {t:List UInt8} {w:World} (h:Rdr w g (balB c n l++t) 0) (hi:BalIn c n l) (hl:(balB c n l++t).length<=1000000) :
  Calls Tryz.prog 133 #[.pointer (some ⟨g,0,none⟩)] w (eW w g (.agg #[.int .u64 c, .int .u8 n, .int .u32 l]) t 0):=by
 have h1:=yX h (by omega)
 rw [vB t hi.1 hi.2.1 hi.2.2] at h1
 exact h1

theorem wB {w:World} {B:Nat} {r:RegM} (hr:RegM.ok w B r) (hm:mayG r.p=true) (t:List UInt8):getS (regB r.p++t,0)=(r.p,(t,0)):=by
 have hk:=hr.1.1
 unfold U8 at hk
 by_cases h0:r.p.ki=0
 ·have hz:r.p=zeroP:=by
   unfold mayG at hm
   rw [if_pos h0] at hm
   exact of_decide_eq_true hm
  rw [hz]
  unfold getS
  rw [wu t]
  rfl
 ·unfold getS
  rw [rG (mY hr hm) h0 t]
  simp only [if_true,hm]

theorem tA {g:Nat} {rp:RegP} {rb t:List UInt8} {w:World} (hget:∀t,getS (rb++t,0)=(rp,(t,0))) (h:Rdr w g (rb++t) 0) (hl:(rb++t).length<=1000000) :
  Calls Tryz.prog 134 #[.pointer (some ⟨g,0,none⟩)] w fun e w'=>∃y:RegM,e = .returned y.v/\y.p=rp/\RegM.ok w' w'.heap.size y/\Lies RegM.ft y w.heap.size w'.heap.size/\Rdr w' g t 0/\w.grownBy w' (some g):=by
 have h1:=tr (s:=(rb++t,0)) h ⟨.inl rfl,hl⟩
 rw [hget t] at h1
 exact h1

theorem ee {w:World} {g b i:Nat} {v:Value} {cs:Array Value} {t:TypeId} (h:BoxAt w g cs t) (hne:g≠b):BoxAt (w.setCell ⟨b,i,none⟩ v) g cs t:=(Below.heap_setCell w ⟨b,i,none⟩ v g hne).trans h

end Go.Proofs.YtnkjdijbfnmnhaaGreat
