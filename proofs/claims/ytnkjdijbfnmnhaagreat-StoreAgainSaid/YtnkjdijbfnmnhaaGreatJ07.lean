/-
  Texts of this claim put together: Mark, Hash.
-/
import Derived.Test.YtnkjdijbfnmnhaaGreatJ04
import Derived.Test.YtnkjdijbfnmnhaaGreatJ05
import Derived.Deep.RegionHeld
import Derived.Test.YtnkjdijbfnmnhaaGreatRows
import Derived.Test.YtnkjdijbfnmnhaaGreatJ00
import Derived.WalkKit
import Derived.Lib.SlBytesConst

namespace Go.Proofs.YtnkjdijbfnmnhaaGreat
set_option maxRecDepth 100000
set_option maxHeartbeats 12800000
open Go.RowKit

def dH (l:List UInt8):List UInt8:=l++le4 (crc l)
theorem markB_length (l:List UInt8):(dH l).length=l.length+4:=by simp [dH,le4]

theorem C0 (n:Nat):((UInt8.ofNat n).toNat:Int)=(n:Int) % 256:=by simp
theorem yz (l:List UInt8) (n k:Nat) (h:k<4):bv (l++(le4 n).take (k+1))=bv (l++(le4 n).take k)++[.int .u8 ((n:Int) / 2 ^ (8 * k) % 256)]:=by
 have hc:k=0∨k=1∨k=2∨k=3:=by omega
 rcases hc with rfl|rfl|rfl|rfl <;> simp [le4,bv]

theorem jx (l r:List UInt8) (B:Nat) (A:Option Addr) (n c:Nat) (w:World) (hn:l.length=n) (hres:dH l=r) (hm:n<=70368744177000) (hs:Sees w B A (bv l)) (hB:B<=w.heap.size) :
  Calls Tryz.prog 282 #[.slice A n c] w (Puts w r):=by
 subst hn hres
 obtain ⟨i0,hi,hz0,hz1,hz2⟩:=info_parts bT
 have hmk:∀u:World,(Instr.makeSlice 50 (.int .i64 (l.length:Int)) (.int .i64 ((l.length:Int)+4))).run Tryz.prog u =
   .ok (.slice (some ⟨u.heap.size,0,none⟩) l.length (l.length+4)) (u.alloc (.cells (madeCells #[.int .u8 0] (l.length+4)) 5)):=fun u=>by
  have h:=run_make (P:=Tryz.prog) u 50 5 i0 (.int .u8 0) Tryz.underlying50 hi hz0 .i64 .i64 (l.length:Int) ((l.length:Int)+4) (by omega) (by omega) (by rw [hz2];omega) (by omega)
  have e1:(l.length:Int).toNat=l.length:=by omega
  have e2:((l.length:Int)+4).toNat=l.length+4:=by omega
  rw [e1,e2] at h
  simpa [hz1,Value.cells] using h
 have hcs:(madeCells #[Value.int .u8 0] (l.length+4)).size=l.length+4:=size_madeCells _ _
 obtain ⟨w1,hcp,hrow,hgr,hsz1⟩:=cB (P:=Tryz.prog) (w.alloc (.cells (madeCells #[.int .u8 0] (l.length+4)) 5)) 50 50 3 5 Tryz.underlying50 ld w.heap.size l.length (l.length+4) B A l.length c
  (madeCells #[.int .u8 0] (l.length+4)) 5 (heap_alloc_new w _) (bv l) (bv_length l) (Nat.le_refl _) (by omega) (bD l) (hs.below ((Below.refl _ _).alloc hB _))
 have hb:Below w.heap.size w w1:=((Below.refl _ _).alloc (Nat.le_refl _) _).grown hgr (by simp) (by intro k hk;injection hk;omega)
 have hown1:w1.ownsRow w.heap.size 5 1 (.slice (some ⟨w.heap.size,0,none⟩) l.length (l.length+4)) l.length (bv l):=by
  refine ⟨by simp [bv_length], .inr ⟨w.heap.size,_,_,rfl,Nat.le_refl _,hrow,by omega,by unfold maxLen;omega,?_,?_⟩⟩
  ·simp [bv_length,madeCells]
  ·rw [Nat.mul_one,<- bv_length l]
   exact List.take_left
 clear hrow hcs hgr
 have HZ:=aa hsz1
 clear hsz1
 go_enter Tryz.func282,Tryz.ntmps282
 go_wp2_with fail
 refine (CY l B A _ c w1 rfl (by unfold maxLen;omega) (hs.below (hb.mono hB)) (Nat.le_trans hB hb.size)).mono ?_
 rintro e w2 ⟨rfl,hb2⟩
 have hb02:Below w.heap.size w w2:=hb.trans (hb2.mono hb.size)
 have hown2:=ao hown1 hb2
 have hcr:=z9 l
 go_wp2
 go_loopw [3,17] (fun b i wr=>∃k:Nat,k<=4/\i = .int .i64 k/\wr.ownsRow w.heap.size 5 1 b (l.length+k) (bv (l++(le4 (crc l)).take k))/\Below w.heap.size w wr) (fun _ i _=>4 - (intOf i).toNat)
 case atStart=>exact ⟨0,by omega,rfl,by simpa using hown2,hb02⟩
 case round =>
  obtain ⟨k,hk,rfl,hown,hbr⟩:=hrel
  by_cases hlt:k<4
  ·go_wp2_with (at_builtin;refine bV (P:=Tryz.prog) _ rfl (.tmp 20) (.tmp 26) 50 rfl w.heap.size 5 bT Tryz.underlying50 _ _ _ _ rfl hown rfl (by omega) hbr.size ?_;intro v1 w3 hown3 hb3)
   have e1:=yz l (crc l) k hlt
   go_roundw
   case rel=>exact ⟨k+1,by omega,by go_num,CV hown3 (by omega) e1.symm,hbr.trans hb3⟩
   case measure=>simp [intOf];omega
  ·obtain rfl:k=4:=by omega
   go_wp2
   go_ret
   obtain ⟨A',c',rfl⟩:=bg hown
   refine ⟨A',c',?_,?_,hbr⟩
   ·rw [markB_length]
    rfl
   ·rw [markB_length]
    exact hown

theorem jP (l m:List UInt8) (b:Bool) (B B':Nat) (A A':Option Addr) (n c n' c':Nat) (w:World) (hn:l.length=n) (hn':m.length=n') (hb:decide (l=m)=b) (hs:Sees w B A (bv l)) (hs':Sees w B' A' (bv m)) :
  Calls Tryz.prog 276 #[.slice A n c, .slice A' n' c'] w fun e w'=>e = .returned (.bool b)/\w=w':=by
 have k1:=pH (P:=Tryz.prog) w 50 9 5 Tryz.underlying50 Tryz.underlying5 Tryz.underlying9 l B A n c hn hs
 have k2:=pH (P:=Tryz.prog) w 50 9 5 Tryz.underlying50 Tryz.underlying5 Tryz.underlying9 m B' A' n' c' hn' hs'
 by_cases h:l=m
 ·subst h
  obtain rfl:b=true:=by rw [<- hb];simp
  clear hb
  go_enter Tryz.func276,Tryz.ntmps276
  go_wp2
  go_ret
  exact ⟨rfl,rfl⟩
 ·obtain rfl:b=false:=by rw [<- hb];simp [h]
  clear hb
  go_enter Tryz.func276,Tryz.ntmps276
  go_wp2
  go_ret
  refine ⟨?_,rfl⟩
  show Ending.returned (.bool (l == m))=_
  rw [beq_eq_false_iff_ne.2 h]

def jQ (l:List UInt8):List UInt8 × Int :=
 if l.length<4 then ([],2) else if dH (l.take (l.length - 4))=l then (l.take (l.length - 4),0) else ([],5)
theorem pK {l:List UInt8} (h:l.length<4):jQ l=([],2):=by unfold jQ;rw [if_pos h]
theorem nR {l:List UInt8} (h:¬l.length<4) (he:dH (l.take (l.length - 4))=l):jQ l=(l.take (l.length - 4),0):=by unfold jQ;rw [if_neg h,if_pos he]
theorem rg {l:List UInt8} (h:¬l.length<4) (he:dH (l.take (l.length - 4))≠l):jQ l=([],5):=by unfold jQ;rw [if_neg h,if_neg he]

def Fitted (w:World) (r:List UInt8 × Int) (e:Ending) (w':World):Prop :=
 ∃A n c,e = .returned (.tuple #[.slice A n c, .int .i64 r.2])/\r.1.length=n/\Sees w' w'.heap.size A (bv r.1)/\Below w.heap.size w w'
theorem Fitted.mk {w w':World} {r:List UInt8 × Int} {e:Ending} {m:List UInt8} {er:Int} (hr:r=(m,er)) (A:Option Addr) (n c:Nat) (he:e = .returned (.tuple #[.slice A n c, .int .i64 er])) (hn:m.length=n) (hs:Sees w' w'.heap.size A (bv m)) (hb:Below w.heap.size w w'):Fitted w r e w':=by
 subst hr
 exact ⟨A,n,c,he,hn,hs,hb⟩

theorem yB (l:List UInt8) (A:Option Addr) (n c:Nat) (w:World) (hn:l.length=n) (hm:n<=70368744177000) (hs:Sees w w.heap.size A (bv l)) (hc:n<=c) :
  Calls Tryz.prog 322 #[.slice A n c] w (Fitted w (jQ l)):=by
 subst hn
 obtain ⟨r,hr⟩:∃r,jQ l=r:=⟨_,rfl⟩
 rw [hr]
 by_cases h4:l.length<4
 ·rw [pK h4] at hr
  have HR:=aa hr
  clear hr
  go_enter Tryz.func322,Tryz.ntmps322
  go_wp2
  go_ret2
  exact Fitted.mk HR.out.symm none 0 0 rfl rfl (Sees.empty _ _ _) (Below.refl _ _)
 ·have h4':(4:Int)<=l.length:=by omega
  obtain ⟨m,hmn⟩:∃m,l.length - 4=m:=⟨_,rfl⟩
  have ht:(l.take m).length=m:=by simp;omega
  have hst:=Sees.take hs m
  rw [<- ev] at hst
  have e1:(l.length:Int) - 4=m:=by omega
  by_cases he:dH (l.take m)=l
  ·have hr2:=nR h4 (by rw [hmn];exact he)
   rw [hmn] at hr2
   rw [hr2] at hr
   have HR:=aa hr
   have HE:=aa he
   have HT:=aa ht
   have HM:=aa hmn
   clear hr he hr2 ht hmn
   go_enter Tryz.func322,Tryz.ntmps322
   go_wp2_with fail
   refine (jx (l.take m) l w.heap.size A m c w HT.out HE.out (by omega) hst (Nat.le_refl _)).mono ?_
   rintro e w1 ⟨A1,c1,rfl,hown1,hb1⟩
   have hcap:=pG hown1
   have hs1:=Sees.own hown1
   have hm1:(m:Int)<=c1:=by omega
   go_wp2_with fail
   refine (jP l l true _ _ A1 A _ c1 _ c w1 rfl rfl (by simp) hs1 (hs.below hb1)).mono ?_
   rintro e w2 ⟨rfl,rfl⟩
   have hst1:=Sees.take hs1 m
   rw [<- ev] at hst1
   have hm2:m<=c1:=by omega
   go_wp2
   go_ret2
   exact Fitted.mk HR.out.symm A1 m m rfl HT.out hst1 hb1
  ·have hr2:=rg h4 (by rw [hmn];exact he)
   rw [hr2] at hr
   obtain ⟨l2,hl2⟩:∃l2,dH (l.take m)=l2:=⟨_,rfl⟩
   rw [hl2] at he
   have HR:=aa hr
   have HE:=aa he
   have HL:=aa hl2
   have HT:=aa ht
   have HM:=aa hmn
   clear hr he hr2 ht hmn hl2
   go_enter Tryz.func322,Tryz.ntmps322
   go_wp2_with fail
   refine (jx (l.take m) l2 w.heap.size A m c w HT.out HL.out (by omega) hst (Nat.le_refl _)).mono ?_
   rintro e w1 ⟨A1,c1,rfl,hown1,hb1⟩
   go_wp2_with fail
   refine (jP l2 l false _ _ A1 A _ c1 _ c w1 rfl rfl (decide_eq_false HE.out) (Sees.own hown1) (hs.below hb1)).mono ?_
   rintro e w2 ⟨rfl,rfl⟩
   go_wp2
   go_ret2
   exact Fitted.mk HR.out.symm none 0 0 rfl rfl (Sees.empty _ _ _) hb1

theorem pL (l m:List UInt8) (er:Int) (A:Option Addr) (n c:Nat) (w:World) (hf:jQ l=(m,er)) (hn:l.length=n) (hm:n<=70368744177000) (hs:Sees w w.heap.size A (bv l)) (hc:n<=c) :
  Calls Tryz.prog 322 #[.slice A n c] w fun e w'=>∃A n c,e = .returned (.tuple #[.slice A n c, .int .i64 er])/\m.length=n/\Sees w' w'.heap.size A (bv m)/\Below w.heap.size w w':=by
 have h:=yB l A n c w hn hm hs hc
 rw [hf] at h
 exact h

theorem lj (l:List UInt8):jQ (dH l)=(l,0):=by
 have e:(dH l).take ((dH l).length - 4)=l:=by
  rw [markB_length,Nat.add_sub_cancel]
  exact List.take_left
 have h:=nR (l:=dH l) (by rw [markB_length];omega) (by rw [e])
 rwa [e] at h

end Go.Proofs.YtnkjdijbfnmnhaaGreat
