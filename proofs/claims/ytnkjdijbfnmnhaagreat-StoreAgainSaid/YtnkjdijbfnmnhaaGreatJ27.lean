/-
  Texts of this claim put together: Conf1, ConfM, Conf2, Conf3.
-/
import Derived.Test.YtnkjdijbfnmnhaaGreatJ26
import Derived.Test.YtnkjdijbfnmnhaaGreatJ04
import Derived.WalkSpells
import Derived.Laws.Bits128

namespace Go.Proofs.YtnkjdijbfnmnhaaGreat
set_option maxRecDepth 100000
set_option maxHeartbeats 12800000
open Go.RowKit

theorem eN (a b:Nat) (c:Int) (hc:c=(b:Int)) (ha:a<18446744073709551616) (hb:b<18446744073709551616):bits .and .u64 (a:Int) c=((a &&& b:Nat):Int):=by
 rw [hc,u64_and_nat a b ha hb]
theorem kc (a k b:Nat) (d c:Int) (hd:d=(k:Int)) (hc:c=(b:Int)) (ha:a<18446744073709551616) (hb:b<18446744073709551616):bits .and .u64 ((a:Int) / d) c=((a / k &&& b:Nat):Int):=by
 rw [hd,<- Int.natCast_ediv]
 exact eN _ _ _ hc (Nat.lt_of_le_of_lt (Nat.div_le_self _ _) ha) hb

theorem Bj (a b:Nat) (h:a+b<18446744073709551616):IntKind.u64.wrap ((a:Int)+(b:Int))=((a+b:Nat):Int):=by
 rw [IntKind.wrap_u64]
 omega
theorem mz (a k:Nat) (d:Int) (hd:d=(k:Int)) (h:a+a / k<18446744073709551616):IntKind.u64.wrap ((a:Int)+(a:Int) / d)=((a+a / k:Nat):Int):=by
 rw [hd,<- Int.natCast_ediv]
 exact Bj _ _ h
theorem sX (x:Nat) (hx:x<18446744073709551616):∃y z v v1 v2 v3:Nat,
  IntKind.u64.wrap (bits .and .u64 ((x:Int) / 2) 6148914691236517205+bits .and .u64 (x:Int) 6148914691236517205)=(y:Int) /\
  IntKind.u64.wrap (bits .and .u64 ((y:Int) / 4) 3689348814741910323+bits .and .u64 (y:Int) 3689348814741910323)=(z:Int) /\
  bits .and .u64 (IntKind.u64.wrap ((z:Int) / 16+(z:Int))) 1085102592571150095=(v:Int) /\
  IntKind.u64.wrap ((v:Int)+(v:Int) / 256)=(v1:Int)/\IntKind.u64.wrap ((v1:Int)+(v1:Int) / 65536)=(v2:Int)/\IntKind.u64.wrap ((v2:Int)+(v2:Int) / 4294967296)=(v3:Int) /\
  v3<=4000000000000000000/\v3 % 128=popN 64 x:=by
 have hA:=uA x
 have hB:=sH x
 obtain ⟨v,hv,b1,b2,b3,b4,b5⟩:=yq x
 refine ⟨cT 8 x,dW 8 (cT 8 x),v,v+v / 256,(v+v / 256)+(v+v / 256) / 65536,_,?_,?_,?_,mz v 256 _ rfl (by omega),mz _ 65536 _ rfl (by omega),mz _ 4294967296 _ rfl (by omega),b4,b5⟩
 ·rw [kc x 2 6148914691236517205 2 6148914691236517205 rfl rfl hx (by omega),eN x 6148914691236517205 6148914691236517205 rfl hx (by omega),Bj _ _ (by rw [Ac];omega),Ac]
 ·rw [kc (cT 8 x) 4 3689348814741910323 4 3689348814741910323 rfl rfl (by omega) (by omega),eN (cT 8 x) 3689348814741910323 3689348814741910323 rfl (by omega) (by omega),Bj _ _ (by rw [Ad];omega),Ad]
 ·have e:IntKind.u64.wrap (((dW 8 (cT 8 x):Nat):Int) / 16+((dW 8 (cT 8 x):Nat):Int))=((dW 8 (cT 8 x) / 16+dW 8 (cT 8 x):Nat):Int):=by
   rw [IntKind.wrap_u64]
   omega
  rw [e,eN _ 1085102592571150095 1085102592571150095 rfl (by omega) (by omega),onesC8,hv]

theorem y5 (x:Nat) (w:World) (hx:x<18446744073709551616):Calls Tryz.prog 163 #[.int .u64 x] w fun e w'=>e = .returned (.int .i64 (popN 64 x:Nat))/\w'=w:=by
 obtain ⟨y,z,v,v1,v2,v3,h1,h2,h3,h4,h5,h6,h7,h8⟩:=sX x hx
 go_enter Tryz.func163,Tryz.ntmps163
 have h9:bits .and .i64 (v3:Int) 127=((popN 64 x:Nat):Int):=by
  rw [i64_and127,<- h8]
  omega
 clear h8
 go_wp2
 go_ret
 exact ⟨rfl,rfl⟩
theorem Bk (n:UInt8):IntKind.u64.wrap ((2:Int) ^ min n.toNat 64)=((bitN n:Nat):Int):=by
 rw [IntKind.wrap_u64,bitN]
 have e:((2:Int) ^ min n.toNat 64)=((2 ^ min n.toNat 64:Nat):Int):=by simp
 rw [e,show (18446744073709551616:Int)=((18446744073709551616:Nat):Int) from rfl,<- Int.natCast_emod]
 congr 1
 rcases Nat.lt_or_ge n.toNat 64 with h|h
 ·rw [Nat.min_eq_left (by omega)]
 ·rw [Nat.min_eq_right h,show n.toNat=64+(n.toNat - 64) by omega,Nat.pow_add,show (18446744073709551616:Nat)=2 ^ 64 from rfl,Nat.mul_mod_right,Nat.mod_self]
theorem y6 {a b:Int} (h:a=b):Value.int .u64 a = .int .u64 b:=by rw [h]

theorem vF (l:List UInt8) (B:Nat) (A:Option Addr) (n c:Nat) (w:World) (hn:l.length=n) (hm:n<=maxLen) (h:Sees w B A (bv l)) :
  Calls Tryz.prog 164 #[.slice A n c] w fun e w'=>e = .returned (.int .u64 (setN l:Nat))/\w'=w:=by
 unfold maxLen at hm
 subst hn
 have HST:=aa (fun k (hk:k<l.length)=>uC l k hk)
 have HFIN:=aa (show setN (l.take l.length)=setN l by rw [List.take_length])
 go_enter Tryz.func164,Tryz.ntmps164
 go_wp2
 go_loop [3,8] (fun r i=>∃k:Nat,k<=l.length/\i = .int .i64 k/\r = .int .u64 (setN (l.take k):Nat)) (fun _ i=>l.length - (intOf i).toNat)
 case atStart=>exact ⟨0,by omega,rfl,rfl⟩
 case round =>
  obtain ⟨k,hk,rfl,rfl⟩:=hrel
  by_cases hlt:k<l.length
  ·obtain ⟨b,o,rfl,hbB,hck⟩:=h.u8 hlt
   have hbt:=l[k].toNat_lt
   have hst:=HST.out k hlt
   have hlt2:=jN (l.take k)
   have HE:=aa (show bits .or .u64 ((setN (l.take k):Nat):Int) ((bitN l[k] : Nat):Int)=((setN (l.take (k+1)):Nat):Int) by
    rw [u64_or_nat _ _ hlt2 (uE _),hst])
   clear hst hlt2
   have hsb:=Bk l[k]
   go_wp2
   go_round
   case rel=>exact ⟨k+1,by omega,by go_num,y6 HE.out⟩
   case measure=>simp [intOf];omega
  ·obtain rfl:k=l.length:=by omega
   rw [HFIN.out]
   go_wp2
   go_ret
   exact ⟨rfl,rfl⟩

structure NdM where
 A:Option Addr
 c:Nat
 l:List UInt8
def NdM.v (x:NdM):Value := .slice x.A x.l.length x.c
def NdM.ok (w:World) (B:Nat) (x:NdM):Prop:=x.l.length<=100/\Sees w B x.A (bv x.l)
theorem NdM.ok.below {w w':World} {B:Nat} {x:NdM} (h:NdM.ok w B x) (hb:Below B w w'):NdM.ok w' B x:=⟨h.1,h.2.below hb⟩
theorem NdM.ok.more {w:World} {B B':Nat} {x:NdM} (h:NdM.ok w B x) (hb:B<=B'):NdM.ok w B' x:=⟨h.1,h.2.more hb⟩
def cfV (C:Nat) (x y:NdM):Value := .agg #[.int .u64 C,x.v,y.v]

def ringsN {α:Type} (C:Nat) (a b:α):List α:=if C % 2=1 then [a,b] else [b]

theorem kd (C:Nat) (x y:NdM) (w:World) :
  Calls Tryz.prog 162 #[cfV C x y] w fun e w'=>e = .returned (.bool (decide (C % 2=1)))/\Below w.heap.size w w':=by
 obtain ⟨A1,c1,l1⟩:=x
 obtain ⟨A2,c2,l2⟩:=y
 simp only [cfV,NdM.v]
 have HB:=aa ((Below.refl w.heap.size w).alloc (Nat.le_refl _) (.cells #[.int .u64 C, .slice A1 l1.length c1, .slice A2 l2.length c2] 52))
 go_enter Tryz.func162,Tryz.ntmps162
 go_wp2
 go_ret
 exact ⟨cO (by rw [Bool.eq_iff_iff];simp;omega),HB.out⟩

theorem kf (C:Nat) (x y:NdM) (w:World) :
  Calls Tryz.prog 121 #[cfV C x y] w fun e w'=>e = .returned (.agg #[x.v,y.v])/\Below w.heap.size w w':=by
 obtain ⟨A1,c1,l1⟩:=x
 obtain ⟨A2,c2,l2⟩:=y
 simp only [cfV,NdM.v]
 go_enter Tryz.func121,Tryz.ntmps121
 go_wp2
 refine bodyPost_ret (v := .agg #[.slice A1 l1.length c1, .slice A2 l2.length c2]) (by simp [results,Tryz.results121,go_sem]) rfl ?_
 exact ⟨rfl,((Below.refl _ _).alloc (Nat.le_refl _) _).alloc (by simp) _⟩

theorem vG (C:Nat) (x y:NdM) (w:World) :
  Calls Tryz.prog 160 #[cfV C x y] w fun e w'=>∃g o k:Nat,e = .returned (.slice (some ⟨g,o,none⟩) k k)/\(ringsN C x y).length=k/\w.heap.size<=g/\g<w'.heap.size /\
   (∀j z,(ringsN C x y)[j]?=some z->w'.cell? ⟨g,o+j,none⟩=some z.v)/\Below w.heap.size w w':=by
 have HL:=aa (fun u=>kf C x y u)
 have HT:=aa (fun u=>kd C x y u)
 obtain ⟨A1,c1,l1⟩:=x
 obtain ⟨A2,c2,l2⟩:=y
 have HR:=aa (show ringsN C (⟨A1,c1,l1⟩:NdM) ⟨A2,c2,l2⟩=if C % 2=1 then [⟨A1,c1,l1⟩,⟨A2,c2,l2⟩] else [⟨A2,c2,l2⟩] from rfl)
 generalize ringsN C (⟨A1,c1,l1⟩:NdM) ⟨A2,c2,l2⟩=rs at HR ⊢
 simp only [cfV,NdM.v] at HL HT ⊢
 have HB0:=aa ((Below.refl w.heap.size w).alloc (Nat.le_refl _) (.cells #[.int .u64 C, .slice A1 l1.length c1, .slice A2 l2.length c2] 52))
 have HX0:=aa (BoxAt.new w #[.int .u64 C, .slice A1 l1.length c1, .slice A2 l2.length c2] 52)
 obtain ⟨W0,hW0⟩:∃W0,w.alloc (.cells #[.int .u64 C, .slice A1 l1.length c1, .slice A2 l2.length c2] 52)=W0:=⟨_,rfl⟩
 rw [hW0] at HB0 HX0
 have HW0:=aa hW0
 have hs0:w.heap.size<W0.heap.size:=HX0.out.lt
 clear hW0
 go_enter Tryz.func160,Tryz.ntmps160
 go_wp2_with fail
 rw [HW0.out]
 have c0:=HX0.out.cell 0
 have c1':=HX0.out.cell 1
 have c2':=HX0.out.cell 2
 simp at c0 c1' c2'
 go_wp2_with fail
 refine (HL.out _).mono ?_
 rintro e w1 ⟨rfl,hb1⟩
 have HB1:=aa (HB0.out.trans (hb1.mono HB0.out.size))
 have HX1:=aa (HX0.out.below hb1)
 clear hb1 c0 c1' c2'
 have HX2:=aa (HX1.out.alloc (.cells #[.slice A1 l1.length c1, .slice A2 l2.length c2] 202))
 have HY2:=aa (BoxAt.new w1 #[.slice A1 l1.length c1, .slice A2 l2.length c2] 202)
 have HB2:=aa (HB1.out.alloc HB1.out.size (.cells #[.slice A1 l1.length c1, .slice A2 l2.length c2] 202))
 obtain ⟨W2,hW2⟩:∃W2,w1.alloc (.cells #[.slice A1 l1.length c1, .slice A2 l2.length c2] 202)=W2:=⟨_,rfl⟩
 rw [hW2] at HX2 HY2 HB2
 have HW2:=aa hW2
 clear hW2
 have hg1:w.heap.size<=w1.heap.size:=HB1.out.size
 obtain ⟨g,hg⟩:∃g,w1.heap.size=g:=⟨_,rfl⟩
 have HG:=aa hg
 rw [hg] at HY2 hg1
 clear hg
 have hgW:g<W2.heap.size:=HY2.out.lt
 have hwW:w.heap.size<W2.heap.size:=HX2.out.lt
 have c0:=HX2.out.cell 0
 have c1':=HX2.out.cell 1
 have c2':=HX2.out.cell 2
 simp at c0 c1' c2'
 have d0:=HY2.out.cell 0
 have d1:=HY2.out.cell 1
 simp at d0 d1
 go_upto_region 2 with fail
 rw [HW2.out,HG.out]
 have HTT:=HT.out W2
 by_cases hC:C % 2=1
 ·have hd:decide (C % 2=1)=true:=by simp [hC]
  rw [hd] at HTT
  have HTT:=aa HTT
  rw [if_pos hC] at HR
  clear hC hd
  go_wp2_with fail
  refine HTT.out.mono ?_
  rintro e w3 ⟨rfl,hb3⟩
  have HB3:=aa (HB2.out.trans (hb3.mono HB2.out.size))
  have HD3:=aa (HY2.out.below hb3)
  have hgw:g<w3.heap.size:=HD3.out.lt
  clear hb3
  go_wp2
  go_ret
  refine ⟨g,0,2,rfl,by rw [HR.out];rfl,hg1,hgw,fun j z hz => ?_,HB3.out⟩
  rw [HR.out] at hz
  rw [HD3.out.cell]
  rcases j with _|_|j
  ·simp at hz;subst hz;simp
  ·simp at hz;subst hz;simp
  ·simp at hz
 ·have hd:decide (C % 2=1)=false:=by simp;omega
  rw [hd] at HTT
  have HTT:=aa HTT
  rw [if_neg hC] at HR
  clear hC hd
  go_wp2_with fail
  refine HTT.out.mono ?_
  rintro e w3 ⟨rfl,hb3⟩
  have HB3:=aa (HB2.out.trans (hb3.mono HB2.out.size))
  have HD3:=aa (HY2.out.below hb3)
  have hgw:g<w3.heap.size:=HD3.out.lt
  clear hb3
  go_wp2
  go_ret
  refine ⟨g,1,1,rfl,by rw [HR.out];rfl,hg1,hgw,fun j z hz => ?_,HB3.out⟩
  rw [HR.out] at hz
  rw [HD3.out.cell]
  rcases j with _|j
  ·simp at hz;subst hz;simp
  ·simp at hz


theorem fK (l:List UInt8):mayN l=true ↔ (∀n∈l,n.toNat<64)/\l.Pairwise (fun a b=>a.toNat<b.toNat):=by
 constructor
 ·intro h
  have hb:∀k,k<l.length->badN l k=false:=by
   intro k hk
   cases hq:badN l k with
   | false=>rfl
   | true=>rw [ry hk hq] at h;cases h
  have h64:∀k (hk:k<l.length),l[k].toNat<64:=by
   intro k hk
   have:=hb k hk
   rcases k with _|k
   ·rw [ka hk] at this
    simpa using this
   ·rw [gM hk,Bool.or_eq_false_iff] at this
    simpa using this.1
  have hup:∀k (hk:k+1<l.length),l[k].toNat<l[k+1].toNat:=by
   intro k hk
   have:=hb (k+1) hk
   rw [gM hk,Bool.or_eq_false_iff] at this
   simpa using this.2
  refine ⟨fun n hn => ?_,List.pairwise_iff_getElem.2 fun i j hi hj hij => ?_⟩
  ·obtain ⟨k,hk,rfl⟩:=List.getElem_of_mem hn
   exact h64 k hk
  ·obtain ⟨d,rfl⟩:∃d,j=i+d+1:=⟨j - i - 1,by omega⟩
   clear hij
   induction d with
   | zero=>exact hup i hj
   | succ d ih=>exact Nat.lt_trans (ih (by omega)) (hup (i+d+1) hj)
 ·rintro ⟨h1,h2⟩
  refine og fun k hk => ?_
  rcases k with _|k
  ·rw [ka hk]
   have:=h1 _ (List.getElem_mem hk)
   simpa using this
  ·rw [gM hk,Bool.or_eq_false_iff]
   have:=h1 _ (List.getElem_mem hk)
   have h3:=List.pairwise_iff_getElem.1 h2 k (k+1) (by omega) hk (by omega)
   exact ⟨by simpa using this,by simpa using h3⟩
theorem iz {l:List UInt8} (h:mayN l=true):∀n∈l,n.toNat<64:=((fK l).1 h).1
theorem cX {l:List UInt8} (h:mayN l=true):l.Nodup:=((fK l).1 h).2.imp fun hab e=>by subst e;omega
theorem mB {l:List UInt8} (h:mayN l=true):l.length<=64:=by
 have h1:=dy l (cX h) (iz h) (fun _=>true)
 rw [List.countP_eq_length.2 (fun _ _=>rfl)] at h1
 rw [<- h1]
 exact Nat.le_trans List.countP_le_length (by simp)
theorem Ej {l m:List UInt8} (hl:mayN l=true) (hm:mayN m=true) (h:∀x,x∈l ↔ x∈m):l=m:=by
 have hp:=ju (cX hl) (cX hm) h
 exact hp.eq_of_pairwise (fun a b _ _ h k=>by omega) ((fK l).1 hl).2 ((fK m).1 hm).2

theorem oh (l:List UInt8) (key:UInt8):(ofM l key).Nodup:=by
 rw [ofM,(eo _).nodup_iff]
 exact pF _ _ _
theorem Bl {l:List UInt8} {key x:UInt8} (h:x∈ofM l key):x∈l:=by
 rw [ofM,(eo _).mem_iff,keepM_eq] at h
 exact (nK l x).1 ((ra _ _ x).1 (List.mem_of_mem_take h))
theorem Bm {l:List UInt8} (key:UInt8) (h:0<l.length):0<(ofM l key).length:=by
 rw [ofM,(eo _).length_eq,keepM_eq,List.length_take]
 have hm:l[0]∈allK (fd l) (keyN key):=(ra _ _ _).2 ((nK l _).2 (List.getElem_mem h))
 have:=List.length_pos_of_mem hm
 show 0<min 3 _
 omega
theorem vH {l:List UInt8} (h:mayN l=true) (key:UInt8):∀x∈ofM l key,x.toNat<64:=fun x hx=>iz h x (Bl hx)
theorem Ek {l:List UInt8} (h:mayN l=true) (key:UInt8) (s:Nat):popN 64 (setN (ofM l key) &&& s)=cntN (ofM l key) s:=AH _ (oh _ _) (vH h key) s
theorem El {l:List UInt8} (h:mayN l=true) (key:UInt8):popN 64 (setN (ofM l key))=(ofM l key).length:=AJ _ (oh _ _) (vH h key)

def quoL (l:List UInt8) (s:Nat):Bool:=decide (l.length<2 * cntN l s)
def allL (l:List UInt8) (s:Nat):Bool:=decide (cntN l s=l.length)
theorem rz {l:List UInt8} {s t:Nat} (hs:quoL l s=true) (ht:quoL l t=true) (h:s &&& t=0):False:=by
 simp only [quoL,decide_eq_true_eq] at hs ht
 have:∀l:List UInt8,cntN l s+cntN l t<=l.length:=by
  intro l
  induction l with
  | nil=>simp [cntN]
  | cons n l ih =>
   have hb:¬(s.testBit n.toNat=true/\t.testBit n.toNat=true):=by
    intro hb
    have h2:=Nat.testBit_and s t n.toNat
    rw [h,hb.1,hb.2] at h2
    simp at h2
   simp only [cntN,List.countP_cons,List.length_cons] at ih ⊢
   split <;> split <;> first|omega|(rename_i a b;exact absurd ⟨a,b⟩ hb)
 have:=this l
 omega
theorem Bo {l:List UInt8} (h:∀n∈l,n.toNat<64) {s:Nat} (hs:s<18446744073709551616):cntN l (18446744073709551615 - s)+cntN l s=l.length:=by
 induction l with
 | nil=>rfl
 | cons n l ih =>
  have ih:=ih (fun x hx=>h x (List.mem_cons_of_mem _ hx))
  have hn:=h n List.mem_cons_self
  have hb:(18446744073709551615 - s).testBit n.toNat = !s.testBit n.toNat:=by
   rw [show 18446744073709551615 - s=2 ^ 64 - (s+1) by omega,Nat.testBit_two_pow_sub_succ hs,decide_eq_true hn,Bool.true_and]
  simp only [cntN,List.countP_cons,List.length_cons,hb] at ih ⊢
  cases s.testBit n.toNat <;> simp <;> omega
theorem Bp {l:List UInt8} (h:∀n∈l,n.toNat<64) {s:Nat} (hs:s<18446744073709551616) (hq:quoL l s=true):quoL l (18446744073709551615 - s)=false:=by
 have:=Bo h hs
 simp only [quoL,decide_eq_true_eq,decide_eq_false_iff_not] at hq ⊢
 omega
theorem y7 {l:List UInt8} {s t:Nat} (hq:quoL l s=true):quoL l (s ||| t)=true:=by
 have:cntN l s<=cntN l (s ||| t):=List.countP_mono_left (fun n _ hn=>by rw [Nat.testBit_or,hn,Bool.true_or])
 simp only [quoL,decide_eq_true_eq] at hq ⊢
 omega
theorem Bq {l:List UInt8} {s:Nat} (hl:0<l.length) (h:allL l s=true):quoL l s=true:=by
 simp only [quoL,allL,decide_eq_true_eq] at h ⊢
 omega

def okL (l:List UInt8):Bool:=decide (0<l.length) && mayN l
def mayC (C:Nat) (o n:List UInt8):Bool:=(ringsN C o n).all okL && (if C % 2=1 then decide (othN o n+othN n o=1) else decide (o.length=0))
def quoC (C:Nat) (o n:List UInt8) (key:UInt8) (s:Nat):Bool:=mayC C o n && (ringsN C o n).all fun l=>quoL (ofM l key) s
def allC (C:Nat) (o n:List UInt8) (key:UInt8) (s:Nat):Bool:=mayC C o n && (ringsN C o n).all fun l=>allL (ofM l key) s
theorem rA {C:Nat} {o n:List UInt8} (hC:C % 2=1):mayC C o n=((okL o && okL n) && decide (othN o n+othN n o=1)):=by
 simp [mayC,ringsN,hC]
theorem kg {C:Nat} {o n:List UInt8} (hC:¬C % 2=1):mayC C o n=(okL n && decide (o.length=0)):=by
 simp [mayC,ringsN,hC]
theorem jz {C:Nat} {o n:List UInt8} (h:mayC C o n=true):∀l∈ringsN C o n,okL l=true:=by
 rw [mayC,Bool.and_eq_true,List.all_eq_true] at h
 exact h.1
theorem fj {l:List UInt8} (h:okL l=true):mayN l=true:=by
 rw [okL,Bool.and_eq_true] at h
 exact h.2
theorem Br {l:List UInt8} (h:okL l=true):0<l.length:=by
 rw [okL,Bool.and_eq_true] at h
 simpa using h.1
theorem quoC_iff {C:Nat} {o n:List UInt8} {key:UInt8} {s:Nat}:quoC C o n key s=true ↔ mayC C o n=true/\∀l∈ringsN C o n,quoL (ofM l key) s=true:=by
 rw [quoC,Bool.and_eq_true,List.all_eq_true]
theorem gN {α:Type} (C:Nat) (a b:α):b∈ringsN C a b:=by
 unfold ringsN
 split <;> simp
theorem Dq {C:Nat} {o n:List UInt8} {key:UInt8} {s t:Nat} (hs:quoC C o n key s=true) (ht:quoC C o n key t=true) (h:s &&& t=0):False :=
 rz ((quoC_iff.1 hs).2 n (gN _ _ _)) ((quoC_iff.1 ht).2 n (gN _ _ _)) h
theorem Em {C:Nat} {o n:List UInt8} {key:UInt8} {s:Nat} (hs:s<18446744073709551616) (hq:quoC C o n key s=true):quoC C o n key (18446744073709551615 - s)=false:=by
 have hm:=(quoC_iff.1 hq).1
 have h1:=Bp (vH (fj (jz hm n (gN _ _ _))) key) hs ((quoC_iff.1 hq).2 n (gN _ _ _))
 rw [<- Bool.not_eq_true]
 intro h
 rw [(quoC_iff.1 h).2 n (gN _ _ _)] at h1
 cases h1
theorem Dr {C:Nat} {o n:List UInt8} {key:UInt8} {s t:Nat} (hq:quoC C o n key s=true):quoC C o n key (s ||| t)=true :=
 quoC_iff.2 ⟨(quoC_iff.1 hq).1,fun l hl=>y7 ((quoC_iff.1 hq).2 l hl)⟩
theorem En {C:Nat} {o n:List UInt8} {key:UInt8} {s:Nat} (h:allC C o n key s=true):quoC C o n key s=true:=by
 rw [allC,Bool.and_eq_true,List.all_eq_true] at h
 exact quoC_iff.2 ⟨h.1,fun l hl=>Bq (Bm key (Br (jz h.1 l hl))) (h.2 l hl)⟩

def fa (l:List UInt8) (x:UInt8):List UInt8:=if l.contains x then l.filter (fun y=>y != x) else (l.filter fun y=>decide (y.toNat<x.toNat))++x::l.filter fun y=>decide (x.toNat<y.toNat)

def kU (C:Nat) (o n:List UInt8) (x:UInt8):Int × Nat × List UInt8 × List UInt8 :=
 if !mayC C o n then (1,0,[],[]) else if C % 2=1 then (if 9223372036854775808<=C then (7,0,[],[]) else (0,C+1,[],n))
 else if 64<=x.toNat then (1,0,[],[]) else if (fa n x).length=0 then (1,0,[],[]) else if 9223372036854775808<=C then (7,0,[],[]) else (0,C+1,n,fa n x)
theorem d8 (l:List UInt8) (x y:UInt8):y∈fa l x ↔ (y∈l/\y≠x)∨(y=x/\x ∉ l):=by
 unfold fa
 split
 ·rename_i h
  rw [List.contains_iff_mem] at h
  simp [h]
 ·rename_i h
  rw [List.contains_iff_mem] at h
  simp only [List.mem_append,List.mem_filter,List.mem_cons,decide_eq_true_eq]
  constructor
  ·rintro (⟨h1,h2⟩|rfl | ⟨h1,h2⟩)
   ·exact .inl ⟨h1,by rintro rfl;omega⟩
   ·exact .inr ⟨rfl,h⟩
   ·exact .inl ⟨h1,by rintro rfl;omega⟩
  ·rintro (⟨h1,h2⟩ | ⟨rfl,h1⟩)
   ·have:y.toNat≠x.toNat:=fun e=>h2 (UInt8.toNat_inj.1 e)
    rcases Nat.lt_or_ge y.toNat x.toNat with h3|h3
    ·exact .inl ⟨h1,h3⟩
    ·exact .inr (.inr ⟨h1,by omega⟩)
   ·exact .inr (.inl rfl)
theorem p6 {l:List UInt8} (h:mayN l=true) (p:UInt8->Bool):mayN (l.filter p)=true:=by
 rw [fK] at h ⊢
 exact ⟨fun n hn=>h.1 n (List.mem_filter.1 hn).1,h.2.filter p⟩
theorem sY {l:List UInt8} {x:UInt8} (h:mayN l=true) (hx:x.toNat<64):mayN (fa l x)=true:=by
 unfold fa
 split
 ·exact p6 h _
 ·rw [fK] at h ⊢
  refine ⟨fun n hn => ?_,?_⟩
  ·simp only [List.mem_append,List.mem_filter,List.mem_cons] at hn
   rcases hn with hn|rfl|hn
   ·exact h.1 n hn.1
   ·exact hx
   ·exact h.1 n hn.1
  ·rw [List.pairwise_append,List.pairwise_cons]
   refine ⟨h.2.filter _,⟨fun b hb=>by simpa using (List.mem_filter.1 hb).2,h.2.filter _⟩,fun a ha b hb => ?_⟩
   have ha:=(List.mem_filter.1 ha).2
   simp only [decide_eq_true_eq] at ha
   rcases List.mem_cons.1 hb with rfl|hb
   ·exact ha
   ·have hb:=(List.mem_filter.1 hb).2
    simp only [decide_eq_true_eq] at hb
    omega
theorem kV {l:List UInt8} {x:UInt8} (h:mayN l=true) (hx:¬x.toNat<64):mayN (fa l x)=false:=by
 have hn:x ∉ l:=fun hm=>hx (iz h x hm)
 rw [<- Bool.not_eq_true]
 intro hm
 exact hx (iz hm x ((d8 l x x).2 (.inr ⟨rfl,hn⟩)))
theorem sZ {l:List UInt8} (x:UInt8) (h:l.Nodup) (ht:(fa l x).Nodup):othN l (fa l x)+othN (fa l x) l=1:=by
 have hone:∀ {m:List UInt8} (p:UInt8->Bool),m.Nodup->x∈m->(∀y∈m,p y=true ↔ y=x)->m.countP p=1:=by
  intro m p hm hx hp
  rw [List.countP_eq_length_filter]
  have hq:(m.filter p).Perm [x]:=ju (hm.filter p) (by simp) fun y=>by
   rw [List.mem_filter,List.mem_singleton]
   constructor
   ·rintro ⟨h1,h2⟩
    exact (hp y h1).1 h2
   ·rintro rfl
    exact ⟨hx,(hp _ hx).2 rfl⟩
  rw [hq.length_eq]
  rfl
 have hnil:∀ {m:List UInt8} (p:UInt8->Bool),(∀y∈m,¬p y=true)->m.countP p=0:=fun p hp=>List.countP_eq_zero.2 hp
 by_cases hx:x∈l
 ·have h1:othN l (fa l x)=1:=hone _ h hx (fun y hy=>by
   rw [Bool.not_eq_true',<- Bool.not_eq_true,List.contains_iff_mem,d8]
   constructor
   ·intro hn
    by_cases e:y=x
    ·exact e
    ·exact absurd (.inl ⟨hy,e⟩) hn
   ·rintro rfl
    rintro (⟨_,h2⟩ | ⟨_,h2⟩)
    ·exact h2 rfl
    ·exact h2 hx)
  have h2:othN (fa l x) l=0:=hnil _ (fun y hy=>by
   rw [Bool.not_eq_true',<- Bool.not_eq_true,List.contains_iff_mem]
   intro hn
   rcases (d8 l x y).1 hy with h2 | ⟨rfl,h2⟩
   ·exact hn h2.1
   ·exact h2 hx)
  omega
 ·have h1:othN l (fa l x)=0:=hnil _ (fun y hy=>by
   rw [Bool.not_eq_true',<- Bool.not_eq_true,List.contains_iff_mem,d8]
   intro hn
   exact hn (.inl ⟨hy,fun e=>hx (e ▸ hy)⟩))
  have h2:othN (fa l x) l=1:=hone _ ht ((d8 l x x).2 (.inr ⟨rfl,hx⟩)) (fun y hy=>by
   rw [Bool.not_eq_true',<- Bool.not_eq_true,List.contains_iff_mem]
   constructor
   ·intro hn
    rcases (d8 l x y).1 hy with h2 | ⟨e,_⟩
    ·exact absurd h2.1 hn
    ·exact e
   ·rintro rfl
    exact hx)
  omega

theorem y8 {C:Nat} {o n:List UInt8} {x:UInt8} (h:mayC C o n=true) (hC:¬C % 2=1):mayC (C+1) n (fa n x)=(decide (x.toNat<64) && decide (0<(fa n x).length)):=by
 have hn:=h
 rw [kg hC,Bool.and_eq_true] at hn
 rw [rA (by omega),hn.1,Bool.true_and,okL]
 by_cases hx:x.toNat<64
 ·have ht:=sY (fj hn.1) hx
  rw [ht,sZ x (cX (fj hn.1)) (cX ht)]
  simp [hx]
 ·rw [kV (fj hn.1) hx]
  simp [hx]
theorem za {C:Nat} {o n:List UInt8} (h:mayC C o n=true) {D:Nat} (hD:¬D % 2=1):mayC D [] n=true:=by
 rw [kg hD,jz h n (gN _ _ _)]
 rfl
theorem Ds {C:Nat} {o n:List UInt8} {x:UInt8} (h0:(kU C o n x).1=0):mayC (kU C o n x).2.1 (kU C o n x).2.2.1 (kU C o n x).2.2.2=true:=by
 unfold kU at h0 ⊢
 cases hm:mayC C o n with
 | false=>rw [hm] at h0;simp at h0
 | true =>
  rw [hm] at h0
  simp only [Bool.not_true,Bool.false_eq_true,if_false] at h0 ⊢
  by_cases hC:C % 2=1
  ·rw [if_pos hC] at h0 ⊢
   split at h0
   ·simp at h0
   ·rw [if_neg (by assumption)]
    exact za hm (D:=C+1) (by omega)
  ·rw [if_neg hC] at h0 ⊢
   split at h0
   ·simp at h0
   ·rename_i hx
    rw [if_neg hx]
    split at h0
    ·simp at h0
    ·rename_i hl
     rw [if_neg hl]
     split at h0
     ·simp at h0
     ·rw [if_neg (by assumption)]
      show mayC (C+1) n (fa n x)=true
      rw [y8 hm hC]
      simp
      omega

theorem Dt {C:Nat} {o n:List UInt8} {x key:UInt8} {s t:Nat} (h0:(kU C o n x).1=0) (hs:quoC C o n key s=true)
  (ht:quoC (kU C o n x).2.1 (kU C o n x).2.2.1 (kU C o n x).2.2.2 key t=true) (h:s &&& t=0):False:=by
 have hn:=(quoC_iff.1 hs).2 n (gN _ _ _)
 refine rz hn ((quoC_iff.1 ht).2 n ?_) h
 unfold kU at h0 ⊢
 rw [(quoC_iff.1 hs).1] at h0 ⊢
 simp only [Bool.not_true,Bool.false_eq_true,if_false] at h0 ⊢
 by_cases hC:C % 2=1
 ·rw [if_pos hC] at h0 ⊢
  split at h0
  ·simp at h0
  ·rw [if_neg (by assumption)]
   exact gN _ _ _
 ·rw [if_neg hC] at h0 ⊢
  split at h0
  ·simp at h0
  ·rename_i hx
   rw [if_neg hx]
   split at h0
   ·simp at h0
   ·rename_i hl
    rw [if_neg hl]
    split at h0
    ·simp at h0
    ·rw [if_neg (by assumption)]
     show n∈ringsN (C+1) n (fa n x)
     rw [ringsN,if_pos (by omega)]
     exact List.mem_cons_self

theorem oj {α β:Type} (f:α->β) (C:Nat) (a b:α):ringsN C (f a) (f b)=(ringsN C a b).map f:=by
 unfold ringsN
 split <;> rfl
theorem vJ {α:Type} {C:Nat} {a b z:α} (h:z∈ringsN C a b):z=a∨z=b:=by
 unfold ringsN at h
 split at h
 ·simpa using h
 ·right;simpa using h
theorem vL {α:Type} (C:Nat) (a b:α):(ringsN C a b).length<=2:=by
 unfold ringsN
 split <;> simp
theorem NdM.ok.len {w:World} {B c:Nat} {A:Option Addr} {l:List UInt8} (h:NdM.ok w B ⟨A,c,l⟩):l.length<=100:=h.1
theorem zd {C:Nat} {x y z:NdM} (hz:z∈ringsN C x y) (h:okL z.l=false):mayC C x.l y.l=false:=by
 rw [<- Bool.not_eq_true]
 intro hm
 have:=jz hm z.l (by rw [oj NdM.l];exact List.mem_map.2 ⟨z,hz,rfl⟩)
 rw [h] at this
 cases this
theorem vM {C:Nat} {x y:NdM} (h:∀z∈ringsN C x y,okL z.l=true):mayC C x.l y.l=if C % 2=1 then decide (othN x.l y.l+othN y.l x.l=1) else decide (x.l.length=0):=by
 rw [mayC,show (ringsN C x.l y.l).all okL=true by
  rw [oj NdM.l,List.all_map,List.all_eq_true]
  exact h,Bool.true_and]
theorem Bt {l m:List UInt8} (hl:okL l=true) (hm:okL m=true):popN 64 (setN l ^^^ setN m)=othN l m+othN m l :=
 AK l m (cX (fj hl)) (iz (fj hl)) (cX (fj hm)) (iz (fj hm))

theorem mC (C:Nat) (x y:NdM) (B:Nat) (w:World) (hx:NdM.ok w B x) (hy:NdM.ok w B y) (hB:B<=w.heap.size) :
  Calls Tryz.prog 89 #[cfV C x y] w fun e w'=>e = .returned (.bool (mayC C x.l y.l))/\Below w.heap.size w w':=by
 have HR:=aa (fun u=>vG C x y u)
 have HT:=aa (fun u=>kd C x y u)
 have HBAD:=aa (fun z hz h=>zd (C:=C) (x:=x) (y:=y) (z:=z) hz h)
 have HGOOD:=aa (fun h=>vM (C:=C) (x:=x) (y:=y) h)
 have HALL:=aa (fun (u:World) (hu:Below w.heap.size w u) z (hz:z∈ringsN C x y)=>show NdM.ok u w.heap.size z from by
  rcases vJ hz with rfl|rfl
  ·exact (hx.more hB).below hu
  ·exact (hy.more hB).below hu)
 have HOX:=aa (fun (u:World) (hu:Below w.heap.size w u)=>(hx.more hB).below hu)
 have HOY:=aa (fun (u:World) (hu:Below w.heap.size w u)=>(hy.more hB).below hu)
 have HXR:=aa (show C % 2=1->x∈ringsN C x y from fun h=>by rw [ringsN,if_pos h];simp)
 have HYR:=aa (show y∈ringsN C x y from gN _ _ _)
 have hrl:=vL C x y
 obtain ⟨rs,hrs⟩:∃rs,ringsN C x y=rs:=⟨_,rfl⟩
 obtain ⟨r,hr⟩:∃r,mayC C x.l y.l=r:=⟨_,rfl⟩
 rw [hrs] at hrl
 simp only [hrs,hr] at HR HBAD HGOOD HALL HXR HYR ⊢
 clear hr hrs hx hy
 obtain ⟨A1,c1,l1⟩:=x
 obtain ⟨A2,c2,l2⟩:=y
 simp only [cfV,NdM.v] at HT HGOOD HOX HOY HR ⊢
 have HB0:=aa ((Below.refl w.heap.size w).alloc (Nat.le_refl _) (.cells #[.int .u64 C, .slice A1 l1.length c1, .slice A2 l2.length c2] 52))
 have HX0:=aa (BoxAt.new w #[.int .u64 C, .slice A1 l1.length c1, .slice A2 l2.length c2] 52)
 obtain ⟨W0,hW0⟩:∃W0,w.alloc (.cells #[.int .u64 C, .slice A1 l1.length c1, .slice A2 l2.length c2] 52)=W0:=⟨_,rfl⟩
 rw [hW0] at HB0 HX0
 have HW0:=aa hW0
 have hs0:w.heap.size<W0.heap.size:=HX0.out.lt
 clear hW0
 go_enter Tryz.func89,Tryz.ntmps89
 go_upto_region 1 with fail
 rw [HW0.out]
 have c0:=HX0.out.cell 0
 have c1':=HX0.out.cell 1
 have c2':=HX0.out.cell 2
 simp at c0 c1' c2'
 go_wp2_with fail
 refine (HR.out _).mono ?_
 rintro e w1 ⟨g,o,k,rfl,hk,hg,hg1,hc,hb1⟩
 have HB1:=aa (HB0.out.trans (hb1.mono HB0.out.size))
 have HX1:=aa (HX0.out.below hb1)
 have HC:=aa hc
 have HK:=aa hk
 have hk2:k<=2:=by omega
 clear hrl
 have hs1:w.heap.size<w1.heap.size:=HX1.out.lt
 clear hb1 c0 c1' c2' hc hk
 go_wp2_with fail
 go_loop [8] (fun i=>∃m:Nat,m<=k/\i = .int .i64 m/\Hid (∀j z,j<m->rs[j]?=some z->okL z.l=true)) (fun i=>k - (intOf i).toNat)
 case atStart=>exact ⟨0,by omega,rfl,aa (fun j z hj=>by omega)⟩
 case round =>
  obtain ⟨m,hm,rfl,HM⟩:=hrel
  by_cases hlt:m<k
  ·obtain ⟨z,hz⟩:∃z,rs[m]?=some z:=⟨_,List.getElem?_eq_getElem (by rw [HK.out];exact hlt)⟩
   have hcz:=HC.out m z hz
   have HZ:=aa (List.mem_of_getElem? hz)
   have HZO:=aa (HALL.out w1 HB1.out z HZ.out)
   have HB:=aa (HBAD.out z HZ.out)
   have HN:=aa (fun (h:okL z.l=true)=>show ∀j z,j<m+1->rs[j]?=some z->okL z.l=true from fun j z' hj hz'=>by
    by_cases hjm:j<m
    ·exact HM.out j z' hjm hz'
    ·obtain rfl:j=m:=by omega
     rw [hz] at hz'
     injection hz' with hz'
     rw [<- hz']
     exact h)
   clear hz
   obtain ⟨zA,zc,zl⟩:=z
   simp only at hcz HZO HB HN
   by_cases hz0:zl.length=0
   ·have HF:=aa (HB.out (by rw [okL,hz0];rfl))
    go_wp2
    go_ret
    exact ⟨cO HF.out.symm,HB1.out⟩
   ·have HMY:=aa (y4 zl w.heap.size zA zl.length zc w1 rfl (by have:=HZO.out.len;unfold maxLen;omega) HZO.out.2)
    have hok:okL zl=mayN zl:=by rw [okL,show decide (0<zl.length)=true from decide_eq_true (by omega),Bool.true_and]
    rw [hok] at HB HN
    obtain ⟨q,hq⟩:∃q,mayN zl=q:=⟨_,rfl⟩
    rw [hq] at HMY HB HN
    clear hok hq
    have hd:((zl.length:Int) == 0)=false:=by rw [beq_eq_false_iff_ne];omega
    cases q with
    | false =>
     have HF:=aa (HB.out rfl)
     go_wp2_with fail
     refine HMY.out.mono ?_
     rintro e w2 ⟨rfl,rfl⟩
     go_wp2
     go_ret
     exact ⟨cO HF.out.symm,HB1.out⟩
    | true =>
     have HN2:=aa (HN.out rfl)
     go_wp2_with fail
     refine HMY.out.mono ?_
     rintro e w2 ⟨rfl,rfl⟩
     go_wp2
     go_round
     case rel=>exact ⟨m+1,by omega,by go_num,HN2⟩
     case measure=>simp [intOf];omega
  ·obtain rfl:k=m:=by omega
   have HG:=aa (HGOOD.out (fun z hz=>by
    obtain ⟨j,hj,rfl⟩:=List.getElem_of_mem hz
    rw [HK.out] at hj
    exact HM.out j _ hj (List.getElem?_eq_getElem _)))
   have HXO:=aa (fun (hC:C % 2=1)=>show okL l1=true from by
    obtain ⟨j,hj,e⟩:=List.getElem_of_mem (HXR.out hC)
    have:=HM.out j _ (by rw [<- HK.out];exact hj) (List.getElem?_eq_getElem hj)
    rw [e] at this
    exact this)
   have HYO:=aa (show okL l2=true from by
    obtain ⟨j,hj,e⟩:=List.getElem_of_mem HYR.out
    have:=HM.out j _ (by rw [<- HK.out];exact hj) (List.getElem?_eq_getElem hj)
    rw [e] at this
    exact this)
   clear HM
   have c0:=HX1.out.cell 0
   have c1':=HX1.out.cell 1
   have c2':=HX1.out.cell 2
   simp at c0 c1' c2'
   have HTT:=HT.out w1
   by_cases hC:C % 2=1
   ·have hd:decide (C % 2=1)=true:=by simp [hC]
    rw [hd] at HTT
    have HTT:=aa HTT
    rw [if_pos hC] at HG
    have HXK:=aa (HXO.out hC)
    clear hC hd HXO
    go_wp2_with fail
    refine HTT.out.mono ?_
    rintro e w3 ⟨rfl,hb3⟩
    have HB3:=aa (HB1.out.trans (hb3.mono HB1.out.size))
    have HX3:=aa (HX1.out.below hb3)
    have hs3:w.heap.size<w3.heap.size:=HX3.out.lt
    clear hb3 c0 c1' c2'
    have c0:=HX3.out.cell 0
    have c1':=HX3.out.cell 1
    have c2':=HX3.out.cell 2
    simp at c0 c1' c2'
    have HPO:=aa (Bt HXK.out HYO.out)
    have HS1:=aa (fun (u:World) (hu:∃q,u=w3.drewN q)=>vF l1 w.heap.size A1 l1.length c1 u rfl (by have:=(HOX.out _ HB3.out).len;unfold maxLen;omega) (by obtain ⟨q,rfl⟩:=hu;exact (HOX.out _ HB3.out).2))
    have HS2:=aa (fun (u:World) (hu:∃q,u=w3.drewN q)=>vF l2 w.heap.size A2 l2.length c2 u rfl (by have:=(HOY.out _ HB3.out).len;unfold maxLen;omega) (by obtain ⟨q,rfl⟩:=hu;exact (HOY.out _ HB3.out).2))
    have hxr:=u64_xor_nat (setN l1) (setN l2) (jN _) (jN _)
    have HP:=aa (fun u=>y5 (setN l1 ^^^ setN l2) u (Nat.xor_lt_two_pow (n:=64) (jN l1) (jN l2)))
    rw [HPO.out] at HP
    go_upto_region 8 with fail
    go_quiet (first|(go_at_call_of 164 l1;refine Calls.quiet_of_same (HS1.out _ ⟨_,rfl⟩))|(go_at_call_of 164 l2;refine Calls.quiet_of_same (HS2.out _ ⟨_,rfl⟩))|(go_at_call 163;refine Calls.quiet_of_same (HP.out _)))
    go_wp2
    go_ret
    exact ⟨cO (by rw [HG.out,Bool.eq_iff_iff];simp;omega),dN9 HB3.out _⟩
   ·have hd:decide (C % 2=1)=false:=by simp;omega
    rw [hd] at HTT
    have HTT:=aa HTT
    rw [if_neg hC] at HG
    clear hC hd HXO
    go_wp2_with fail
    refine HTT.out.mono ?_
    rintro e w3 ⟨rfl,hb3⟩
    have HB3:=aa (HB1.out.trans (hb3.mono HB1.out.size))
    have HX3:=aa (HX1.out.below hb3)
    have hs3:w.heap.size<w3.heap.size:=HX3.out.lt
    clear hb3 c0 c1' c2'
    have c0:=HX3.out.cell 0
    have c1':=HX3.out.cell 1
    have c2':=HX3.out.cell 2
    simp at c0 c1' c2'
    go_wp2
    go_ret
    exact ⟨cO (by rw [HG.out,Bool.eq_iff_iff];simp),HB3.out⟩

end Go.Proofs.YtnkjdijbfnmnhaaGreat
