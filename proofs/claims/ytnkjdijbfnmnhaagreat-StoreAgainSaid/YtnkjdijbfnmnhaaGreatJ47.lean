/-
  Texts of this claim put together: Jn1, Jn2, Jn3, Jn4, Jn5.
-/
import Derived.Test.YtnkjdijbfnmnhaaGreatJ46
import Derived.Test.YtnkjdijbfnmnhaaGreatJ12
import Derived.Deep.DeepCutAuto
import Derived.BigQuiet
import Derived.Deep.RegionLaw

namespace Go.Proofs.YtnkjdijbfnmnhaaGreat
set_option maxRecDepth 100000
set_option maxHeartbeats 12800000
open Go.RowKit

theorem gd (m n:Nat) (w:World) (hm:m<=1000000) (h0:1<=n) (hn:n<=100000):Calls Tryz.prog 283 #[.int .i64 (m:Int), .int .i64 (n:Int)] w fun e w'=>e = .returned (.int .i64 (secN m n:Int))/\w=w':=by
 have h1:IntKind.i64.wrap ((m:Int)+(n:Int))=(m:Int)+(n:Int):=by rw [IntKind.wrap_i64];omega
 have h2:IntKind.i64.wrap ((m:Int)+(n:Int) - 1)=((m+n - 1:Nat):Int):=by rw [IntKind.wrap_i64];omega
 have h3:wrap64 (((m+n - 1:Nat):Int) / (n:Int))=(secN m n:Int):=by
  have:secN m n<=m+n - 1:=Nat.div_le_self _ _
  rw [show ((m+n - 1:Nat):Int) / (n:Int)=(secN m n:Int) from rfl]
  unfold wrap64
  omega
 have h4:((n:Int) == 0)=false:=by rw [beq_eq_false_iff_ne];omega
 have h5:((n:Int)=0)=False:=by simp;omega
 obtain ⟨q,hq⟩:∃q,secN m n=q:=⟨_,rfl⟩
 obtain ⟨p,hp⟩:∃p,m+n - 1=p:=⟨_,rfl⟩
 rw [hq] at h3 ⊢
 rw [hp] at h2 h3
 clear hq hp hm hn
 go_enter Tryz.func283,Tryz.ntmps283
 go_wp2
 refine bodyPost_ret (v := .int .i64 (q:Int)) (by simp [results,Tryz.results283,go_sem,h3]) rfl ?_
 exact ⟨rfl,rfl⟩

theorem fW (l:Nat) (A:Option Addr) (c:Nat) (w:World):Calls Tryz.prog 152 #[.slice A l c] w fun e w'=>e = .returned (.bool (decide (2048<l)))/\w=w':=by
 go_enter Tryz.func152,Tryz.ntmps152
 go_wp2
 refine bodyPost_ret (v := .bool (decide (2048<l))) (by simp [results,Tryz.results152,go_sem];omega) rfl ?_
 exact ⟨rfl,rfl⟩

theorem qL {h mk:List UInt8} {z m:Nat} (hh:h.length=6) (hm:mk.length=m+4) (hz:m+10<=z) :
  (((bv h++(bv (List.replicate z 0)).drop 6).take 6++bv mk++(bv h++(bv (List.replicate z 0)).drop 6).drop (6+(bv mk).length)).toArray.toList).take (z * 1)=bv (h++(mk++List.replicate (z - (m+10)) 0)):=by
 have e1:(h++(List.replicate z 0).drop 6).take 6=h:=by rw [List.take_append_of_le_length (by omega),List.take_of_length_le (by omega)]
 have e2:(h++(List.replicate z 0).drop 6).drop (m+10)=List.replicate (z - (m+10)) (0:UInt8):=by
  rw [List.drop_append,List.drop_of_length_le (by omega),List.nil_append,List.drop_drop,List.drop_replicate]
  congr 1
  omega
 rw [bv_length,hm,Nat.mul_one,<- gi,<- bv_append,<- ev,e1,show 6+(m+4)=m+10 from by omega,<- gi,e2,<- bv_append,<- bv_append,List.append_assoc,List.take_of_length_le]
 rw [List.toList_toArray,bv_length,List.length_append,List.length_append,hh,hm,List.length_replicate]
 omega

theorem je (l:List UInt8) (B:Nat) (A:Option Addr) (m c n:Nat) (w:World) (hl:l.length=m) (hm:m<=60000) (h0:64<=n) (hn:n<=512) (hs:Sees w B A (bv l)) (hB:B<=w.heap.size) :
  Calls Tryz.prog 226 #[.slice A m c, .int .i64 (n:Int)] w (Puts w (frameB l n)):=by
 go_enter Tryz.func226,Tryz.ntmps226
 go_wp2_with fail
 refine (jx l (dH l) B A m c w hl rfl (by omega) hs hB).mono ?_
 rintro e w1 ⟨A1,c1,rfl,hown1,hb1⟩
 rw [markB_length,hl] at hown1 ⊢
 have HO1:=aa hown1
 have HB1:=aa hb1
 clear hown1 hb1
 go_upto_region 2 with fail
 go_wp2_with fail
 obtain ⟨W2,hW2⟩:∃W,w1.alloc (.cells #[.int .u8 (((m:Int)+4) / 256), .int .u8 (((m:Int)+4) % 256)] 5)=W:=⟨_,rfl⟩
 have hr2:RowIs W2 w1.heap.size [UInt8.ofNat ((m+4) / 256),UInt8.ofNat (m+4)]:=by
  refine ⟨_,hW2 ▸ heap_alloc_new w1 _,?_⟩
  simp [bv]
  omega
 have HB2:=aa (HB1.out.trans ((hW2 ▸ (Below.refl w1.heap.size w1).alloc (Nat.le_refl _) _:Below w1.heap.size w1 W2).mono HB1.out.size))
 have HO2:=aa (ao HO1.out (hW2 ▸ (Below.refl w1.heap.size w1).alloc (Nat.le_refl _) _:Below w1.heap.size w1 W2))
 rw [hW2]
 refine (jx [UInt8.ofNat ((m+4) / 256),UInt8.ofNat (m+4)] (kX (m+4)) W2.heap.size _ 2 2 W2 rfl rfl (by omega) hr2.sees (Nat.le_refl _)).mono ?_
 clear hr2 hW2 HO1 HB1
 rintro e w3 ⟨A3,c3,rfl,hown3,hb3⟩
 rw [headB_len] at hown3 ⊢
 have HB3:=aa (HB2.out.trans (hb3.mono HB2.out.size))
 have HO3:=aa hown3
 have HO1:=aa (ao HO2.out hb3)
 clear hown3 hb3 HO2
 go_wp2_with fail
 rw [show (6:Int)+((m:Int)+4)=((m+10:Nat):Int) from by omega]
 refine (gd (m+10) n w3 (by omega) (by omega) (by omega)).mono ?_
 rintro e w' ⟨rfl,rfl⟩
 have hq1:=qI (m:=m+10) (n:=n) (by omega)
 have hq2:=qJ (m:=m+10) (n:=n) (by omega)
 have HFR:=aa (show kX (m+4)++(dH l++List.replicate (secN (m+10) n * n - (m+10)) 0)=frameB l n from by rw [frameB,hl])
 obtain ⟨q,hq⟩:∃q,secN (m+10) n=q:=⟨_,rfl⟩
 obtain ⟨z,hz⟩:∃z,q * n=z:=⟨_,rfl⟩
 rw [hq,hz] at hq1 hq2 HFR
 rw [hq]
 have hmul:(q:Int) * (n:Int)=(z:Int):=by rw [<- hz];exact (Int.natCast_mul q n).symm
 clear hq hz
 have hmk:=rv z (by omega) w3
 obtain ⟨W4,hW4⟩:∃W,w3.alloc (.cells (zs12 z) 5)=W:=⟨_,rfl⟩
 rw [hW4] at hmk
 have hb4:Below w3.heap.size w3 W4:=hW4 ▸ (Below.refl w3.heap.size w3).alloc (Nat.le_refl _) _
 have hr4:W4.heap[w3.heap.size]?=some (.cells (zs12 z) 5 (0,0)):=hW4 ▸ heap_alloc_new w3 _
 obtain ⟨w5,hcp5,hr5,hg5,hsz5⟩:=cB (P:=Tryz.prog) W4 50 50 3 5 Tryz.underlying50 ld w3.heap.size z z w3.heap.size A3 6 c3
  (zs12 z) 5 hr4 (bv (kX (m+4))) (by rw [bv_length,headB_len]) (by omega) (by rw [gJ];omega) (bD _) ((Sees.own HO3.out).below hb4)
 have hs1:=((Sees.own HO1.out).below hb4).grown hg5 hb4.size
 obtain ⟨ad,had,hab,hac⟩:=hs1 (by rw [bv_length,markB_length];omega)
 have hsz:(bv (kX (m+4))++(zs12 z).toList.drop 6).toArray.size=z:=by
  rw [List.size_toArray,List.length_append,bv_length,headB_len,List.length_drop,Array.length_toList,gJ]
  omega
 have hml:(bv (dH l)).length=m+4:=by rw [bv_length,markB_length,hl]
 obtain ⟨w6,hcp6,hr6,hg6,hsz6⟩:=kT (P:=Tryz.prog) w5 50 50 5 1 w3.heap.size 6 (z - 6) (z - 6) ad (m+4) c1 (m+4) _ 5 (bv (dH l)) Tryz.underlying50 ld hr5
  (by show min (m+4) (z - 6)=m+4;omega) (by rw [hml];omega) (fun j v hv=>by have:=hac j v hv;exact this) (by rw [hsz,hml];omega) (bD _)
 have hcp6:=hcp6 3
 subst had
 have HR6:=aa (show w6.ownsRow w.heap.size 5 1 (.slice (some ⟨w3.heap.size,0,none⟩) z z) z (bv (frameB l n)) from by
  have hfl:(frameB l n).length=z:=by
   rw [<- HFR.out,List.length_append,List.length_append,headB_len,markB_length,lI]
   omega
  refine ⟨by rw [bv_length,hfl];omega, .inr ⟨w3.heap.size,_,_,rfl,HB3.out.size,hr6,Nat.le_refl _,by unfold maxLen;omega,?_,?_⟩⟩
  ·rw [List.size_toArray,List.length_append,List.length_append,List.length_take,List.length_drop,hml]
   simp only [List.length_append,bv_length,headB_len,List.length_drop,Array.length_toList,gJ]
   omega
  ·rw [<- HFR.out]
   have ez:(zs12 z).toList=bv (List.replicate z 0):=my z
   simp only
   rw [ez]
   exact qL (headB_len _) (by rw [markB_length,hl]) hq1)
 have hB4:Below w.heap.size w W4:=HB3.out.trans (hb4.mono HB3.out.size)
 have hB5:Below w.heap.size w w5:=hB4.grown hg5 hB4.size (fun k hk=>by cases hk;exact HB3.out.size)
 have HB6:=aa (show Below w.heap.size w w6 from hB5.grown hg6 hB5.size (fun k hk=>by cases hk;exact HB3.out.size))
 have HFL:=aa (show (frameB l n).length=z from by
  rw [<- HFR.out,List.length_append,List.length_append,headB_len,markB_length,lI]
  omega)
 clear hW4 hB4 hB5 hb4 hr4 hr5 hg5 hsz5 hs1 hab hac hsz hml hr6 hg6 hsz6
 go_wp2
 go_ret
 exact ⟨_,z,by rw [HFL.out];exact rfl,by rw [HFL.out];exact HR6.out,HB6.out⟩

theorem ia (g i:Nat) (r:List UInt8) (B:Nat) (A:Option Addr) (m c n:Nat) (w:World) (hg:g<18446744073709551616) (hi:i<18446744073709551616) (hr:r.length=m) (hm:m<=10000) (h0:64<=n) (hn:n<=512) (hs:Sees w B A (bv r)) (hB:B<=w.heap.size) :
  Calls Tryz.prog 158 #[.int .u64 (g:Int), .int .u64 (i:Int), .slice A m c, .int .i64 (n:Int)] w (Puts w (frameB (jrecB g i r) n)):=by
 have l1:=av g hg
 have l2:=av i hi
 have l3:=fv (g:=g) (i:=i) (r:=r) hg hi (by omega)
 have L1:=aa (show (numB g++numB i).length<=20 from by rw [List.length_append];omega)
 have L3:=aa l3
 have HS:=aa hs
 have HR:=aa hr
 have H1:=aa (aK [] (numB g) g w.heap.size none 0 0 w rfl (by simp) hg (Sees.empty _ _ _) (Nat.le_refl _) (by simp))
 clear l3 l2 hr hs
 go_enter Tryz.func158,Tryz.ntmps158
 go_wp2_with fail
 refine H1.out.mono ?_
 rintro e w1 ⟨A1,c1,rfl,hown1,hb1⟩
 have HB1:=aa hb1
 have H2:=aa (aK (numB g) (numB g++numB i) i w1.heap.size A1 (numB g).length c1 w1 rfl rfl hi (Sees.own hown1) (Nat.le_refl _) (by omega))
 clear hown1 hb1 H1 l1
 obtain ⟨n1,hn1⟩:∃k,(numB g).length=k:=⟨_,rfl⟩
 rw [hn1] at H2 ⊢
 clear hn1
 go_wp2_with fail
 refine H2.out.mono ?_
 rintro e w2 ⟨A2,c2,rfl,hown2,hb2⟩
 have HB2:=aa (HB1.out.trans (hb2.mono HB1.out.size))
 have H3:=aa (sC (numB g++numB i) r (jrecB g i r) w2.heap.size A2 A (numB g++numB i).length m c2 c w2 rfl HR.out (by rw [jrecB]) (Sees.own hown2) ((HS.out.below (HB2.out.mono hB)).more (Nat.le_trans hB HB2.out.size)) (Nat.le_refl _) (by have:=L1.out;omega) (by have:=HR.out;omega))
 obtain ⟨n2,hn2⟩:∃k,(numB g++numB i).length=k:=⟨_,rfl⟩
 rw [hn2] at H3 ⊢
 clear hown2 hb2 H2 HB1 hn2
 go_wp2_with fail
 refine H3.out.mono ?_
 rintro e w3 ⟨A3,c3,rfl,hown3,hb3⟩
 have HB3:=aa (HB2.out.trans (hb3.mono HB2.out.size))
 have H4:=aa (je (jrecB g i r) w3.heap.size A3 (jrecB g i r).length c3 n w3 rfl (by have:=L3.out;have:=HR.out;omega) h0 hn (Sees.own hown3) (Nat.le_refl _))
 obtain ⟨n3,hn3⟩:∃k,(jrecB g i r).length=k:=⟨_,rfl⟩
 rw [hn3] at H4 ⊢
 clear hown3 hb3 H3 HB2 hn3
 go_wp2_with fail
 refine H4.out.mono ?_
 rintro e w4 ⟨A4,c4,rfl,hown4,hb4⟩
 have HB4:=aa (HB3.out.trans (hb4.mono HB3.out.size))
 have HO4:=aa hown4
 obtain ⟨n4,hn4⟩:∃k,(frameB (jrecB g i r) n).length=k:=⟨_,rfl⟩
 have HN4:=aa hn4
 rw [hn4]
 clear hown4 hb4 hn4 H4
 go_wp2
 go_ret
 exact ⟨A4,c4,by rw [HN4.out];exact rfl,az HO4.out HB3.out.size,HB4.out⟩

def seV (t g k:Nat):Value := .agg #[.int .u64 (t:Int), .int .u64 (g:Int), .int .u64 (k:Int)]

theorem iR (t g k:Nat) (w:World):Calls Tryz.prog 223 #[seV t g k] w fun e w'=>e = .returned (.int .i64 ((t % 2:Nat):Int))/\Below w.heap.size w w':=by
 unfold seV
 have hb:Below w.heap.size w (w.alloc (.cells #[.int .u64 (t:Int), .int .u64 (g:Int), .int .u64 (k:Int)] 218)):=(Below.refl _ _).alloc (Nat.le_refl _) _
 have c0:=(BoxAt.new w #[.int .u64 (t:Int), .int .u64 (g:Int), .int .u64 (k:Int)] 218).cell 0
 simp at c0
 have HB:=aa hb
 obtain ⟨q,hq⟩:∃q,t % 2=q:=⟨_,rfl⟩
 have h1:(t:Int) % 2=(q:Int):=by omega
 have h2:q<2:=by omega
 rw [hq]
 clear hb hq
 go_enter Tryz.func223,Tryz.ntmps223
 go_wp2
 go_ret
 exact ⟨rfl,HB.out⟩

theorem qM (t g k n:Nat) (w:World) (ht:t<18446744073709551616) (hg:g<18446744073709551616) (hk:k<18446744073709551616) (h0:64<=n) (hn:n<=512) :
  Calls Tryz.prog 224 #[seV t g k, .int .i64 (n:Int)] w (Puts w (frameB (bF t g k) n)):=by
 unfold seV
 have hb:Below w.heap.size w (w.alloc (.cells #[.int .u64 (t:Int), .int .u64 (g:Int), .int .u64 (k:Int)] 218)):=(Below.refl _ _).alloc (Nat.le_refl _) _
 have hbx:=BoxAt.new w #[.int .u64 (t:Int), .int .u64 (g:Int), .int .u64 (k:Int)] 218
 obtain ⟨W0,hW0⟩:∃W,w.alloc (.cells #[.int .u64 (t:Int), .int .u64 (g:Int), .int .u64 (k:Int)] 218)=W:=⟨_,rfl⟩
 rw [hW0] at hb hbx
 have HB0:=aa hb
 have HX0:=aa hbx
 have HW0:=aa hW0
 have l1:=av t ht
 have l2:=av g hg
 have L1:=aa (show (numB t++numB g).length<=20 from by rw [List.length_append];omega)
 have L3:=aa (hO ht hg hk)
 have H1:=aa (aK [] (numB t) t W0.heap.size none 0 0 W0 rfl (by simp) ht (Sees.empty _ _ _) (Nat.le_refl _) (by simp))
 clear hb hbx hW0 l2
 go_enter Tryz.func224,Tryz.ntmps224
 go_upto_region 1 with fail
 rw [HW0.out]
 have c0:=HX0.out.cell 0
 simp at c0
 go_wp2_with fail
 refine H1.out.mono ?_
 rintro e w1 ⟨A1,c1,rfl,hown1,hb1⟩
 have HB1:=aa (HB0.out.trans (hb1.mono HB0.out.size))
 have HX1:=aa (HX0.out.below hb1)
 have H2:=aa (aK (numB t) (numB t++numB g) g w1.heap.size A1 (numB t).length c1 w1 rfl rfl hg (Sees.own hown1) (Nat.le_refl _) (by omega))
 obtain ⟨n1,hn1⟩:∃k,(numB t).length=k:=⟨_,rfl⟩
 rw [hn1] at H2 ⊢
 clear hown1 hb1 H1 l1 hn1 c0
 have c1':=HX1.out.cell 1
 simp at c1'
 go_wp2_with fail
 refine H2.out.mono ?_
 rintro e w2 ⟨A2,c2,rfl,hown2,hb2⟩
 have HB2:=aa (HB1.out.trans (hb2.mono HB1.out.size))
 have HX2:=aa (HX1.out.below hb2)
 have H3:=aa (aK (numB t++numB g) (bF t g k) k w2.heap.size A2 (numB t++numB g).length c2 w2 rfl (by rw [bF]) hk (Sees.own hown2) (Nat.le_refl _) (by have:=L1.out;omega))
 obtain ⟨n2,hn2⟩:∃k,(numB t++numB g).length=k:=⟨_,rfl⟩
 rw [hn2] at H3 ⊢
 clear hown2 hb2 H2 HB1 HX1 hn2 c1'
 have c2':=HX2.out.cell 2
 simp at c2'
 go_wp2_with fail
 refine H3.out.mono ?_
 rintro e w3 ⟨A3,c3,rfl,hown3,hb3⟩
 have HB3:=aa (HB2.out.trans (hb3.mono HB2.out.size))
 have H4:=aa (je (bF t g k) w3.heap.size A3 (bF t g k).length c3 n w3 rfl (by have:=L3.out;omega) h0 hn (Sees.own hown3) (Nat.le_refl _))
 obtain ⟨n3,hn3⟩:∃q,(bF t g k).length=q:=⟨_,rfl⟩
 rw [hn3] at H4 ⊢
 clear hown3 hb3 H3 HB2 HX2 hn3 c2'
 go_wp2_with fail
 refine H4.out.mono ?_
 rintro e w4 ⟨A4,c4,rfl,hown4,hb4⟩
 have HB4:=aa (HB3.out.trans (hb4.mono HB3.out.size))
 have HO4:=aa hown4
 obtain ⟨n4,hn4⟩:∃q,(frameB (bF t g k) n).length=q:=⟨_,rfl⟩
 have HN4:=aa hn4
 rw [hn4]
 clear hown4 hb4 hn4 H4
 go_wp2
 go_ret
 exact ⟨A4,c4,by rw [HN4.out];exact rfl,az HO4.out HB3.out.size,HB4.out⟩

theorem xD {w:World} {L:Lay} {D:Dk} (h:DiskAt w L D) (hc:D.calm) (hw:D.waits=[]) {i:Nat} (hi:i<D.c) :
  Calls Tryz.prog 81 #[.pointer (some ⟨L.b,0,none⟩), .int .i64 (i:Int)] w fun e w'=>∃A c,e = .returned (.tuple #[.slice A D.n c, .int .i64 0])/\w'.ownsRow w.heap.size 5 1 (.slice A D.n c) D.n (bv (D.kept i))/\Below w.heap.size w w':=by
 have hr:=zR h (i:Int)
 unfold DT at hr
 rw [nu hc.1 (by omega) (by omega),Ce hc.1 hw hi,h.ok.k] at hr
 exact hr

theorem jF {w:World} {L:Lay} {D:Dk} (h:DiskAt w L D) (hc:D.calm) (hw:D.waits=[]) (a k:Nat) (hak:a+k<=D.c) :
  Calls Tryz.prog 213 #[.pointer (some ⟨L.b,0,none⟩), .int .i64 (a:Int), .int .i64 (k:Int)] w (Puts w (secs D.kept a k)):=by
 have hcc:=h.ok.c2
 have hnn:=h.ok.n2
 have HSL:=aa (fun j=>fU h.ok.k a j)
 have HRD:=aa (fun (u:World) (hu:Below w.heap.size w u) (j:Nat) (hj:j<k)=>show Calls Tryz.prog 81 #[.pointer (some ⟨L.b,0,none⟩), .int .i64 ((a:Int)+(j:Int))] u _ from xD (h.below hu) hc hw (show a+j<D.c from by omega))
 have HKL:=aa h.ok.k
 have hkc:k<=4096:=by omega
 have hac:a<=4096:=by omega
 have H512:=aa (show ∀j,j<=4096->j * D.n<=2097152 from fun j hj=>by
  have:=Nat.mul_le_mul hj hnn
  omega)
 clear h hw hc hcc hak hnn
 go_enter Tryz.func213,Tryz.ntmps213
 go_wp2
 go_loopw [7,12] (fun v i wr=>∃(j z:Nat) (A:Option Addr) (c:Nat),j<=k/\i = .int .i64 (j:Int)/\v = .slice A z c/\Hid ((secs D.kept a j).length=z)/\Hid (wr.ownsRow w.heap.size 5 1 (.slice A z c) z (bv (secs D.kept a j)))/\Hid (Below w.heap.size w wr)) (fun _ i _=>k - (intOf i).toNat)
 case atStart=>exact ⟨0,0,none,0,Nat.zero_le _,rfl,rfl,aa rfl,aa (World.ownsRow_nil _ _ _ _),aa (Below.refl _ _)⟩
 case round =>
  obtain ⟨j,z,A,c,hj,rfl,rfl,HZ,HO,HB⟩:=hrel
  by_cases hlt:j<k
  ·have HR:=aa (HRD.out wr HB.out j hlt)
   obtain ⟨nn,hnn⟩:∃q,D.n=q:=⟨_,rfl⟩
   rw [hnn] at HR
   have HNN:=aa hnn
   have HZL:=aa (show z<=2097152 from by rw [<- HZ.out,HSL.out];exact H512.out j (by omega))
   clear hnn
   go_wp2_with fail
   refine HR.out.mono ?_
   rintro e w1 ⟨A1,c1,rfl,hown1,hb1⟩
   have HO1:=aa (ao HO.out hb1)
   have HB1:=aa (HB.out.trans (hb1.mono HB.out.size))
   have HS1:=aa (Sees.own hown1)
   have hwb:w.heap.size<=w1.heap.size:=HB1.out.size
   obtain ⟨r,hr⟩:∃r,secs D.kept a (j+1)=r:=⟨_,rfl⟩
   obtain ⟨z2,hz2⟩:∃z,r.length=z:=⟨_,rfl⟩
   have HR2:=aa hr
   have HZ2:=aa hz2
   clear hown1 hb1 hr hz2
   go_wp2_with (at_builtin;refine dv _ rfl _ _ 50 rfl w.heap.size 5 bT Tryz.underlying50 _ z (secs D.kept a j) (D.kept (a+j)) r (by rw [<- HR2.out,secs_succ]) rfl HO1.out w1.heap.size A1 nn c1 rfl (by rw [HKL.out,HNN.out]) HS1.out (by have:=HZL.out;have:=H512.out 1 (by omega);have:=HNN.out;omega) hwb ?_;rw [HZ2.out];intro A2 c2 w2 hown2 hb2)
   go_roundw
   case rel=>exact ⟨j+1,z2,A2,c2,by omega,by go_num,rfl,by rw [HR2.out];exact HZ2,by rw [HR2.out];exact aa hown2,aa (HB1.out.trans hb2)⟩
   case measure=>simp [intOf];omega
  ·obtain rfl:j=k:=by omega
   go_wp2
   go_ret
   exact ⟨A,c,by rw [HZ.out];exact rfl,by rw [HZ.out];exact HO.out,HB.out⟩

theorem ge {w:World} {L:Lay} {D:Dk} (h:DiskAt w L D) (hc:D.calm) (hw:D.waits=[]) (a z:Nat) (b:List UInt8) (hb:b.length<=60000) (hs:secs D.kept a (secN (b.length+10) D.n)=frameB b D.n) (hz:a+secN (b.length+10) D.n<=z) (hzc:z<=D.c) :
  Calls Tryz.prog 275 #[.pointer (some ⟨L.b,0,none⟩), .int .i64 (a:Int), .int .i64 (z:Int)] w fun e w'=>∃A c,e = .returned (.tuple #[.slice A b.length c, .int .i64 (secN (b.length+10) D.n:Int)])/\Sees w' w'.heap.size A (bv b)/\Below w.heap.size w w':=by
 have hcc:=h.ok.c2
 have hn1:=h.ok.n1
 have hn2:=h.ok.n2
 have hp:=r8 (m:=b.length+10) (n:=D.n) (by omega) (by omega)
 have H1:=aa (show Calls Tryz.prog 213 #[.pointer (some ⟨L.b,0,none⟩), .int .i64 (a:Int), .int .i64 1] w (Puts w (secs D.kept a 1)) from jF h hc hw a 1 (by omega))
 have HSZ:=aa (fun (u:World) (hu:Below w.heap.size w u)=>show Calls Tryz.prog 79 #[.pointer (some ⟨L.b,0,none⟩)] u fun e w'=>e = .returned (.int .i64 (D.n:Int))/\u=w' from eK (h.below hu))
 have HRD:=aa (fun (u:World) (hu:Below w.heap.size w u)=>jF (h.below hu) hc hw a (secN (b.length+10) D.n) (by omega))
 have HFL:=aa (ct (b:=b) (n:=D.n) (by omega))
 have h6:(D.kept a).take 6=kX (b.length+4):=by
  have e1:secs D.kept a 1=(frameB b D.n).take (1 * D.n):=by
   rw [<- hs]
   obtain ⟨q,hq⟩:∃q,secN (b.length+10) D.n=1+q:=⟨secN (b.length+10) D.n - 1,by omega⟩
   rw [hq]
   exact (oZ h.ok.k a 1 q).symm
  rw [secs_one] at e1
  rw [e1,List.take_take,show min 6 (1 * D.n)=6 from by omega,qK]
 have H6:=aa (show (secs D.kept a 1).take 6=kX (b.length+4) from by rw [secs_one];exact h6)
 have HL1:=aa (show (secs D.kept a 1).length=D.n from by rw [secs_one,h.ok.k])
 obtain ⟨n,hn⟩:∃n,D.n=n:=⟨_,rfl⟩
 obtain ⟨bc,hbc⟩:∃bc,L.b=bc:=⟨_,rfl⟩
 obtain ⟨m,hm⟩:∃m,b.length=m:=⟨_,rfl⟩
 obtain ⟨q,hq⟩:∃q,secN (m+10) n=q:=⟨_,rfl⟩
 have HS:=aa hs
 have HM:=aa hm
 have HQ:=aa hq
 rw [hm,hn,hq] at HFL HRD HS hz hp
 rw [hn] at HSZ HL1 hn1 hn2
 rw [hbc] at H1 HSZ HRD
 rw [hbc,hm,hn,hq]
 rw [hm] at H6 hb
 clear h6 hm hn hbc hq hs h hc hw
 go_enter Tryz.func275,Tryz.ntmps275
 go_wp2_with fail
 refine H1.out.mono ?_
 rintro e w1 ⟨A1,c1,rfl,hown1,hb1⟩
 rw [HL1.out] at hown1 ⊢
 have hcap:=pG hown1
 have HF:=aa (pL ((secs D.kept a 1).take 6) [UInt8.ofNat ((m+4) / 256),UInt8.ofNat (m+4)] 0 A1 6 c1 w1 (by rw [H6.out];exact lj _) (by rw [H6.out,headB_len]) (by omega) (by rw [ev];exact (Sees.own hown1).take 6) (by omega))
 have HB1:=aa hb1
 clear hown1 hb1 H1
 go_wp2_with fail
 refine HF.out.mono ?_
 rintro e w2 ⟨A2,n2,c2,rfl,hn2',hs2,hb2⟩
 obtain rfl:n2=2:=by simpa using hn2'.symm
 obtain ⟨hb0,ho0,rfl,hbl,hfl⟩:=hs2.flat (by simp [bv])
 have x0:=hfl 0 _ (by simp [bv];rfl)
 have x1:=hfl 1 _ (by simp [bv];rfl)
 simp only [Nat.add_zero] at x0
 have HB2:=aa (HB1.out.trans (hb2.mono HB1.out.size))
 clear hn2' hs2 hb2 hfl HF HB1
 obtain ⟨hi,hhi⟩:∃hi,(m+4) / 256=hi:=⟨_,rfl⟩
 obtain ⟨lo,hlo⟩:∃lo,(m+4) % 256=lo:=⟨_,rfl⟩
 rw [show ((m:Int)+4) / 256 % 256=(hi:Int) from by omega] at x0
 rw [show ((m:Int)+4) % 256=(lo:Int) from by omega] at x1
 have hhl:hi * 256+lo=m+4:=by omega
 have hh1:hi<256:=by omega
 have hh2:lo<256:=by omega
 clear hhi hlo
 go_upto_region 4 with fail
 go_quiet (fail)
 obtain ⟨e,he⟩:∃e,m+10=e:=⟨_,rfl⟩
 rw [show (6:Int)+(hi:Int) * 256+(lo:Int)=(e:Int) from by omega]
 obtain ⟨W3,hW3⟩:∃u,w2.drewN nq=u:=⟨_,rfl⟩
 have HB3:=aa (HB2.out.trans (hW3 ▸ dS (Below.refl _ _) nq:Below w.heap.size w2 W3))
 have HE:=aa he
 have HS2:=aa (HSZ.out W3 HB3.out)
 have HSF:=aa (gd e n W3 (by omega) (by omega) (by omega))
 rw [show secN e n=q from by rw [<- he];exact HQ.out] at HSF
 have HR3:=aa (HRD.out W3 HB3.out)
 rw [hW3]
 have hle:e<=q * n:=by
  have:=qI (m:=m+10) (n:=n) (by omega)
  rw [HQ.out] at this
  omega
 have hqn:q * n<=2097152:=by
  have:=Nat.mul_le_mul (show q<=4096 from by omega) hn2
  omega
 have hno:¬((z:Int) - (a:Int)<(q:Int)):=by omega
 clear hW3 HB2 x0 x1 hh1 hh2 hhl HRD HSZ
 go_wp2_with (first|(go_at_call 79;refine HS2.out.mono ?_;rintro _ _ ⟨rfl,rfl⟩)|(go_at_call 283;refine HSF.out.mono ?_;rintro _ _ ⟨rfl,rfl⟩)|(go_at_call 213;refine HR3.out.mono ?_;rintro _ w4 ⟨A4,c4,rfl,hown4,hb4⟩;(have HB4:=aa (HB3.out.trans (hb4.mono HB3.out.size)));(have HLN:=aa (show (secs D.kept a q).length=q * n from by rw [HS.out];exact HFL.out));(obtain ⟨g4,rfl,_,hcap4,hrow4⟩:=jK hown4 rfl (by rw [HLN.out];omega));(have HW4:=aa hrow4);(rw [HLN.out] at hcap4 ⊢);(obtain ⟨k,hk⟩:∃k,q * n=k:=⟨_,rfl⟩);(rw [hk] at hcap4 hle hqn ⊢);(have HKK:=aa hk);clear hown4 hb4 hk hrow4))
 have hsm:Sees w4 w4.heap.size (some ⟨g4,6,none⟩) (bv (dH b)):=by
  have h1:=HW4.out.sees.drop 6 c4 (by rw [bv_length,HS.out,HFL.out,HKK.out];omega)
  rw [if_neg (by omega)] at h1
  have h2:=h1.take (m+4)
  rw [<- gi,<- ev,HS.out] at h2
  have h3:=tO (b:=b) (n:=n)
  rw [HM.out,List.drop_take] at h3
  rw [show m+4=m+10 - 6 from by omega,h3] at h2
  exact h2
 have HF:=aa (pL (dH b) b 0 (some ⟨g4,6,none⟩) (e - 6) (c4 - 6) w4 (lj b) (by rw [markB_length,HM.out];omega) (by omega) hsm (by omega))
 clear hsm
 go_wp2_with fail
 refine HF.out.mono ?_
 rintro _ w5 ⟨A5,n5,c5,rfl,hn5,hs5,hb5⟩
 obtain rfl:n5=m:=hn5.symm.trans HM.out
 have HS5:=aa hs5
 have HB5:=aa (HB4.out.trans (hb5.mono HB4.out.size))
 clear hs5 hb5 HF hn5
 go_wp2
 refine bodyPost_ret (v := .tuple #[.slice A5 n5 c5, .int .i64 (q:Int)]) (by simp [results,Tryz.results275,go_sem]) rfl ?_
 exact ⟨A5,c5,rfl,HS5.out,HB5.out⟩

theorem tR:jQ (List.replicate 6 (0:UInt8))=([],5):=by
 refine rg (by simp) ?_
 unfold dH
 decide +kernel
theorem nz {w:World} {L:Lay} {D:Dk} (h:DiskAt w L D) (hc:D.calm) (hw:D.waits=[]) (a z:Nat) (hs:D.kept a=List.replicate D.n 0) (hac:a<D.c) :
  Calls Tryz.prog 275 #[.pointer (some ⟨L.b,0,none⟩), .int .i64 (a:Int), .int .i64 (z:Int)] w fun e w'=>e = .returned (.tuple #[.slice none 0 0, .int .i64 0])/\Below w.heap.size w w':=by
 have hn1:=h.ok.n1
 have hn2:=h.ok.n2
 have H1:=aa (show Calls Tryz.prog 213 #[.pointer (some ⟨L.b,0,none⟩), .int .i64 (a:Int), .int .i64 1] w (Puts w (secs D.kept a 1)) from jF h hc hw a 1 (by omega))
 have H6:=aa (show (secs D.kept a 1).take 6=List.replicate 6 0 from by rw [secs_one,hs,List.take_replicate];congr 1;omega)
 have HL1:=aa (show (secs D.kept a 1).length=D.n from by rw [secs_one,h.ok.k])
 obtain ⟨n,hn⟩:∃n,D.n=n:=⟨_,rfl⟩
 obtain ⟨bc,hbc⟩:∃bc,L.b=bc:=⟨_,rfl⟩
 rw [hn] at HL1 hn1 hn2
 rw [hbc] at H1
 rw [hbc]
 clear hn hbc hs h hc hw hac
 go_enter Tryz.func275,Tryz.ntmps275
 go_wp2_with fail
 refine H1.out.mono ?_
 rintro e w1 ⟨A1,c1,rfl,hown1,hb1⟩
 rw [HL1.out] at hown1 ⊢
 have hcap:=pG hown1
 have HF:=aa (pL ((secs D.kept a 1).take 6) [] 5 A1 6 c1 w1 (by rw [H6.out];exact tR) (by rw [H6.out];rfl) (by omega) (by rw [ev];exact (Sees.own hown1).take 6) (by omega))
 have HB1:=aa hb1
 clear hown1 hb1 H1
 go_wp2_with fail
 refine HF.out.mono ?_
 rintro e w2 ⟨A2,n2,c2,rfl,hn2',hs2,hb2⟩
 have HB2:=aa (HB1.out.trans (hb2.mono HB1.out.size))
 clear hn2' hs2 hb2 HF HB1
 go_wp2
 refine bodyPost_ret (v := .tuple #[.slice none 0 0, .int .i64 0]) (by simp [results,Tryz.results275,go_sem]) rfl ?_
 exact ⟨rfl,HB2.out⟩

theorem tS (k:Nat) (B:Nat) (A:Option Addr) (c:Nat) (w:World) (hk:k<=1000000) (hs:Sees w B A (bv (List.replicate k 0))) (hB:B<=w.heap.size) :
  Calls Tryz.prog 212 #[.slice A k c] w fun e w'=>e = .returned (.bool true)/\Below w.heap.size w w':=by
 have hmk:=rv k hk w
 obtain ⟨W1,hW1⟩:∃W,w.alloc (.cells (zs12 k) 5)=W:=⟨_,rfl⟩
 have hb:Below w.heap.size w W1:=hW1 ▸ (Below.refl _ _).alloc (Nat.le_refl _) _
 have hr:RowIs W1 w.heap.size (List.replicate k 0):=hW1 ▸ j7 w k
 rw [hW1] at hmk
 have HE:=aa (jP (List.replicate k 0) (List.replicate k 0) true B W1.heap.size A (some ⟨w.heap.size,0,none⟩) k c k k W1 (lI k) (lI k) (by simp) (hs.below (hb.mono hB)) hr.sees)
 have HB:=aa hb
 clear hW1 hb hr hs
 go_enter Tryz.func212,Tryz.ntmps212
 go_wp2_with fail
 refine HE.out.mono ?_
 rintro _ _ ⟨rfl,rfl⟩
 go_wp2
 go_ret
 exact ⟨rfl,HB.out⟩

theorem ib {w:World} {g x:Nat} {t:List UInt8} (h:Rdr w g (numB x++t) 0) (hx:x<=100000) (hl:t.length<=900000) :
  Calls Tryz.prog 135 #[.pointer (some ⟨g,0,none⟩), .int .u64 18446744073709551615] w fun e w'=>e = .returned (.int .u64 (x:Int))/\Rdr w' g t 0/\w.grownBy w' (some g):=by
 have hlen:=av x (by omega)
 have:=n8 (s:=(numB x++t,0)) 18446744073709551615 h ⟨.inl rfl,by rw [List.length_append];omega⟩
 rw [fI t (by omega) (by omega)] at this
 exact this
theorem ky {w:World} {g:Nat} {er:Int} (h:Rdr w g [] er) (he:er=0∨er=2) :
  Calls Tryz.prog 135 #[.pointer (some ⟨g,0,none⟩), .int .u64 18446744073709551615] w fun e w'=>e = .returned (.int .u64 0)/\Rdr w' g [] 2/\w.grownBy w' (some g):=by
 have:=n8 (s:=([],er)) 18446744073709551615 h ⟨by rcases he with rfl|rfl <;> simp,by simp⟩
 have e1:numS 18446744073709551615 ([],er)=(0,([],2)):=by
  rcases he with rfl|rfl
  ·rfl
  ·rfl
 rw [e1] at this
 exact this

theorem BoxAt.keep13 {w w':World} {z g:Nat} {cs:Array Value} {T:TypeId} (h:BoxAt w z cs T) (hw:w.grownBy w' (some g)) (hne:g≠z):BoxAt w' z cs T:=(hw.block z h.lt (fun e=>hne (by injection e with e;exact e.symm))).trans h
def zse:Array Value := #[.int .u64 0, .int .u64 0, .int .u64 0]
theorem box3 {w:World} {z:Nat} {c0 c1 c2:Value} {T:TypeId} (b:BoxAt w z #[c0,c1,c2] T) (v0 v1 v2:Value) :
  BoxAt (((w.setCell ⟨z,0,none⟩ v0).setCell ⟨z,1,none⟩ v1).setCell ⟨z,2,none⟩ v2) z #[v0,v1,v2] T:=by
 have:=((b.set9 0 v0).set9 1 v1).set9 2 v2
 simpa using this
theorem lK (w:World) (z:Nat) (v0 v1 v2:Value):w.grownBy (((w.setCell ⟨z,0,none⟩ v0).setCell ⟨z,1,none⟩ v1).setCell ⟨z,2,none⟩ v2) (some z) :=
 aV (aV (aV (World.grownBy.refl w _) 0 v0) 1 v1) 2 v2

theorem ic {w:World} {L:Lay} {D:Dk} (h:DiskAt w L D) (hc:D.calm) (hw:D.waits=[]) (a t g k:Nat) (ht:t<=100000) (hg:g<=100000) (hk:k<=100000) (hs:D.kept a=frameB (bF t g k) D.n) (hac:a<D.c) (hta:t % 2=a) :
  Calls Tryz.prog 211 #[.pointer (some ⟨L.b,0,none⟩), .int .i64 (a:Int)] w fun e w'=>e = .returned (.tuple #[seV t g k, .bool true])/\Below w.heap.size w w':=by
 have hn1:=h.ok.n1
 have ha4:a<=4096:=by have:=h.ok.c2;omega
 have hl:=hO (t:=t) (g:=g) (k:=k) (by omega) (by omega) (by omega)
 have h1:secN ((bF t g k).length+10) D.n=1:=nw (by omega) (by omega)
 obtain ⟨W0,hW0⟩:∃W,w.alloc (.cells #[.int .u64 0, .int .u64 0, .int .u64 0] 218)=W:=⟨_,rfl⟩
 have hb0:Below w.heap.size w W0:=hW0 ▸ (Below.refl _ _).alloc (Nat.le_refl _) _
 have HZ0:=aa (show BoxAt W0 w.heap.size #[.int .u64 0, .int .u64 0, .int .u64 0] 218 from hW0 ▸ BoxAt.new w _ _)
 have HG:=aa (ge (h.below hb0) hc hw a (a+1) (bF t g k) (by omega) (by rw [h1,secs_one];exact hs) (by omega) (by omega))
 rw [h1,show ((1:Nat):Int)=1 from rfl] at HG
 have HB0:=aa hb0
 have HW0:=aa hW0
 have HL:=aa hl
 obtain ⟨bc,hbc⟩:∃bc,L.b=bc:=⟨_,rfl⟩
 rw [hbc] at HG ⊢
 obtain ⟨m,hm⟩:∃m,(bF t g k).length=m:=⟨_,rfl⟩
 rw [hm] at HG
 have HM:=aa hm
 have hma:((a+1:Nat):Int)=(a:Int)+1:=by omega
 rw [hma] at HG
 have HTA:=aa hta
 have hm30:m<=30:=by omega
 obtain ⟨g4,hg4⟩:∃g,w.heap.size=g:=⟨_,rfl⟩
 have HG4:=aa hg4
 rw [hg4] at HZ0
 clear h hc hw hs hn1 h1 hb0 hW0 hl hbc hm hma hac hta hg4
 go_enter Tryz.func211,Tryz.ntmps211
 go_upto_region 1 with fail
 rw [HW0.out,HG4.out]
 go_wp2_with fail
 with_reducible refine HG.out.mono ?_
 rintro e w1 ⟨A1,c1,rfl,hs1,hb1⟩
 have HZ1:=aa (HZ0.out.below hb1)
 have HB1:=aa (HB0.out.trans (hb1.mono HB0.out.size))
 have HN:=aa (mo (bF t g k) w1.heap.size A1 m c1 w1 HM.out hs1 (Nat.le_refl _) (by omega))
 clear hs1 hb1 HG HW0
 go_wp2_with fail
 with_reducible refine HN.out.mono ?_
 rintro e w2 ⟨g8,rfl,hg8,hr2,hb2⟩
 have HZ2:=aa (HZ1.out.below hb2)
 have HB2:=aa (HB1.out.trans (hb2.mono HB1.out.size))
 have HG8:=aa (show g4<g8/\w.heap.size<=g8 from ⟨Nat.lt_of_lt_of_le HZ1.out.lt hg8,Nat.le_trans HB1.out.size hg8⟩)
 have HN1:=aa (ib (x:=t) (t:=numB g++numB k) (by rw [<- List.append_assoc];exact hr2) ht (by have:=HL.out;unfold bF at this;simp only [List.length_append] at this ⊢;omega))
 clear hg8 hr2 hb2 HN HZ1 HB1
 go_upto_region 3 with fail
 go_wp2_with fail
 with_reducible refine HN1.out.mono ?_
 rintro e w3 ⟨rfl,hr3,hg3⟩
 have HZ3:=aa (BoxAt.keep13 HZ2.out hg3 (by have:=HG8.out.1;omega))
 have HB3:=aa (HB2.out.grown hg3 HB2.out.size (fun q e=>by cases e;exact HG8.out.2))
 have HN2:=aa (ib (x:=g) (t:=numB k) hr3 hg (by have:=HL.out;unfold bF at this;simp only [List.length_append] at this;omega))
 clear hr3 hg3 HN1 HZ2
 go_wp2_with fail
 with_reducible refine HN2.out.mono ?_
 rintro e w4 ⟨rfl,hr4,hg4⟩
 have HZ4:=aa (BoxAt.keep13 HZ3.out hg4 (by have:=HG8.out.1;omega))
 have HB4:=aa (HB3.out.grown hg4 HB3.out.size (fun q e=>by cases e;exact HG8.out.2))
 have HN3:=aa (ib (x:=k) (t:=[]) (by rw [List.append_nil];exact hr4) hk (by simp))
 clear hr4 hg4 HN2 HZ3
 go_wp2_with fail
 with_reducible refine HN3.out.mono ?_
 rintro e w5 ⟨rfl,hr5,hg5⟩
 have HZ5:=aa (BoxAt.keep13 HZ4.out hg5 (by have:=HG8.out.1;omega))
 have HB5:=aa (HB4.out.grown hg5 HB4.out.size (fun q e=>by cases e;exact HG8.out.2))
 have HR5:=aa hr5
 clear hr5 hg5 HN3 HZ4 HB4 HB3 HB2
 go_upto_region 4 with fail
 obtain ⟨W6,hW6⟩:∃W,w5.alloc (.cells #[.int .u64 (t:Int), .int .u64 (g:Int), .int .u64 (k:Int)] 218)=W:=⟨_,rfl⟩
 obtain ⟨g9,hg9⟩:∃g,w5.heap.size=g:=⟨_,rfl⟩
 have hb6:Below w5.heap.size w5 W6:=hW6 ▸ (Below.refl _ _).alloc (Nat.le_refl _) _
 have HS6:=aa (show BoxAt W6 g9 #[.int .u64 (t:Int), .int .u64 (g:Int), .int .u64 (k:Int)] 218 from hg9 ▸ hW6 ▸ BoxAt.new w5 _ _)
 have HZ6:=aa (HZ5.out.below hb6)
 have HB6:=aa (HB5.out.trans (hb6.mono HB5.out.size))
 have HR6:=aa (HR5.out.below hb6)
 have HEN:=aa (show ∀u,Below W6.heap.size W6 u->Calls Tryz.prog 67 #[.pointer (some ⟨g8,0,none⟩)] u fun e w'=>e = .returned (.int .i64 0)/\u=w' from fun u hu=>by
  have:=n9 (s:=([],0)) (HR6.out.below hu)
  simpa [endS] using this)
 have HPL:=aa (show ∀u:World,Calls Tryz.prog 223 #[.agg #[.int .u64 (t:Int), .int .u64 (g:Int), .int .u64 (k:Int)]] u fun e w'=>e = .returned (.int .i64 (a:Int))/\Below u.heap.size u w' from fun u=>by
  have:=iR t g k u
  rwa [HTA.out] at this)
 rw [hW6,hg9]
 have cs:=HS6.out.cell
 have cz:=HZ6.out.cell
 have fz:=HZ6.out.free9
 clear hW6 hg9 hb6 HR5 HZ5 HB5 HL HM HTA HR6
 go_region_law (first|(go_simp;go_at_call 67;refine (HEN.out _ ((Below.refl _ _).drew)).mono ?_;rintro _ _ ⟨rfl,rfl⟩)|(go_simp;go_at_call 223;refine (HPL.out _).mono ?_;rintro _ w7 ⟨rfl,hb7⟩;(have hb67:Below W6.heap.size W6 w7:=((Below.refl _ _).drew).trans hb7);(have HB7:=aa (HB6.out.trans (hb67.mono HB6.out.size)));(have HZ7:=aa (HZ6.out.below hb67));(have cs7:=(HS6.out.below hb67).cell);(have cz7:=HZ7.out.cell);(have fz7:=HZ7.out.free9);clear hb67 hb7))
 all_goals go_wp2
 all_goals
  have HE:=aa (box3 HZ7.out (.int .u64 (t:Int)) (.int .u64 (g:Int)) (.int .u64 (k:Int)))
  have q0:=HE.out.cell 0
  have q1:=HE.out.cell 1
  have q2:=HE.out.cell 2
  simp only [List.getElem?_toArray,List.getElem?_cons_zero,List.getElem?_cons_succ] at q0 q1 q2
  refine bodyPost_ret (v := .tuple #[seV t g k, .bool true]) (by simp [results,Tryz.results211,go_sem,q0,q1,q2,seV]) rfl ?_
  refine ⟨rfl,?_⟩
  exact HB7.out.grown (lK w7 g4 _ _ _) HB7.out.size (fun q e=>by cases e;rw [HG4.out];exact Nat.le_refl _)

theorem jf {w:World} {L:Lay} {D:Dk} (h:DiskAt w L D) (hc:D.calm) (hw:D.waits=[]) (a:Nat) (hs:D.kept a=List.replicate D.n 0) (hac:a<D.c) :
  Calls Tryz.prog 211 #[.pointer (some ⟨L.b,0,none⟩), .int .i64 (a:Int)] w fun e w'=>e = .returned (.tuple #[seV 0 0 0, .bool false])/\Below w.heap.size w w':=by
 have ha4:a<=4096:=by have:=h.ok.c2;omega
 obtain ⟨W0,hW0⟩:∃W,w.alloc (.cells #[.int .u64 0, .int .u64 0, .int .u64 0] 218)=W:=⟨_,rfl⟩
 have hb0:Below w.heap.size w W0:=hW0 ▸ (Below.refl _ _).alloc (Nat.le_refl _) _
 have HZ0:=aa (show BoxAt W0 w.heap.size #[.int .u64 0, .int .u64 0, .int .u64 0] 218 from hW0 ▸ BoxAt.new w _ _)
 have HG:=aa (nz (h.below hb0) hc hw a (a+1) hs hac)
 have HB0:=aa hb0
 have HW0:=aa hW0
 obtain ⟨bc,hbc⟩:∃bc,L.b=bc:=⟨_,rfl⟩
 rw [hbc] at HG ⊢
 have hma:((a+1:Nat):Int)=(a:Int)+1:=by omega
 rw [hma] at HG
 obtain ⟨g4,hg4⟩:∃g,w.heap.size=g:=⟨_,rfl⟩
 have HG4:=aa hg4
 rw [hg4] at HZ0
 clear h hc hw hs hb0 hW0 hbc hma hac hg4
 go_enter Tryz.func211,Tryz.ntmps211
 go_upto_region 1 with fail
 rw [HW0.out,HG4.out]
 go_wp2_with fail
 with_reducible refine HG.out.mono ?_
 rintro e w1 ⟨rfl,hb1⟩
 have HZ1:=aa (HZ0.out.below hb1)
 have HB1:=aa (HB0.out.trans (hb1.mono HB0.out.size))
 have HN:=aa (mo [] w1.heap.size none 0 0 w1 rfl (Sees.empty _ _ _) (Nat.le_refl _) (by omega))
 clear hb1 HG HW0
 go_wp2_with fail
 with_reducible refine HN.out.mono ?_
 rintro e w2 ⟨g8,rfl,hg8,hr2,hb2⟩
 have HZ2:=aa (HZ1.out.below hb2)
 have HB2:=aa (HB1.out.trans (hb2.mono HB1.out.size))
 have HG8:=aa (show g4<g8/\w.heap.size<=g8 from ⟨Nat.lt_of_lt_of_le HZ1.out.lt hg8,Nat.le_trans HB1.out.size hg8⟩)
 have HN1:=aa (ky hr2 (.inl rfl))
 clear hg8 hr2 hb2 HN HZ1 HB1
 go_upto_region 3 with fail
 go_wp2_with fail
 with_reducible refine HN1.out.mono ?_
 rintro e w3 ⟨rfl,hr3,hg3⟩
 have HZ3:=aa (BoxAt.keep13 HZ2.out hg3 (by have:=HG8.out.1;omega))
 have HB3:=aa (HB2.out.grown hg3 HB2.out.size (fun q e=>by cases e;exact HG8.out.2))
 have HN2:=aa (ky hr3 (.inr rfl))
 clear hr3 hg3 HN1 HZ2
 go_wp2_with fail
 with_reducible refine HN2.out.mono ?_
 rintro e w4 ⟨rfl,hr4,hg4⟩
 have HZ4:=aa (BoxAt.keep13 HZ3.out hg4 (by have:=HG8.out.1;omega))
 have HB4:=aa (HB3.out.grown hg4 HB3.out.size (fun q e=>by cases e;exact HG8.out.2))
 have HN3:=aa (ky hr4 (.inr rfl))
 clear hr4 hg4 HN2 HZ3
 go_wp2_with fail
 with_reducible refine HN3.out.mono ?_
 rintro e w5 ⟨rfl,hr5,hg5⟩
 have HZ5:=aa (BoxAt.keep13 HZ4.out hg5 (by have:=HG8.out.1;omega))
 have HB5:=aa (HB4.out.grown hg5 HB4.out.size (fun q e=>by cases e;exact HG8.out.2))
 have HR5:=aa hr5
 clear hr5 hg5 HN3 HZ4 HB4 HB3 HB2
 go_upto_region 4 with fail
 obtain ⟨W6,hW6⟩:∃W,w5.alloc (.cells #[.int .u64 0, .int .u64 0, .int .u64 0] 218)=W:=⟨_,rfl⟩
 obtain ⟨g9,hg9⟩:∃g,w5.heap.size=g:=⟨_,rfl⟩
 have hb6:Below w5.heap.size w5 W6:=hW6 ▸ (Below.refl _ _).alloc (Nat.le_refl _) _
 have HS6:=aa (show BoxAt W6 g9 #[.int .u64 0, .int .u64 0, .int .u64 0] 218 from hg9 ▸ hW6 ▸ BoxAt.new w5 _ _)
 have HZ6:=aa (HZ5.out.below hb6)
 have HB6:=aa (HB5.out.trans (hb6.mono HB5.out.size))
 have HR6:=aa (HR5.out.below hb6)
 have HEN:=aa (show ∀u,Below W6.heap.size W6 u->Calls Tryz.prog 67 #[.pointer (some ⟨g8,0,none⟩)] u fun e w'=>e = .returned (.int .i64 2)/\u=w' from fun u hu=>by
  have:=n9 (s:=([],2)) (HR6.out.below hu)
  simpa [endS] using this)
 rw [hW6,hg9]
 have cs:=HS6.out.cell
 have cz:=HZ6.out.cell
 have fz:=HZ6.out.free9
 clear hW6 hg9 hb6 HR5 HZ5 HB5 HR6
 first|(go_region_law (first|(go_simp;go_at_call 67;refine (HEN.out _ ((Below.refl _ _).drew)).mono ?_;rintro _ _ ⟨rfl,rfl⟩)))|fail
 all_goals go_wp2
 all_goals
  have HE:=aa (box3 HZ6.out (.int .u64 0) (.int .u64 0) (.int .u64 0))
  have q0:=HE.out.cell 0
  have q1:=HE.out.cell 1
  have q2:=HE.out.cell 2
  simp only [List.getElem?_toArray,List.getElem?_cons_zero,List.getElem?_cons_succ] at q0 q1 q2
  refine bodyPost_ret (v := .tuple #[seV 0 0 0, .bool false]) (by simp [results,Tryz.results211,go_sem,q0,q1,q2,seV]) rfl ?_
  refine ⟨rfl,?_⟩
  exact (HB6.out.grown (lK W6 g4 _ _ _) HB6.out.size (fun q e=>by cases e;rw [HG4.out];exact Nat.le_refl _)).drew

theorem kY {w:World} {L:Lay} {D:Dk} (h:DiskAt w L D) (hc:D.calm) (hw:D.waits=[]) (h2:2<=D.c) (m g k:Nat) (h0:0<m) (hm:m<=1000) (hg:g<=100000) (hk:k<=100000) (hs0:D.kept 0=frameB (bF (2 * m) g k) D.n) (hs1:D.kept 1=frameB (bF (2 * m - 1) g k) D.n) :
  Calls Tryz.prog 141 #[.pointer (some ⟨L.b,0,none⟩)] w fun e w'=>e = .returned (.tuple #[seV (2 * m) g k, .int .i64 0])/\Below w.heap.size w w':=by
 obtain ⟨W0,hW0⟩:∃W,(w.alloc (.cells #[.int .u64 0, .int .u64 0, .int .u64 0] 218)).alloc (.cells #[.int .u64 0, .int .u64 0, .int .u64 0] 218)=W:=⟨_,rfl⟩
 have hb0:Below w.heap.size w W0:=hW0 ▸ ((Below.refl _ _).alloc (Nat.le_refl _) _).alloc (by simp) _
 have HR0:=aa (show BoxAt W0 w.heap.size #[.int .u64 0, .int .u64 0, .int .u64 0] 218 from hW0 ▸ (BoxAt.new w _ _).alloc _)
 have HL0:=aa (show BoxAt W0 (w.heap.size+1) #[.int .u64 0, .int .u64 0, .int .u64 0] 218 from by
  have:=BoxAt.new (w.alloc (.cells #[.int .u64 0, .int .u64 0, .int .u64 0] 218)) #[.int .u64 0, .int .u64 0, .int .u64 0] 218
  rw [hW0] at this
  simpa using this)
 have HB0:=aa hb0
 have HW0:=aa hW0
 obtain ⟨bc,hbc⟩:∃bc,L.b=bc:=⟨_,rfl⟩
 have HG0:=aa (show ∀u,Below w.heap.size w u->Calls Tryz.prog 211 #[.pointer (some ⟨L.b,0,none⟩), .int .i64 0] u fun e w'=>e = .returned (.tuple #[.agg #[.int .u64 ((2 * m:Nat):Int), .int .u64 (g:Int), .int .u64 (k:Int)], .bool true])/\Below u.heap.size u w' from fun u hu=>ic (h.below hu) hc hw 0 (2 * m) g k (by omega) hg hk hs0 (by omega) (by omega))
 have HG1:=aa (show ∀u,Below w.heap.size w u->Calls Tryz.prog 211 #[.pointer (some ⟨L.b,0,none⟩), .int .i64 1] u fun e w'=>e = .returned (.tuple #[.agg #[.int .u64 ((2 * m - 1:Nat):Int), .int .u64 (g:Int), .int .u64 (k:Int)], .bool true])/\Below u.heap.size u w' from fun u hu=>ic (h.below hu) hc hw 1 (2 * m - 1) g k (by omega) hg hk hs1 (by omega) (by omega))
 obtain ⟨t,ht⟩:∃t,2 * m=t:=⟨_,rfl⟩
 obtain ⟨s,hs⟩:∃s,t - 1=s:=⟨_,rfl⟩
 rw [ht] at HG0 HG1
 rw [hs] at HG1
 rw [ht]
 rw [hbc] at HG0 HG1
 rw [hbc]
 have hst:¬(t:Int)<=(s:Int):=by omega
 have ht0:(0:Int)<=(t:Int):=by omega
 clear ht hs h0 hm hs0 hs1 hbc h2
 obtain ⟨gr,hgr⟩:∃g,w.heap.size=g:=⟨_,rfl⟩
 have HGR:=aa hgr
 rw [hgr] at HR0 HL0
 clear hgr hb0 hW0 h hc hw
 go_enter Tryz.func141,Tryz.ntmps141
 go_upto_region 2 with fail
 rw [HW0.out,HGR.out]
 clear HW0
 go_wp2
 go_loopw [5,9] (fun v i wr=>∃cs:Array Value,((i = .int .i64 0/\v = .bool false/\cs = #[.int .u64 0, .int .u64 0, .int .u64 0])∨(i = .int .i64 1/\v = .bool true/\cs = #[.int .u64 (t:Int), .int .u64 (g:Int), .int .u64 (k:Int)])∨(i = .int .i64 2/\v = .bool true/\cs = #[.int .u64 (t:Int), .int .u64 (g:Int), .int .u64 (k:Int)]))/\Hid (BoxAt wr (gr+1) cs 218)/\Hid (BoxAt wr gr #[.int .u64 0, .int .u64 0, .int .u64 0] 218)/\Hid (Below w.heap.size w wr)) (fun _ i _=>2 - (intOf i).toNat)
 case atStart=>exact ⟨_, .inl ⟨rfl,rfl,rfl⟩,HL0,HR0,HB0⟩
 case round =>
  obtain ⟨cs,hcase,HL,HR,HB⟩:=hrel
  rcases hcase with ⟨rfl,rfl,rfl⟩ | ⟨rfl,rfl,rfl⟩ | ⟨rfl,rfl,rfl⟩
  ·have HC:=aa (HG0.out wr HB.out)
   go_upto_region 6 with fail
   go_wp2_with fail
   with_reducible refine HC.out.mono ?_
   rintro _ w1 ⟨rfl,hb1⟩
   obtain ⟨W2,hW2⟩:∃W,w1.alloc (.cells #[.int .u64 (t:Int), .int .u64 (g:Int), .int .u64 (k:Int)] 218)=W:=⟨_,rfl⟩
   obtain ⟨g7,hg7⟩:∃g,w1.heap.size=g:=⟨_,rfl⟩
   have hb2:Below w1.heap.size w1 W2:=hW2 ▸ (Below.refl _ _).alloc (Nat.le_refl _) _
   have HN:=aa (show BoxAt W2 g7 #[.int .u64 (t:Int), .int .u64 (g:Int), .int .u64 (k:Int)] 218 from hg7 ▸ hW2 ▸ BoxAt.new w1 _ _)
   have HL2:=aa ((HL.out.below hb1).below hb2)
   have HR2:=aa ((HR.out.below hb1).below hb2)
   have HB2:=aa ((HB.out.trans (hb1.mono HB.out.size)).trans (hb2.mono (Nat.le_trans HB.out.size hb1.size)))
   have HW2:=aa hW2
   have HG7:=aa hg7
   clear hW2 hg7 hb1 hb2 HC
   go_upto_region 7 with fail
   rw [HW2.out,HG7.out]
   clear HW2
   have cn:=HN.out.cell
   have cl:=HL2.out.cell
   have fl:=HL2.out.free9
   go_wp2
   go_roundw
   case rel=>exact ⟨_, .inr (.inl ⟨rfl,rfl,rfl⟩),aa (box3 HL2.out _ _ _),aa (BoxAt.keep13 HR2.out (lK W2 (gr+1) _ _ _) (by omega)),aa (HB2.out.grown (lK W2 (gr+1) _ _ _) HB2.out.size (fun q e=>by cases e;have:=HGR.out;omega))⟩
   case measure=>simp [intOf]
  ·have HC:=aa (HG1.out wr HB.out)
   go_upto_region 6 with fail
   go_wp2_with fail
   with_reducible refine HC.out.mono ?_
   rintro _ w1 ⟨rfl,hb1⟩
   obtain ⟨W2,hW2⟩:∃W,w1.alloc (.cells #[.int .u64 (s:Int), .int .u64 (g:Int), .int .u64 (k:Int)] 218)=W:=⟨_,rfl⟩
   obtain ⟨g7,hg7⟩:∃g,w1.heap.size=g:=⟨_,rfl⟩
   have hb2:Below w1.heap.size w1 W2:=hW2 ▸ (Below.refl _ _).alloc (Nat.le_refl _) _
   have HN:=aa (show BoxAt W2 g7 #[.int .u64 (s:Int), .int .u64 (g:Int), .int .u64 (k:Int)] 218 from hg7 ▸ hW2 ▸ BoxAt.new w1 _ _)
   have HL2:=aa ((HL.out.below hb1).below hb2)
   have HR2:=aa ((HR.out.below hb1).below hb2)
   have HB2:=aa ((HB.out.trans (hb1.mono HB.out.size)).trans (hb2.mono (Nat.le_trans HB.out.size hb1.size)))
   have HW2:=aa hW2
   have HG7:=aa hg7
   clear hW2 hg7 hb1 hb2 HC
   go_upto_region 7 with fail
   rw [HW2.out,HG7.out]
   clear HW2
   have cn:=HN.out.cell
   have cl:=HL2.out.cell
   go_wp2
   go_roundw
   case rel=>exact ⟨_, .inr (.inr ⟨rfl,rfl,rfl⟩),HL2,HR2,HB2⟩
   case measure=>simp [intOf]
  ·have cl:=HL.out.cell
   have cr:=HR.out.cell
   have fr:=HR.out.free9
   go_wp2
   have HE:=aa (box3 HR.out (.int .u64 (t:Int)) (.int .u64 (g:Int)) (.int .u64 (k:Int)))
   have q0:=HE.out.cell 0
   have q1:=HE.out.cell 1
   have q2:=HE.out.cell 2
   simp only [List.getElem?_toArray,List.getElem?_cons_zero,List.getElem?_cons_succ] at q0 q1 q2
   refine bodyPost_ret (v := .tuple #[seV t g k, .int .i64 0]) (by simp [results,Tryz.results141,go_sem,q0,q1,q2,seV]) rfl ?_
   exact ⟨rfl,HB.out.grown (lK wr gr _ _ _) HB.out.size (fun q e=>by cases e;rw [HGR.out];exact Nat.le_refl _)⟩

theorem nB {w:World} {L:Lay} {D:Dk} (h:DiskAt w L D) (hc:D.calm) (hw:D.waits=[]) (h2:2<=D.c) (hs0:D.kept 0=List.replicate D.n 0) (hs1:D.kept 1=List.replicate D.n 0) :
  Calls Tryz.prog 141 #[.pointer (some ⟨L.b,0,none⟩)] w fun e w'=>e = .returned (.tuple #[seV 0 0 0, .int .i64 0])/\Below w.heap.size w w':=by
 obtain ⟨W0,hW0⟩:∃W,(w.alloc (.cells #[.int .u64 0, .int .u64 0, .int .u64 0] 218)).alloc (.cells #[.int .u64 0, .int .u64 0, .int .u64 0] 218)=W:=⟨_,rfl⟩
 have hb0:Below w.heap.size w W0:=hW0 ▸ ((Below.refl _ _).alloc (Nat.le_refl _) _).alloc (by simp) _
 have HR0:=aa (show BoxAt W0 w.heap.size #[.int .u64 0, .int .u64 0, .int .u64 0] 218 from hW0 ▸ (BoxAt.new w _ _).alloc _)
 have HL0:=aa (show BoxAt W0 (w.heap.size+1) #[.int .u64 0, .int .u64 0, .int .u64 0] 218 from by
  have:=BoxAt.new (w.alloc (.cells #[.int .u64 0, .int .u64 0, .int .u64 0] 218)) #[.int .u64 0, .int .u64 0, .int .u64 0] 218
  rw [hW0] at this
  simpa using this)
 have HB0:=aa hb0
 have HW0:=aa hW0
 obtain ⟨bc,hbc⟩:∃bc,L.b=bc:=⟨_,rfl⟩
 have HG0:=aa (show ∀u,Below w.heap.size w u->Calls Tryz.prog 211 #[.pointer (some ⟨L.b,0,none⟩), .int .i64 0] u fun e w'=>e = .returned (.tuple #[.agg #[.int .u64 0, .int .u64 0, .int .u64 0], .bool false])/\Below u.heap.size u w' from fun u hu=>jf (h.below hu) hc hw 0 hs0 (by omega))
 have HG1:=aa (show ∀u,Below w.heap.size w u->Calls Tryz.prog 211 #[.pointer (some ⟨L.b,0,none⟩), .int .i64 1] u fun e w'=>e = .returned (.tuple #[.agg #[.int .u64 0, .int .u64 0, .int .u64 0], .bool false])/\Below u.heap.size u w' from fun u hu=>jf (h.below hu) hc hw 1 hs1 (by omega))
 have hz:secs D.kept 0 2=List.replicate (2 * D.n) 0:=by rw [secs_succ,secs_one,hs0,hs1,List.replicate_append_replicate];congr 1;omega
 have HRD:=aa (show ∀u,Below w.heap.size w u->Calls Tryz.prog 213 #[.pointer (some ⟨L.b,0,none⟩), .int .i64 0, .int .i64 2] u (Puts u (List.replicate (2 * D.n) 0)) from fun u hu=>by
  have:=jF (h.below hu) hc hw 0 2 (by omega)
  rwa [hz] at this)
 have hn2:=h.ok.n2
 rw [hbc] at HG0 HG1 HRD
 rw [hbc]
 clear hbc h2 hs0 hs1 hz
 obtain ⟨gr,hgr⟩:∃g,w.heap.size=g:=⟨_,rfl⟩
 have HGR:=aa hgr
 rw [hgr] at HR0 HL0
 clear hgr hb0 hW0 h hc hw
 go_enter Tryz.func141,Tryz.ntmps141
 go_upto_region 2 with fail
 rw [HW0.out,HGR.out]
 clear HW0
 go_wp2
 go_loopw [5,9] (fun v i wr=>(i = .int .i64 0∨i = .int .i64 1∨i = .int .i64 2)/\v = .bool false/\Hid (BoxAt wr (gr+1) #[.int .u64 0, .int .u64 0, .int .u64 0] 218)/\Hid (BoxAt wr gr #[.int .u64 0, .int .u64 0, .int .u64 0] 218)/\Hid (Below w.heap.size w wr)) (fun _ i _=>2 - (intOf i).toNat)
 case atStart=>exact ⟨.inl rfl,rfl,HL0,HR0,HB0⟩
 case round =>
  obtain ⟨hcase,rfl,HL,HR,HB⟩:=hrel
  rcases hcase with rfl|rfl|rfl
  ·have HC:=aa (HG0.out wr HB.out)
   go_upto_region 6 with fail
   go_wp2_with fail
   with_reducible refine HC.out.mono ?_
   rintro _ w1 ⟨rfl,hb1⟩
   have hb2:Below w1.heap.size w1 (w1.alloc (.cells #[.int .u64 0, .int .u64 0, .int .u64 0] 218)):=(Below.refl _ _).alloc (Nat.le_refl _) _
   have HL2:=aa ((HL.out.below hb1).below hb2)
   have HR2:=aa ((HR.out.below hb1).below hb2)
   have HB2:=aa ((HB.out.trans (hb1.mono HB.out.size)).trans (hb2.mono (Nat.le_trans HB.out.size hb1.size)))
   clear hb1 hb2 HC
   go_wp2
   go_roundw
   case rel=>exact ⟨.inr (.inl rfl),rfl,HL2,HR2,HB2⟩
   case measure=>simp [intOf]
  ·have HC:=aa (HG1.out wr HB.out)
   go_upto_region 6 with fail
   go_wp2_with fail
   with_reducible refine HC.out.mono ?_
   rintro _ w1 ⟨rfl,hb1⟩
   have hb2:Below w1.heap.size w1 (w1.alloc (.cells #[.int .u64 0, .int .u64 0, .int .u64 0] 218)):=(Below.refl _ _).alloc (Nat.le_refl _) _
   have HL2:=aa ((HL.out.below hb1).below hb2)
   have HR2:=aa ((HR.out.below hb1).below hb2)
   have HB2:=aa ((HB.out.trans (hb1.mono HB.out.size)).trans (hb2.mono (Nat.le_trans HB.out.size hb1.size)))
   clear hb1 hb2 HC
   go_wp2
   go_roundw
   case rel=>exact ⟨.inr (.inr rfl),rfl,HL2,HR2,HB2⟩
   case measure=>simp [intOf]
  ·have HC:=aa (HRD.out wr HB.out)
   unfold Puts at HC
   rw [lI] at HC
   obtain ⟨z,hz⟩:∃z,2 * D.n=z:=⟨_,rfl⟩
   rw [hz] at HC
   have hz2:z<=1024:=by omega
   clear hz
   go_wp2_with (first|(go_at_call 213;with_reducible refine HC.out.mono ?_;rintro _ w1 ⟨A1,c1,rfl,hown1,hb1⟩;(have HL1:=aa (HL.out.below hb1));(have HR1:=aa (HR.out.below hb1));(have HB1:=aa (HB.out.trans (hb1.mono HB.out.size)));(have HIZ:=aa (tS z w1.heap.size A1 c1 w1 (by omega) (Sees.own hown1) (Nat.le_refl _)));clear hown1 hb1)|(go_at_call 212;with_reducible refine HIZ.out.mono ?_;rintro _ w2 ⟨rfl,hb2⟩;(have HL2:=aa (HL1.out.below hb2));(have HR2:=aa (HR1.out.below hb2));(have HB2:=aa (HB1.out.trans (hb2.mono HB1.out.size)));clear hb2;(have cl:=HL2.out.cell);(have cr:=HR2.out.cell);(have fr:=HR2.out.free9)))
   have HE:=aa (box3 HR2.out (.int .u64 0) (.int .u64 0) (.int .u64 0))
   have q0:=HE.out.cell 0
   have q1:=HE.out.cell 1
   have q2:=HE.out.cell 2
   simp only [List.getElem?_toArray,List.getElem?_cons_zero,List.getElem?_cons_succ] at q0 q1 q2
   refine bodyPost_ret (v := .tuple #[seV 0 0 0, .int .i64 0]) (by simp [results,Tryz.results141,go_sem,q0,q1,q2,seV]) rfl ?_
   exact ⟨rfl,HB2.out.grown (lK w2 gr _ _ _) HB2.out.size (fun q e=>by cases e;rw [HGR.out];exact Nat.le_refl _)⟩

def DoesM (L:Lay) (w w':World) (D':Dk):Prop:=∃L',L'.b=L.b/\L'.m=L.m/\DiskAt w' L' D'/\Chg L.has w w'/\∀g,L'.has g->L.has g∨w.heap.size<=g
section
variable {w : World} {L : Lay} {D : Dk}
theorem DiskAt.append13 {w1 w2 w3:World} (h:DiskAt w L D) {i g cp:Nat} {l:List UInt8} {A':Option Addr} {c':Nat} (hi:i<D.c) (hl:l.length=D.n) (hcp:l.length<=cp) (hn:D.waits.length+1<=100000)
  (hg:w.heap.size<=g) (hb:Below w.heap.size w w1) (hr:RowIs w1 g l) (hrow:w2.ownsRow 0 299 2 (.slice A' (D.waits.length+1) c') (D.waits.length+1) (wcs L.G D.waits++[.int .i64 (i:Int), .slice (some ⟨g,0,none⟩) l.length cp]))
  (hg2:w1.grownBy w2 (Value.slice L.A D.waits.length L.cp).ownBlock) (hloc:(Value.slice A' (D.waits.length+1) c').ownBlock=(Value.slice L.A D.waits.length L.cp).ownBlock∨∃b,w1.heap.size<=b/\(Value.slice A' (D.waits.length+1) c').ownBlock=some b)
  (h3:w3=w2.setCell ⟨L.b,3,none⟩ (.slice A' (D.waits.length+1) c')):DoesM L w w3 { D with waits:=D.waits++[(i,l)] }:=by
 have hbox:=h.box
 unfold BoxAt at hbox
 have h1:DiskAt w1 L D:=h.below hb
 have hbx1:w1.heap[L.b]?=some (.cells (dcs L D) 135 (0,0)):=(hb.block _ h.box.lt).trans hbox
 have hA:∀g,(Value.slice L.A D.waits.length L.cp).ownBlock=some g->∃o s,L.A=some ⟨g,o,s⟩:=by
  intro g' e
  cases hLA:L.A with
  | none=>rw [hLA] at e;cases e
  | some ad =>
   rw [hLA] at e
   injection e with e
   obtain ⟨b,o,s⟩:=ad
   simp only at e
   subst e
   exact ⟨o,s,rfl⟩
 have hrw:∀g',(Value.slice L.A D.waits.length L.cp).ownBlock=some g'->∃cur,w1.heap[g']?=some (.cells cur 299 (0,0)):=fun g' e=>by
  obtain ⟨o,s,e⟩:=hA g' e
  exact h1.kA e
 have hlen:(dcs L D).size=8:=rfl
 have hsz2:=hg2.size
 have hb2:w2.heap[L.b]?=some (.cells (dcs L D) 135 (0,0)):=(hg2.block _ (by have:=h.box.lt;have:=hb.size;omega) (fun e=>by
  obtain ⟨cur,hx⟩:=hrw _ e.symm
  exact aN hbx1 hx (by decide) rfl)).trans hbx1
 have hother:∀k ob,w1.heap[k]?=some ob->k≠L.b->(∀cur,ob ≠ .cells cur 299 (0,0))->w3.heap[k]?=some ob:=by
  intro k ob hk hne hnw
  rw [h3,Below.heap_setCell _ _ _ _ hne]
  refine (hg2.block k (Array.getElem?_eq_some_iff.1 hk).1 (fun e => ?_)).trans hk
  obtain ⟨cur,hx⟩:=hrw _ e.symm
  rw [hk] at hx
  injection hx with hx
  exact hnw _ hx
 have h8:∀(k:Nat) (cur:Array Value),w1.heap[k]?=some (.cells cur 5 (0,0))->w3.heap[k]?=w1.heap[k]?:=fun k cur hk=>by
  rw [hother k _ hk (fun e=>aN hk hbx1 (by decide) e) (fun c e=>by injection e with _ e;exact absurd e (by decide)),hk]
 have hm3:w3.heap[L.m]?=w1.heap[L.m]?:=by
  obtain ⟨es,k,em⟩:=h1.map.is
  rw [hother L.m _ em (fun e=>cj hbx1 em e.symm) (fun c e=>by cases e),em]
 have hKG:∀j g',L.K j=some g'->g'≠g:=fun j g' e=>by
  have:=(h.keep j g' e).2.lt
  omega
 have hlt1:∀k,L.has k->k<w1.heap.size:=fun k hk=>h1.lt hk
 have hA3:∀k o s,A'=some ⟨k,o,s⟩->k=L.b->False:=by
  intro k o s e ek
  subst ek
  rcases hrow.2 with ⟨_,h0⟩ | ⟨g',cap,cur,hv,_,hx,_⟩
  ·omega
  ·injection hv with hv
   rw [e] at hv
   injection hv with hv
   injection hv with hv
   subst hv
   exact aN hb2 hx (by decide) rfl
 refine ⟨{ L with A:=A',cp:=c',G:=L.G++[(g,cp)] },rfl,rfl,?_,?_,?_⟩
 ·exact {
   box:=by
    rw [h3]
    have:=aU 3 (.slice A' (D.waits.length+1) c') hb2
    show _=_
    rw [this]
    congr 2
    simp [dcs]
   map:=h1.map.stay hm3
   row:=by
    rw [l7 _ _ _ _ h.len,List.length_append,List.length_cons,List.length_nil]
    refine ca hrow fun k o s e => ?_
    rw [h3]
    exact Below.heap_setCell _ _ _ _ (fun ek=>hA3 k o s e ek)
   len:=by simp [h.len]
   keep:=fun j g' e=>by
    obtain ⟨cur,hx⟩:=h1.kK e
    exact ⟨(h.keep j g' e).1,((h1.keep j g' e).2).stay12 (h8 g' cur hx)⟩
   zero:=h.zero
   inj:=h.inj
   wt:=fun j p q e1 e2=>by
    simp only at e1 e2
    by_cases hj:j<D.waits.length
    ·rw [List.getElem?_append_left (by rw [h.len];exact hj)] at e1
     rw [List.getElem?_append_left hj] at e2
     obtain ⟨cur,hx⟩:=h1.kG (List.mem_of_getElem? e1)
     exact ⟨(h1.wt j p q e1 e2).1.stay12 (h8 _ cur hx),(h1.wt j p q e1 e2).2⟩
    ·rw [List.getElem?_append_right (by omega)] at e2
     rw [List.getElem?_append_right (by rw [h.len];omega),h.len] at e1
     have hj0:j - D.waits.length=0:=by
      rcases Nat.eq_zero_or_pos (j - D.waits.length) with h0|h0
      ·exact h0
      ·rw [List.getElem?_eq_none (by simp;omega)] at e2
       cases e2
     rw [hj0] at e1 e2
     simp at e1 e2
     subst e1 e2
     obtain ⟨cur,hx,hc⟩:=hr
     exact ⟨RowIs.stay12 ⟨cur,hx,hc⟩ (h8 g cur hx),hcp,fun j' e=>hKG j' _ e rfl⟩
   ok:=⟨h.ok.n1,h.ok.n2,h.ok.c1,h.ok.c2,h.ok.k,fun q hq=>by
    rcases List.mem_append.1 hq with hq|hq
    ·exact h.ok.ws q hq
    ·simp at hq
     subst hq
     exact ⟨hi,hl⟩,by simp;omega,h.ok.l1,h.ok.l2⟩ }
 ·have c1:Chg L.has w w1:=Chg.of_below hb
  have c2:Chg L.has w1 w2:=⟨hg2.os,hg2.tape,hg2.output,hg2.size,fun k hk hn=>hg2.block k hk fun e=>hn (by
   obtain ⟨o,s,e⟩:=hA k e.symm
   exact .inr (.inr (.inl ⟨o,s,e⟩)))⟩
  have c3:Chg L.has w2 w3:=by
   rw [h3]
   exact Chg.of_grown (aE w2 L.b 3 _) (.inl (.inl rfl))
  exact (c1.trans c2 fun _ hg _=>hg).trans c3 fun _ hg _=>hg
 ·intro k hk
  have hs1:=hb.size
  rcases hk with rfl|rfl | ⟨o,s,e⟩ | ⟨j,e⟩ | ⟨p,hp,rfl⟩
  ·exact .inl (.inl rfl)
  ·exact .inl (.inr (.inl rfl))
  ·simp only at e
   rcases hloc with hq | ⟨b,hb',hq⟩
   ·rw [e] at hq
    obtain ⟨o',s',e'⟩:=hA k hq.symm
    exact .inl (.inr (.inr (.inl ⟨o',s',e'⟩)))
   ·rw [e] at hq
    injection hq with hq
    simp only at hq
    exact .inr (by omega)
  ·exact .inl (.inr (.inr (.inr (.inl ⟨j,e⟩))))
  ·rcases List.mem_append.1 hp with hp|hp
   ·exact .inl (.inr (.inr (.inr (.inr ⟨p,hp,rfl⟩))))
   ·simp at hp
    subst hp
    exact .inr hg

theorem xE (h:DiskAt w L D) (hc:D.calm):Calls Tryz.prog 340 #[.pointer (some ⟨L.b,0,none⟩)] w fun e w'=>e = .returned (.int .i64 0)/\w=w':=by
 have c6:w.cell? ⟨L.b,6,none⟩=some (.bool false):=by rw [h.c6,hc.2]
 clear h hc
 go_enter Tryz.func340,Tryz.ntmps340
 go_wp2
 go_ret
 exact ⟨rfl,rfl⟩
theorem DoesM.calls {w1:World} {D':Dk} (h:DoesM L w w1 D') (hc:D'.calm):Calls Tryz.prog 340 #[.pointer (some ⟨L.b,0,none⟩)] w1 fun e w'=>e = .returned (.int .i64 0)/\w1=w':=by
 obtain ⟨L',eb,_,hd,_⟩:=h
 have:=xE hd hc
 rwa [eb] at this

theorem tT (h:DiskAt w L D) (hc:D.calm) (k:Nat) (hk:k<D.c) (l:List UInt8) (B:Nat) (A:Option Addr) (m c:Nat) (hs:Sees w B A (bv l)) (hm:l.length=m) (hl:l.length=D.n) (hB:B<=w.heap.size) (hn:D.waits.length+1<=100000) :
  Calls Tryz.prog 324 #[.pointer (some ⟨L.b,0,none⟩), .int .i64 (k:Int), .slice A m c] w fun e w'=>e = .returned (.int .i64 0)/\DoesM L w w' { D with waits:=D.waits++[(k,l)] }:=by
 have H:=aa h
 have c0:=h.c0
 have c3:=h.c3
 have HCA:=aa hc
 have HR:=aa (show Calls Tryz.prog 148 #[.pointer (some ⟨L.b,0,none⟩), .int .i64 (k:Int)] w fun e w'=>e = .returned (.int .i64 0)/\w=w' from by
  have:=dC h (k:Int)
  rwa [nu hc.1 (by omega) (by omega)] at this)
 have HK:=aa hk
 have HL:=aa hl
 have hmn:m=D.n:=by omega
 subst hmn
 have n1:=h.ok.n1
 have n2:=h.ok.n2
 have f3:=h.free 3
 have HC:=aa (lF l B A D.n c w.drew hs hl (by omega) hB (by omega))
 have HN:=aa hn
 have hwn:D.waits.length+1<=1000000:=by omega
 clear h hc hk hl hs hm hn
 go_enter Tryz.func324,Tryz.ntmps324
 go_wp2_with (go_at_call 148;refine HR.out.mono ?_;rintro e w1 ⟨rfl,rfl⟩)
 go_region_law (first|(go_simp;go_at_call 339;refine HC.out.mono ?_;rintro en w1 ⟨g,cp,rfl,hg,hr1,hcp,hb0⟩;(have hb1:=Below.of_drew hb0);(have HC3:w1.cell? ⟨L.b,3,none⟩=some (.slice L.A D.waits.length L.cp):=(hb1.cell (p:=⟨L.b,3,none⟩) H.out.box.lt).trans c3);(have HC4:(w1.alloc (.cells #[.int .i64 (k:Int), .slice (some ⟨g,0,none⟩) D.n cp] 299)).cell? ⟨L.b,3,none⟩=some (.slice L.A D.waits.length L.cp):=(World.cell?_of_block (Below.heap_alloc w1 _ _ (Nat.lt_of_lt_of_le H.out.box.lt hb1.size))).trans HC3);(have HF3:w1.frozen? ⟨L.b,3,none⟩=false:=(hb1.frozen (p:=⟨L.b,3,none⟩) H.out.box.lt).trans f3);(obtain ⟨A',c',w2,hap,hown2,hg2,hloc2,hC,hF⟩:=jd H.out (by omega) hb1 k D.n g cp);(have HG:=aa hg);(have HR1:=aa hr1);(have HCP:=aa hcp);(have HB1:=aa hb1);(have HO2:=aa hown2);(have HG2:=aa hg2);(have HL2:=aa hloc2);clear hg hr1 hcp hb0 hb1 hown2 hg2 hloc2)|(refine dX (by rfl) _ _ 133 rfl _ _ (by rfl) (by rfl) hap ?_))
 all_goals
  have HD:=aa (H.out.append13 HK.out HL.out (by rw [HL.out];exact HCP.out) HN.out HG.out HB1.out HR1.out (by rw [HL.out];exact HO2.out) HG2.out HL2.out rfl)
  clear HC hap HO2 HG2 HL2 HC3 HC4 HF3 HR hC hF
  go_wp2_with (refine (HD.out.calls (show ({ D with waits:=D.waits++[(k,l)] }:Dk).calm from HCA.out)).mono ?_;rintro en w4 ⟨rfl,rfl⟩)
  go_ret
  exact ⟨rfl,HD.out⟩
end
theorem CJ (D:Dk) (a:Nat) (F:List UInt8) (k:Nat):{ dF D a F k with waits:=(dF D a F k).waits++[(a+k,cP F D.n k)] }=dF D a F (k+1):=by
 unfold dF
 simp [List.range_succ]
end Go.Proofs.YtnkjdijbfnmnhaaGreat
