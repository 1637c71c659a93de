/-
  Texts of this claim put together: Bal2, Bal3, Bal4.
-/
import Derived.Test.YtnkjdijbfnmnhaaGreatJ06
import Derived.Test.YtnkjdijbfnmnhaaGreatJ21

namespace Go.Proofs.YtnkjdijbfnmnhaaGreat
open Go.RowKit

theorem yW (w:World):Calls Tryz.prog 201 #[.agg #[.int .u64 0, .int .u8 0, .int .u32 0]] w fun e w'=>e = .returned (.bool true)/\Below w.heap.size w w':=by
 go_enter Tryz.func201,Tryz.ntmps201
 go_wp2
 go_ret
 exact ⟨rfl,(Below.refl _ _).alloc (Nat.le_refl _) _⟩
theorem Bf (c n l:Nat) (h:¬(c=0/\n=0/\l=0)) (w:World):Calls Tryz.prog 201 #[.agg #[.int .u64 c, .int .u8 n, .int .u32 l]] w fun e w'=>e = .returned (.bool false)/\Below w.heap.size w w':=by
 have H:=aa h
 clear h
 go_enter Tryz.func201,Tryz.ntmps201
 go_wp2
 ·exact absurd ⟨‹c=0›, ‹n=0›, ‹l=0›⟩ H.out
 all_goals
  go_ret
  exact ⟨rfl,(Below.refl _ _).alloc (Nat.le_refl _) _⟩


def balB (c n l:Nat):List UInt8:=numB c++(numB n++numB l)
theorem eI {c n l:Nat} (hc:c<18446744073709551616) (hn:n<=255) (hl:l<=4294967295):(balB c n l).length<=30:=by
 have h1:=av c hc
 have h2:=av n (by omega)
 have h3:=av l (by omega)
 simp [balB]
 omega
theorem Ei (c n l:Nat):3<=(balB c n l).length:=by
 have h1:=lS c
 have h2:=lS n
 have h3:=lS l
 simp [balB]
 omega

theorem lq (p r:List UInt8) (c n l B:Nat) (A:Option Addr) (k cap:Nat) (w:World) (hk:p.length=k) (hres:p++balB c n l=r) (hc:c<18446744073709551616) (hn:n<=255) (hl:l<=4294967295)
  (hs:Sees w B A (bv p)) (hB:B<=w.heap.size) (hp:p.length<=70368744170000) :
  Calls Tryz.prog 119 #[.slice A k cap, .agg #[.int .u64 c, .int .u8 n, .int .u32 l]] w (Puts w r):=by
 obtain ⟨r1,h1⟩:∃x,p++numB c=x:=⟨_,rfl⟩
 obtain ⟨r2,h2⟩:∃x,r1++numB n=x:=⟨_,rfl⟩
 have h3:r2++numB l=r:=by rw [<- h2,<- h1,<- hres,balB];simp
 have hl1:=av c hc
 have hl2:=av n (by omega)
 have l1:r1.length<=70368744170010:=by rw [<- h1,List.length_append];omega
 have l2:r2.length<=70368744170020:=by rw [<- h2,List.length_append];omega
 have HK:=aa hk
 have H1:=aa h1
 have H2:=aa h2
 have H3:=aa h3
 have HC:=aa hc
 clear hk h1 h2 h3 hres hc hl1 hl2
 go_enter Tryz.func119,Tryz.ntmps119
 go_wp2_with fail
 refine (aK p r1 c B A k cap _ HK.out H1.out HC.out (hs.below ((Below.refl _ _).alloc hB _)) (by simp;omega) (by omega)).mono ?_
 rintro e w1 ⟨A1,c1,rfl,hown1,hb1⟩
 have hz1:w.heap.size+1<=w1.heap.size:=by have:=hb1.size;simp at this;omega
 have e1:w1.cell? ⟨w.heap.size,1,none⟩=some (.int .u8 n):=by rw [hb1.cell (by simp)];simp [go_sem]
 have e2:w1.cell? ⟨w.heap.size,2,none⟩=some (.int .u32 l):=by rw [hb1.cell (by simp)];simp [go_sem]
 have E2:=aa e2
 clear e2
 go_wp2_with fail
 refine (aK r1 r2 n w1.heap.size A1 _ c1 w1 rfl H2.out (by omega) (Sees.own hown1) (Nat.le_refl _) (by omega)).mono ?_
 rintro e w2 ⟨A2,c2,rfl,hown2,hb2⟩
 have hz2:=hb2.size
 clear e1
 have e2:w2.cell? ⟨w.heap.size,2,none⟩=some (.int .u32 l):=(hb2.cell (by simp;omega)).trans E2.out
 go_wp2_with fail
 refine (aK r2 r l w2.heap.size A2 _ c2 w2 rfl H3.out (by omega) (Sees.own hown2) (Nat.le_refl _) (by omega)).mono ?_
 rintro e w3 ⟨A3,c3,rfl,hown3,hb3⟩
 go_wp2
 go_ret
 exact ⟨A3,c3,rfl,az hown3 (by omega),((Below.refl _ _).alloc (Nat.le_refl _) _).trans ((hb1.trans ((hb2.trans (hb3.mono hz2)).mono hb1.size)).mono (by simp))⟩

def ix (l:List UInt8):((Nat × Nat × Nat) × List UInt8) ⊕ Int :=
 match bq 18446744073709551615 l with
 | .inr er => .inr er
 | .inl (c,t) =>
  match bq 255 t with
  | .inr er => .inr er
  | .inl (n,u) =>
   match bq 4294967295 u with
   | .inr er => .inr er
   | .inl (m,v) => .inl ((c,n,m),v)
theorem vB {c n l:Nat} (t:List UInt8) (hc:c<18446744073709551616) (hn:n<=255) (hl:l<=4294967295):ix (balB c n l++t) = .inl ((c,n,l),t):=by
 rw [ix,balB,List.append_assoc,cW c _ _ hc (by omega)]
 simp only
 rw [List.append_assoc,cW n _ _ (by omega) hn]
 simp only
 rw [cW l _ _ (by omega) hl]
theorem Bg {c n l k:Nat} (hc:c<18446744073709551616) (hn:n<=255) (hl:l<=4294967295) (hk:k<(balB c n l).length):ix ((balB c n l).take k) = .inr 2:=by
 rw [ix,balB,List.take_append]
 by_cases h1:k<(numB c).length
 ·rw [Nat.sub_eq_zero_of_le (by omega),List.take_zero,List.append_nil,dM c k _ hc h1]
 ·rw [List.take_of_length_le (by omega),cW c _ _ hc (by omega)]
  simp only
  rw [List.take_append]
  by_cases h2:k - (numB c).length<(numB n).length
  ·rw [Nat.sub_eq_zero_of_le (m:=(numB n).length) (by omega),List.take_zero,List.append_nil,dM n _ _ (by omega) h2]
  ·rw [List.take_of_length_le (l:=numB n) (by omega),cW n _ _ (by omega) hn]
   simp only
   rw [balB,List.length_append,List.length_append] at hk
   rw [dM l _ _ (by omega) (by omega)]
theorem j4 {most:Nat} {l:List UInt8} {er:Int} (h:bq most l = .inr er):er=2∨er=3∨er=6:=by
 rw [bq] at h
 rcases ht:takeN 0 0 l with ⟨n,t⟩|e
 ·rw [ht] at h
  simp only at h
  split at h
  ·injection h with h
   omega
  ·cases h
 ·rw [ht] at h
  injection h with h
  rcases gF l 0 0 ht with rfl|rfl <;> omega
theorem gt {most n:Nat} {l t:List UInt8} (h:bq most l = .inl (n,t)):t.length<l.length/\n<=most:=by
 rw [bq] at h
 rcases ht:takeN 0 0 l with ⟨x,u⟩|e
 ·rw [ht] at h
  simp only at h
  split at h
  ·cases h
  ·injection h with h
   injection h with h1 h2
   subst h1 h2
   exact ⟨d7 l 0 0 ht,by omega⟩
 ·rw [ht] at h
  cases h

theorem pV {g:Nat} {l:List UInt8} {w:World} (h:Rdr w g l 0):Calls Tryz.prog 204 #[.pointer (some ⟨g,0,none⟩)] w fun e w'=>e = .returned (.bool false)/\w=w':=by
 by_cases hl:l=[]
 ·go_enter Tryz.func204,Tryz.ntmps204
  go_wp2_with (refine (fH h 0 (by rw [if_pos rfl,if_pos hl])).mono ?_;rintro e w1 ⟨rfl,rfl⟩)
  go_ret
  exact ⟨rfl,rfl⟩
 ·go_enter Tryz.func204,Tryz.ntmps204
  go_wp2_with (refine (fH h 4 (by rw [if_pos rfl,if_neg hl])).mono ?_;rintro e w1 ⟨rfl,rfl⟩)
  go_ret
  exact ⟨rfl,rfl⟩
theorem iy {g:Nat} {l:List UInt8} {er:Int} {w:World} (h:Rdr w g l er) (h0:er≠0) (h4:er≠4):Calls Tryz.prog 204 #[.pointer (some ⟨g,0,none⟩)] w fun e w'=>e = .returned (.bool true)/\w=w':=by
 have b0:(er != 0)=true:=by rw [bne_iff_ne];exact h0
 have b4:(er != 4)=true:=by rw [bne_iff_ne];exact h4
 have H:=aa (show er=if er=0 then (if l=[] then 0 else 4) else er by rw [if_neg h0])
 clear h0 h4
 go_enter Tryz.func204,Tryz.ntmps204
 go_wp2_with (refine (fH h er H.out).mono ?_;rintro e w1 ⟨rfl,rfl⟩)
 go_ret
 exact ⟨rfl,rfl⟩

def Dp (w:World) (g:Nat) (r:((Nat × Nat × Nat) × List UInt8) ⊕ Int) (e:Ending) (w':World):Prop :=
 match r with
 | .inl ((c,n,l),t)=>eW w g (.agg #[.int .u64 c, .int .u8 n, .int .u32 l]) t 0 e w'
 | .inr er=>eW w g (.agg #[.int .u64 0, .int .u8 0, .int .u32 0]) [] er e w'

theorem Rdr.ne {w:World} {g:Nat} {l:List UInt8} {er:Int} (h:Rdr w g l er):g≠w.heap.size:=Nat.ne_of_lt h.lt
theorem Rdr.alloc {w:World} {g:Nat} {l:List UInt8} {er:Int} (h:Rdr w g l er) (o:Obj):Rdr (w.alloc o) g l er:=h.below ((Below.refl _ _).alloc (Nat.le_refl _) _)
theorem cN {w w':World} {g b:Nat} {cs:Array Value} {t:TypeId} (hg:w.grownBy w' (some g)) (hb:w.heap[b]?=some (.cells cs t (0,0))) (hne:g≠b):w'.heap[b]?=some (.cells cs t (0,0)) :=
 (hg.block b (Array.getElem?_eq_some_iff.1 hb).1 (fun e=>by injection e with e;exact hne e.symm)).trans hb

theorem Rdr.far {w:World} {g b i:Nat} {v:Value} {l:List UInt8} {er:Int} (h:Rdr w g l er) (hlt:g<b):Rdr (w.setCell ⟨b,i,none⟩ v) g l er:=by
 obtain ⟨A,c,hg,hs,hc⟩:=h
 exact ⟨A,c,(Below.heap_setCell w ⟨b,i,none⟩ v g (Nat.ne_of_lt hlt)).trans hg,hs.keep fun p hp=>World.cell?_of_block (Below.heap_setCell w ⟨b,i,none⟩ v p.block (by simp;omega)),hc⟩
theorem bM {w w':World} {g b i:Nat} {v:Value} (h:w.grownBy w' (some g)) (hb:w.heap.size<=b):w.grownBy (w'.setCell ⟨b,i,none⟩ v) (some g) :=
 ⟨h.os,h.tape,h.output,by simpa [World.setCell] using h.size,fun k hk hne=>(Below.heap_setCell w' ⟨b,i,none⟩ v k (by simp;omega)).trans (h.block k hk hne)⟩
theorem eJ {w w':World} {g:Nat} {o:Obj} (h:(w.alloc o).grownBy w' (some g)):w.grownBy w' (some g):=(World.grownBy_alloc w o (some g)).trans h

theorem mu {g:Nat} {l:List UInt8} {w:World} (h:Rdr w g l 0) (hl:l.length<=281474976710656):Calls Tryz.prog 135 #[.pointer (some ⟨g,0,none⟩), .int .u64 18446744073709551615] w (Takes w g (bq 18446744073709551615 l)):=gG 18446744073709551615 h hl
theorem vC {g:Nat} {l:List UInt8} {w:World} (h:Rdr w g l 0) (hl:l.length<=281474976710656):Calls Tryz.prog 135 #[.pointer (some ⟨g,0,none⟩), .int .u64 255] w (Takes w g (bq 255 l)):=gG 255 h hl
theorem vD {g:Nat} {l:List UInt8} {w:World} (h:Rdr w g l 0) (hl:l.length<=281474976710656):Calls Tryz.prog 135 #[.pointer (some ⟨g,0,none⟩), .int .u64 4294967295] w (Takes w g (bq 4294967295 l)):=gG 4294967295 h hl

set_option maxRecDepth 100000 in
theorem yX {g:Nat} {l:List UInt8} {w:World} (h:Rdr w g l 0) (hl:l.length<=281474976710656):Calls Tryz.prog 133 #[.pointer (some ⟨g,0,none⟩)] w (Dp w g (ix l)):=by
 have hne:=h.ne
 have LT:=aa h.lt
 have h0:=h.alloc (.cells #[.int .u64 0, .int .u8 0, .int .u32 0] 49)
 have hnew:=heap_alloc_new w (.cells #[.int .u64 0, .int .u8 0, .int .u32 0] 49)
 have HN:=aa hnew
 have NE:=aa hne
 clear h hnew hne
 rcases ht:bq 18446744073709551615 l with ⟨c,t⟩|er
 ·obtain ⟨hlt,hc⟩:=gt ht
  rcases hu:bq 255 t with ⟨n,u⟩|er
  ·obtain ⟨hlu,hn⟩:=gt hu
   rcases hv:bq 4294967295 u with ⟨m,v⟩|er
   ·obtain ⟨hlv,hm⟩:=gt hv
    have hr:ix l = .inl ((c,n,m),v):=by simp [ix,ht,hu,hv]
    rw [hr]
    have HT:=aa ht
    have HU:=aa hu
    have HV:=aa hv
    have HC:=aa hc
    clear hr ht hu hv hc
    go_enter Tryz.func133,Tryz.ntmps133
    go_wp2_with fail
    refine (mu h0 hl).mono ?_
    rw [HT.out]
    rintro e w1 ⟨rfl,hr1,hg1⟩
    go_wp2_with fail
    refine (vC hr1 (by omega)).mono ?_
    rw [HU.out]
    rintro e w2 ⟨rfl,hr2,hg2⟩
    go_wp2_with fail
    refine (vD hr2 (by omega)).mono ?_
    rw [HV.out]
    rintro e w3 ⟨rfl,hr3,hg3⟩
    have k3:=cN hg3 (cN hg2 (cN hg1 HN.out NE.out) NE.out) NE.out
    have hg13:=ag hg1 (ag hg2 hg3)
    have q0:w3.cell? ⟨w.heap.size,0,none⟩=some (.int .u64 0):=by rw [cell_of_row _ _ 0 _ _ _ k3];rfl
    have q1:w3.cell? ⟨w.heap.size,1,none⟩=some (.int .u8 0):=by rw [cell_of_row _ _ 1 _ _ _ k3];rfl
    have q2:w3.cell? ⟨w.heap.size,2,none⟩=some (.int .u32 0):=by rw [cell_of_row _ _ 2 _ _ _ k3];rfl
    have f0:w3.frozen? ⟨w.heap.size,0,none⟩=false:=by simp [World.frozen?,k3]
    have f1:w3.frozen? ⟨w.heap.size,1,none⟩=false:=by simp [World.frozen?,k3]
    have f2:w3.frozen? ⟨w.heap.size,2,none⟩=false:=by simp [World.frozen?,k3]
    have K3:=aa k3
    clear k3
    go_wp2_with (refine (pV hr3).mono ?_;rintro e w4 ⟨rfl,rfl⟩)
    refine bodyPost_ret (v := .agg #[.int .u64 c, .int .u8 n, .int .u32 m]) (by simp [results,Tryz.results133,go_sem,q0,q1,q2]) rfl ?_
    exact ⟨rfl,((hr3.far LT.out).far LT.out).far LT.out,bM (bM (bM (eJ hg13) (Nat.le_refl _)) (Nat.le_refl _)) (Nat.le_refl _)⟩
   ·have her:=j4 hv
    have hr:ix l = .inr er:=by simp [ix,ht,hu,hv]
    rw [hr]
    have HT:=aa ht
    have HU:=aa hu
    have HV:=aa hv
    have h0':er≠0:=by omega
    have h4':er≠4:=by omega
    have H0:=aa h0'
    have H4:=aa h4'
    clear hr her h0' h4' ht hu hv
    go_enter Tryz.func133,Tryz.ntmps133
    go_wp2_with fail
    refine (mu h0 hl).mono ?_
    rw [HT.out]
    rintro e w1 ⟨rfl,hr1,hg1⟩
    go_wp2_with fail
    refine (vC hr1 (by omega)).mono ?_
    rw [HU.out]
    rintro e w2 ⟨rfl,hr2,hg2⟩
    go_wp2_with fail
    refine (vD hr2 (by omega)).mono ?_
    rw [HV.out]
    rintro e w3 ⟨rfl,hr3,hg3⟩
    have k3:=cN hg3 (cN hg2 (cN hg1 (HN.out) NE.out) NE.out) NE.out
    have hg13:=ag (ag (hg1) hg2) hg3
    have q0:w3.cell? ⟨w.heap.size,0,none⟩=some (.int .u64 0):=by rw [cell_of_row _ _ 0 _ _ _ k3];rfl
    have q1:w3.cell? ⟨w.heap.size,1,none⟩=some (.int .u8 0):=by rw [cell_of_row _ _ 1 _ _ _ k3];rfl
    have q2:w3.cell? ⟨w.heap.size,2,none⟩=some (.int .u32 0):=by rw [cell_of_row _ _ 2 _ _ _ k3];rfl
    have f0:w3.frozen? ⟨w.heap.size,0,none⟩=false:=by simp [World.frozen?,k3]
    have f1:w3.frozen? ⟨w.heap.size,1,none⟩=false:=by simp [World.frozen?,k3]
    have f2:w3.frozen? ⟨w.heap.size,2,none⟩=false:=by simp [World.frozen?,k3]
    have K3:=aa k3
    clear k3
    go_wp2_with (refine (iy hr3 H0.out H4.out).mono ?_;rintro e w4 ⟨rfl,rfl⟩)
    refine bodyPost_ret (v := .agg #[.int .u64 0, .int .u8 0, .int .u32 0]) (by simp [results,Tryz.results133,go_sem,q0,q1,q2]) rfl ?_
    exact ⟨rfl,((hr3.far LT.out).far LT.out).far LT.out,bM (bM (bM (eJ hg13) (Nat.le_refl _)) (Nat.le_refl _)) (Nat.le_refl _)⟩
  ·have her:=j4 hu
   have hr:ix l = .inr er:=by simp [ix,ht,hu]
   rw [hr]
   have HT:=aa ht
   have HU:=aa hu
   have h0':er≠0:=by omega
   have h4':er≠4:=by omega
   have H0:=aa h0'
   have H4:=aa h4'
   clear hr her h0' h4' ht hu
   go_enter Tryz.func133,Tryz.ntmps133
   go_wp2_with fail
   refine (mu h0 hl).mono ?_
   rw [HT.out]
   rintro e w1 ⟨rfl,hr1,hg1⟩
   go_wp2_with fail
   refine (vC hr1 (by omega)).mono ?_
   rw [HU.out]
   rintro e w2 ⟨rfl,hr2,hg2⟩
   go_wp2_with fail
   refine (mr 4294967295 hr2 H0.out).mono ?_
   rintro e w3 ⟨rfl,rfl⟩
   have k3:=cN hg2 (cN hg1 (HN.out) NE.out) NE.out
   have hg13:=ag (hg1) hg2
   have q0:w2.cell? ⟨w.heap.size,0,none⟩=some (.int .u64 0):=by rw [cell_of_row _ _ 0 _ _ _ k3];rfl
   have q1:w2.cell? ⟨w.heap.size,1,none⟩=some (.int .u8 0):=by rw [cell_of_row _ _ 1 _ _ _ k3];rfl
   have q2:w2.cell? ⟨w.heap.size,2,none⟩=some (.int .u32 0):=by rw [cell_of_row _ _ 2 _ _ _ k3];rfl
   have f0:w2.frozen? ⟨w.heap.size,0,none⟩=false:=by simp [World.frozen?,k3]
   have f1:w2.frozen? ⟨w.heap.size,1,none⟩=false:=by simp [World.frozen?,k3]
   have f2:w2.frozen? ⟨w.heap.size,2,none⟩=false:=by simp [World.frozen?,k3]
   have K3:=aa k3
   clear k3
   go_wp2_with (refine (iy hr2 H0.out H4.out).mono ?_;rintro e w4 ⟨rfl,rfl⟩)
   refine bodyPost_ret (v := .agg #[.int .u64 0, .int .u8 0, .int .u32 0]) (by simp [results,Tryz.results133,go_sem,q0,q1,q2]) rfl ?_
   exact ⟨rfl,((hr2.far LT.out).far LT.out).far LT.out,bM (bM (bM (eJ hg13) (Nat.le_refl _)) (Nat.le_refl _)) (Nat.le_refl _)⟩
 ·have her:=j4 ht
  have hr:ix l = .inr er:=by simp [ix,ht]
  rw [hr]
  have HT:=aa ht
  have h0':er≠0:=by omega
  have h4':er≠4:=by omega
  have H0:=aa h0'
  have H4:=aa h4'
  clear hr her h0' h4' ht
  go_enter Tryz.func133,Tryz.ntmps133
  go_wp2_with fail
  refine (mu h0 hl).mono ?_
  rw [HT.out]
  rintro e w1 ⟨rfl,hr1,hg1⟩
  go_wp2_with fail
  refine (mr 255 hr1 H0.out).mono ?_
  rintro e w2 ⟨rfl,rfl⟩
  go_wp2_with fail
  refine (mr 4294967295 hr1 H0.out).mono ?_
  rintro e w3 ⟨rfl,rfl⟩
  have k3:=cN hg1 (HN.out) NE.out
  have hg13:=hg1
  have q0:w1.cell? ⟨w.heap.size,0,none⟩=some (.int .u64 0):=by rw [cell_of_row _ _ 0 _ _ _ k3];rfl
  have q1:w1.cell? ⟨w.heap.size,1,none⟩=some (.int .u8 0):=by rw [cell_of_row _ _ 1 _ _ _ k3];rfl
  have q2:w1.cell? ⟨w.heap.size,2,none⟩=some (.int .u32 0):=by rw [cell_of_row _ _ 2 _ _ _ k3];rfl
  have f0:w1.frozen? ⟨w.heap.size,0,none⟩=false:=by simp [World.frozen?,k3]
  have f1:w1.frozen? ⟨w.heap.size,1,none⟩=false:=by simp [World.frozen?,k3]
  have f2:w1.frozen? ⟨w.heap.size,2,none⟩=false:=by simp [World.frozen?,k3]
  have K3:=aa k3
  clear k3
  go_wp2_with (refine (iy hr1 H0.out H4.out).mono ?_;rintro e w4 ⟨rfl,rfl⟩)
  refine bodyPost_ret (v := .agg #[.int .u64 0, .int .u8 0, .int .u32 0]) (by simp [results,Tryz.results133,go_sem,q0,q1,q2]) rfl ?_
  exact ⟨rfl,((hr1.far LT.out).far LT.out).far LT.out,bM (bM (bM (eJ hg13) (Nat.le_refl _)) (Nat.le_refl _)) (Nat.le_refl _)⟩
end Go.Proofs.YtnkjdijbfnmnhaaGreat
