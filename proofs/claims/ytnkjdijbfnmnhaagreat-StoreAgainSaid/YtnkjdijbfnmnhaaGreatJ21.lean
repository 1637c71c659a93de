/-
  Texts of this claim put together: Read, Read2, Row, Nums, St.
-/
import Derived.Test.YtnkjdijbfnmnhaaGreatJ08
import Derived.WalkSpells
import Derived.Outline

namespace Go.Proofs.YtnkjdijbfnmnhaaGreat
set_option maxRecDepth 100000
set_option maxHeartbeats 12800000
open Go.RowKit

def Rdr (w:World) (g:Nat) (l:List UInt8) (er:Int):Prop :=
 ∃A c,w.heap[g]?=some (.cells #[.bool true, .slice A l.length c, .int .i64 er] 210 (0,0))/\Sees w g A (bv l)/\l.length<=c

theorem mo (l:List UInt8) (B:Nat) (A:Option Addr) (n c:Nat) (w:World) (hn:l.length=n) (hs:Sees w B A (bv l)) (hB:B<=w.heap.size) (hl:n<=281474976710656) :
  Calls Tryz.prog 65 #[.slice A n c] w fun e w'=>∃g,e = .returned (.pointer (some ⟨g,0,none⟩))/\w.heap.size<=g/\Rdr w' g l 0/\Below w.heap.size w w':=by
 subst hn
 go_enter Tryz.func65,Tryz.ntmps65
 go_wp2_with fail
 refine (fB l B A c 0 w hs hB (by omega)).mono ?_
 rintro e w1 ⟨rfl,hown1,hb1,hz1⟩
 have HZ:=aa hz1
 clear hz1
 go_wp2
 go_ret
 refine ⟨w1.heap.size,rfl,hb1.size,⟨_,_,heap_alloc_new w1 _,?_,Nat.le_refl _⟩,hb1.alloc hb1.size _⟩
 exact (Sees.own hown1).below ((Below.refl _ _).alloc (Nat.le_refl _) _)

theorem dB {g:Nat} {l:List UInt8} {er:Int} {w:World} (h:Rdr w g l er):Calls Tryz.prog 138 #[.pointer (some ⟨g,0,none⟩)] w fun e w'=>e = .returned (.bool false)/\w=w':=by
 obtain ⟨A,c,hg,_,_⟩:=h
 have c0:w.cell? ⟨g,0,none⟩=some (.bool true):=by rw [cell_of_row w g 0 _ _ _ hg];rfl
 clear hg
 go_enter Tryz.func138,Tryz.ntmps138
 go_wp2
 go_ret
 exact ⟨rfl,rfl⟩

theorem dZ {g:Nat} {l:List UInt8} {w:World} (h:Rdr w g l 0):Calls Tryz.prog 210 #[.pointer (some ⟨g,0,none⟩)] w fun e w'=>e = .returned (.bool true)/\w=w':=by
 have h':=aa h
 obtain ⟨A,c,hg,_,_⟩:=h
 have c0:w.cell? ⟨g,2,none⟩=some (.int .i64 0):=by rw [cell_of_row w g 2 _ _ _ hg];rfl
 clear hg
 go_enter Tryz.func210,Tryz.ntmps210
 go_wp2_with (refine (dB h'.out).mono ?_;rintro e w1 ⟨rfl,rfl⟩)
 go_ret
 exact ⟨rfl,rfl⟩

theorem n7 {g:Nat} {l:List UInt8} {er:Int} {w:World} (h:Rdr w g l er) (her:er≠0):Calls Tryz.prog 210 #[.pointer (some ⟨g,0,none⟩)] w fun e w'=>e = .returned (.bool false)/\w=w':=by
 have h':=aa h
 obtain ⟨A,c,hg,_,_⟩:=h
 have c0:w.cell? ⟨g,2,none⟩=some (.int .i64 er):=by rw [cell_of_row w g 2 _ _ _ hg];rfl
 clear hg
 have hb:(er == 0)=false:=beq_eq_false_iff_ne.2 her
 go_enter Tryz.func210,Tryz.ntmps210
 go_wp2_with (refine (dB h'.out).mono ?_;rintro e w1 ⟨rfl,rfl⟩)
 go_ret
 exact ⟨rfl,rfl⟩

def eW (w:World) (g:Nat) (v:Value) (l:List UInt8) (er:Int) (e:Ending) (w':World):Prop:=e = .returned v/\Rdr w' g l er/\w.grownBy w' (some g)

theorem d6 {g:Nat} {l:List UInt8} {w:World} (er:Int) (h:Rdr w g l 0) (her:er≠0):Calls Tryz.prog 137 #[.pointer (some ⟨g,0,none⟩), .int .i64 er] w (eW w g (.tuple #[]) [] er):=by
 have h':=aa h
 obtain ⟨A,c,hg,_,_⟩:=h
 have c0:w.cell? ⟨g,2,none⟩=some (.int .i64 0):=by rw [cell_of_row w g 2 _ _ _ hg];rfl
 have c1:w.cell? ⟨g,1,none⟩=some (.slice A l.length c):=by rw [cell_of_row w g 1 _ _ _ hg];rfl
 have f0:∀i,w.frozen? ⟨g,i,none⟩=false:=fun i=>by simp [World.frozen?,hg]
 have f1:=f0 1
 have f2:=f0 2
 have HG:=aa hg
 clear hg f0
 have hb:(er == 0)=false:=beq_eq_false_iff_ne.2 her
 go_enter Tryz.func137,Tryz.ntmps137
 go_wp2_with (refine (dZ h'.out).mono ?_;rintro e w1 ⟨rfl,rfl⟩)
 refine bodyPost_ret (results_none rfl _ _ _) rfl ?_
 refine ⟨rfl,⟨none,0,?_,Sees.empty _ _ _,Nat.le_refl _⟩,aV (aV (World.grownBy.refl w _) _ _) _ _⟩
 exact aU 1 _ (aU 2 _ HG.out)

theorem mq (i:Nat) (c:UInt8) (b:Bool) (w:World) (hi:i<=9) (h:b=if i=9 then c.toNat == 1 else (i == 0 || decide (0<c.toNat))):Calls Tryz.prog 274 #[.int .i64 i, .int .u8 (c.toNat:Int)] w fun e w'=>e = .returned (.bool b)/\w=w':=by
 obtain ⟨n,hn⟩:∃n,n=c.toNat:=⟨_,rfl⟩
 rw [<- hn] at h ⊢
 clear hn
 by_cases h9:i=9
 ·rw [if_pos h9] at h
  by_cases h1:n=1
  ·subst h1 h9
   obtain rfl:b=true:=by simpa using h
   clear h
   go_enter Tryz.func274,Tryz.ntmps274
   go_wp2
   go_ret
   exact ⟨rfl,rfl⟩
  ·obtain rfl:b=false:=by rw [h];simpa using h1
   subst h9
   clear h
   have hb:((n:Int) == 1)=false:=beq_eq_false_iff_ne.2 (by omega)
   go_enter Tryz.func274,Tryz.ntmps274
   go_wp2
   go_ret
   exact ⟨rfl,rfl⟩
 ·rw [if_neg h9] at h
  have hb9:((i:Int) == 9)=false:=beq_eq_false_iff_ne.2 (by omega)
  by_cases h0:i=0
  ·subst h0
   obtain rfl:b=true:=by simpa using h
   clear h
   go_enter Tryz.func274,Tryz.ntmps274
   go_wp2
   go_ret
   exact ⟨rfl,rfl⟩
  ·have hb0:((i:Int) == 0)=false:=beq_eq_false_iff_ne.2 (by omega)
   by_cases hn:0<n
   ·obtain rfl:b=true:=by rw [h];simp [hn]
    have hd:decide ((0:Int)<n)=true:=by simp;omega
    clear h
    go_enter Tryz.func274,Tryz.ntmps274
    go_wp2
    go_ret
    exact ⟨rfl,rfl⟩
   ·obtain rfl:n=0:=by omega
    obtain rfl:b=false:=by rw [h];simpa using h0
    clear h
    go_enter Tryz.func274,Tryz.ntmps274
    go_wp2
    go_ret
    exact ⟨rfl,rfl⟩

def takeN:Nat->Nat->List UInt8->(Nat × List UInt8) ⊕ Int
 | _,_,[] => .inr 2
 | i,acc,c::t =>
  if (i=9/\c.toNat≠1)∨(i≠9/\i≠0/\c.toNat=0) then .inr 3
  else if c.toNat<128 then .inl (acc+c.toNat % 128 * 128 ^ i,t)
  else takeN (i+1) (acc+c.toNat % 128 * 128 ^ i) t

def Takes (w:World) (g:Nat) (r:(Nat × List UInt8) ⊕ Int) (e:Ending) (w':World):Prop :=
 match r with
 | .inl (n,t)=>eW w g (.int .u64 n) t 0 e w'
 | .inr er=>eW w g (.int .u64 0) [] er e w'

theorem pR {w:World} {g:Nat} {l:List UInt8} {er:Int} {c c' k n:Nat} {A A':Option Addr} (hg:w.heap[g]?=some (.cells #[.bool true, .slice A l.length c, .int .i64 er] 210 (0,0)))
  (hs:Sees w g A (bv l)) (hlc:l.length<=c) (hA:A'=if c=k then A else A.map (·.add k)) (hk:k<=l.length) (hn:l.length - k=n) (hc:c - k=c') :
  Rdr (w.setCell ⟨g,1,none⟩ (.slice A' n c')) g (l.drop k) er:=by
 have hlt:g<w.heap.size:=(Array.getElem?_eq_some_iff.1 hg).1
 subst hn hc
 refine ⟨A',c - k,?_,?_,by simp;omega⟩
 ·rw [List.length_drop]
  exact aU 1 _ hg
 ·have h:=hs.drop k c (by rw [bv_length];exact hlc)
  rw [<- gi] at h
  rw [hA]
  exact Sees.grown h (aV (World.grownBy.refl w _) _ _) (by omega)

theorem Takes.ok {w w':World} {g n:Nat} {t:List UInt8} {e:Ending} (h1:e = .returned (.int .u64 n)) (h2:Rdr w' g t 0) (h3:w.grownBy w' (some g)):Takes w g (.inl (n,t)) e w':=⟨h1,h2,h3⟩
theorem Takes.no {w w':World} {g:Nat} {er:Int} {e:Ending} (h1:e = .returned (.int .u64 0)) (h2:Rdr w' g [] er) (h3:w.grownBy w' (some g)):Takes w g (.inr er) e w':=⟨h1,h2,h3⟩
theorem vr (k:Nat):128 ^ k=2 ^ (7 * k):=by rw [Nat.pow_mul]
theorem Ai (m k:Nat) (hm:m<128) (hk:k<=9) (h9:k=9->m<=1):m * 128 ^ k<18446744073709551616:=by
 have hc:k=0∨k=1∨k=2∨k=3∨k=4∨k=5∨k=6∨k=7∨k=8∨k=9:=by omega
 rcases hc with rfl|rfl|rfl|rfl|rfl|rfl|rfl|rfl|rfl|rfl
 all_goals first|omega|(have:=h9 rfl;omega)
theorem vt (acc k:Nat) (ha:acc<128 ^ k) (hk:k<=9):acc<9223372036854775808:=by
 have h:128 ^ k<=128 ^ 9:=Nat.pow_le_pow_right (by omega) hk
 omega
theorem pS (acc m k:Nat) (ha:acc<128 ^ k) (hm:m<128):acc+m * 128 ^ k<128 ^ (k+1):=by
 have h:m * 128 ^ k<=127 * 128 ^ k:=Nat.mul_le_mul_right _ (by omega)
 rw [Nat.pow_succ]
 omega
theorem Dj (acc m k:Nat) (ha:acc<128 ^ k) (hm:m<128) (hk:k<=9) (h9:k=9->m<=1) :
  bits .or .u64 (acc:Int) (IntKind.u64.wrap ((m:Int) * 2 ^ (7 * k)))=((acc+m * 128 ^ k:Nat):Int):=by
 have h1:=Ai m k hm hk h9
 have h2:=vt acc k ha hk
 have e1:(m:Int) * 2 ^ (7 * k)=((m * 128 ^ k:Nat):Int):=by rw [vr];simp
 have e2:IntKind.u64.wrap ((m * 128 ^ k:Nat):Int)=((m * 128 ^ k:Nat):Int):=by rw [IntKind.wrap_u64];omega
 rw [e1,e2,u64_or_nat acc _ (by omega) h1]
 rw [vr] at ha ⊢
 have h:=Nat.shiftLeft_add_eq_or_of_lt ha m
 rw [Nat.shiftLeft_eq] at h
 rw [Nat.or_comm,<- h]
 congr 1
 omega

theorem bJ {g:Nat} {l:List UInt8} {w:World} (h:Rdr w g l 0) (hl:l.length<=281474976710656):Calls Tryz.prog 207 #[.pointer (some ⟨g,0,none⟩)] w (Takes w g (takeN 0 0 l)):=by
 have h':=aa h
 obtain ⟨A,c,hg,hs,hlc⟩:=h
 have c1:w.cell? ⟨g,1,none⟩=some (.slice A l.length c):=by rw [cell_of_row w g 1 _ _ _ hg];rfl
 have f1:w.frozen? ⟨g,1,none⟩=false:=by simp [World.frozen?,hg]
 have HG:=aa hg
 clear hg
 go_enter Tryz.func207,Tryz.ntmps207
 go_wp2_with (refine (dZ h'.out).mono ?_;rintro e w1 ⟨rfl,rfl⟩)
 go_loop [3,4] (fun n i=>∃k acc:Nat,k<=l.length/\k<=9/\i = .int .i64 k/\n = .int .u64 acc/\Hid (acc<128 ^ k)/\Hid (takeN k acc (l.drop k)=takeN 0 0 l)) (fun _ i=>l.length - (intOf i).toNat)
 case atStart=>exact ⟨0,0,Nat.zero_le _,Nat.zero_le _,rfl,rfl,by show _<_;simp,by show _=_;simp⟩
 case round =>
  obtain ⟨k,acc,hk,hk9,rfl,rfl,HA,HT⟩:=hrel
  by_cases hlt:k<l.length
  ·have hj:(bv l)[k]?=some (.int .u8 (l[k].toNat:Int)):=by rw [bv_getElem?,List.getElem?_eq_getElem hlt];rfl
   obtain ⟨ad,rfl,hab,hcell⟩:=hs (by rw [bv_length];omega)
   have hck:=hcell k _ hj
   obtain ⟨cc,hcc⟩:∃cc,cc=l[k]:=⟨_,rfl⟩
   rw [<- hcc] at hck
   have HC:=aa hcc
   clear hcell hj hcc
   have hdrop:l.drop k=cc::l.drop (k+1):=by rw [HC.out];exact List.drop_eq_getElem_cons hlt
   by_cases hbad:(k=9/\cc.toNat≠1)∨(k≠9/\k≠0/\cc.toNat=0)
   ·have hres:takeN 0 0 l = .inr 3:=by rw [<- HT.out,hdrop,takeN,if_pos hbad]
    have hf:false=if k=9 then cc.toNat == 1 else (k == 0 || decide (0<cc.toNat)):=by
     rcases hbad with ⟨h1,h2⟩ | ⟨h1,h2,h3⟩
     ·rw [if_pos h1];symm;simpa using h2
     ·rw [if_neg h1];symm;simp [h2,h3]
    have HR:=aa hres
    have HF:=aa hf
    have HD:=aa hdrop
    clear hres hf hdrop hbad
    go_wp2_with (first|(go_at_call 274;refine (mq k cc false w hk9 HF.out).mono ?_;rintro e w1 ⟨rfl,rfl⟩)|(go_at_call 137;refine (d6 3 h'.out (by omega)).mono ?_;rintro e w1 ⟨rfl,hr1,hg1⟩))
    go_ret
    rw [HR.out]
    exact ⟨rfl,hr1,hg1⟩
   ·have hf:true=if k=9 then cc.toNat == 1 else (k == 0 || decide (0<cc.toNat)):=by
     by_cases h9:k=9
     ·rw [if_pos h9];symm;simp;omega
     ·rw [if_neg h9];symm;simp;omega
    have HF:=aa hf
    clear hf
    have hor:bits .or .u64 (acc:Int) (IntKind.u64.wrap ((cc.toNat:Int) % 128 * 2 ^ (7 * k)))=((acc+cc.toNat % 128 * 128 ^ k:Nat):Int) :=
     Dj acc (cc.toNat % 128) k HA.out (by omega) hk9 (by omega)
    have HO:=aa hor
    clear hor
    have q1:k+1<=l.length:=by omega
    by_cases hsm:cc.toNat<128
    ·have hres:takeN 0 0 l = .inl (acc+cc.toNat % 128 * 128 ^ k,l.drop (k+1)):=by rw [<- HT.out,hdrop,takeN,if_neg hbad,if_pos hsm]
     have HR:=aa hres
     have HD:=aa hdrop
     have HB:=aa hbad
     clear hres hdrop hbad
     go_wp2_with (refine (mq k cc true w hk9 HF.out).mono ?_;rintro e w1 ⟨rfl,rfl⟩)
     all_goals go_ret
     all_goals rw [HR.out]
     ·exact Takes.ok (congrArg (fun z=>Ending.returned (Value.int .u64 z)) HO.out) (pR (k:=k+1) HG.out hs hlc (by rw [if_pos ‹c=k+1›]) q1 rfl (by omega)) (aV (World.grownBy.refl w _) _ _)
     ·exact Takes.ok (congrArg (fun z=>Ending.returned (Value.int .u64 z)) HO.out) (pR (k:=k+1) HG.out hs hlc (by rw [if_neg ‹¬c=k+1›];simp [Addr.add]) q1 rfl rfl) (aV (World.grownBy.refl w _) _ _)
    ·have hstep:takeN (k+1) (acc+cc.toNat % 128 * 128 ^ k) (l.drop (k+1))=takeN 0 0 l:=by rw [<- HT.out,hdrop,takeN,if_neg hbad,if_neg hsm]
     have h9:k≠9:=by omega
     have q2:k+1<=9:=by omega
     have Q3:=aa (pS acc (cc.toNat % 128) k HA.out (by omega))
     have HS:=aa hstep
     have HD:=aa hdrop
     have HB:=aa hbad
     clear hstep hdrop hbad
     go_wp2_with (refine (mq k cc true w hk9 HF.out).mono ?_;rintro e w1 ⟨rfl,rfl⟩)
     go_round
     case rel =>
      clear hs hck c1
      refine ⟨k+1,acc+cc.toNat % 128 * 128 ^ k,q1,q2,?_,?_,Q3.out,HS.out⟩
      ·simp
      ·exact congrArg (Value.int .u64) HO.out
     case measure=>simp [intOf];omega
  ·obtain rfl:k=l.length:=by omega
   have hres:takeN 0 0 l = .inr 2:=by rw [<- HT.out,List.drop_length,takeN]
   have HR:=aa hres
   clear hres
   go_wp2_with (first|(go_at_call 137;refine (d6 2 h'.out (by omega)).mono ?_;rintro e w1 ⟨rfl,hr1,hg1⟩))
   go_ret
   rw [HR.out]
   exact ⟨rfl,hr1,hg1⟩

theorem d7 {n:Nat} {t:List UInt8}:∀(l:List UInt8) (i acc:Nat),takeN i acc l = .inl (n,t)->t.length<l.length
 | [],_,_,h=>by simp [takeN] at h
 | c::l,i,acc,h=>by
  rw [takeN] at h
  split at h
  ·cases h
  ·split at h
   ·injection h with h
    injection h with _ h
    subst h
    simp
   ·have:=d7 l _ _ h
    simp
    omega
theorem gF {er:Int}:∀(l:List UInt8) (i acc:Nat),takeN i acc l = .inr er->er=2∨er=3
 | [],_,_,h=>by
  simp [takeN] at h
  omega
 | c::l,i,acc,h=>by
  rw [takeN] at h
  split at h
  ·injection h with h
   omega
  ·split at h
   ·cases h
   ·exact gF l _ _ h
theorem jy {n:Nat} {t:List UInt8}:∀(l:List UInt8) (i acc:Nat),acc<128 ^ i->i<=9->takeN i acc l = .inl (n,t)->n<18446744073709551616
 | [],_,_,_,_,h=>by simp [takeN] at h
 | c::l,i,acc,ha,hi,h=>by
  rw [takeN] at h
  split at h
  ·cases h
  ·rename_i hbad
   have h1:=Ai (c.toNat % 128) i (by omega) hi (by omega)
   have h2:=vt acc i ha hi
   split at h
   ·injection h with h
    injection h with h _
    have h3:=pS acc (c.toNat % 128) i ha (by omega)
    by_cases h9:i=9
    ·subst h9
     have:c.toNat=1:=by omega
     rw [this] at h
     omega
    ·have h4:128 ^ (i+1)<=128 ^ 9:=Nat.pow_le_pow_right (by omega) (by omega)
     omega
   ·exact jy l _ _ (pS acc _ i ha (by omega)) (by omega) h

theorem ln {g:Nat} {l:List UInt8} {er:Int} {w:World} (h:Rdr w g l er) (her:er≠0):Calls Tryz.prog 207 #[.pointer (some ⟨g,0,none⟩)] w fun e w'=>e = .returned (.int .u64 0)/\w=w':=by
 go_enter Tryz.func207,Tryz.ntmps207
 go_wp2_with (refine (n7 h her).mono ?_;rintro e w1 ⟨rfl,rfl⟩)
 go_ret
 exact ⟨rfl,rfl⟩

def bq (most:Nat) (l:List UInt8):(Nat × List UInt8) ⊕ Int :=
 match takeN 0 0 l with
 | .inl (n,t)=>if most<n then .inr 6 else .inl (n,t)
 | .inr er => .inr er

theorem gG {g:Nat} {l:List UInt8} {w:World} (x:Nat) (h:Rdr w g l 0) (hl:l.length<=281474976710656):Calls Tryz.prog 135 #[.pointer (some ⟨g,0,none⟩), .int .u64 x] w (Takes w g (bq x l)):=by
 rcases ht:takeN 0 0 l with ⟨n,t⟩|er
 ·by_cases hm:x<n
  ·have hr:bq x l = .inr 6:=by simp [bq,ht,hm]
   rw [hr]
   have HT:=aa ht
   clear hr ht
   go_enter Tryz.func135,Tryz.ntmps135
   go_wp2_with fail
   refine (bJ h hl).mono ?_
   rw [HT.out]
   rintro e w1 ⟨rfl,hr1,hg1⟩
   go_wp2_with fail
   refine (d6 6 hr1 (by omega)).mono ?_
   rintro e w2 ⟨rfl,hr2,hg2⟩
   go_wp2
   go_ret
   exact Takes.no rfl hr2 (ag hg1 hg2)
  ·have hr:bq x l = .inl (n,t):=by simp [bq,ht,hm]
   rw [hr]
   have HT:=aa ht
   clear hr ht
   go_enter Tryz.func135,Tryz.ntmps135
   go_wp2_with fail
   refine (bJ h hl).mono ?_
   rw [HT.out]
   rintro e w1 ⟨rfl,hr1,hg1⟩
   go_wp2
   go_ret
   exact Takes.ok rfl hr1 hg1
 ·have hr:bq x l = .inr er:=by simp [bq,ht]
  rw [hr]
  have HT:=aa ht
  clear hr ht
  go_enter Tryz.func135,Tryz.ntmps135
  go_wp2_with fail
  refine (bJ h hl).mono ?_
  rw [HT.out]
  rintro e w1 ⟨rfl,hr1,hg1⟩
  go_wp2
  go_ret
  exact Takes.no rfl hr1 hg1

theorem mr {g:Nat} {l:List UInt8} {er:Int} {w:World} (x:Nat) (h:Rdr w g l er) (her:er≠0):Calls Tryz.prog 135 #[.pointer (some ⟨g,0,none⟩), .int .u64 x] w fun e w'=>e = .returned (.int .u64 0)/\w=w':=by
 go_enter Tryz.func135,Tryz.ntmps135
 go_wp2_with (refine (ln h her).mono ?_;rintro e w1 ⟨rfl,rfl⟩)
 go_ret
 exact ⟨rfl,rfl⟩

def fi (n:Nat):Int:=if n % 2=1 then -1 - (n / 2:Nat) else (n / 2:Nat)
theorem pT (n:Int):fi (lU n)=n:=by
 unfold fi lU
 split <;> split <;> omega

theorem iq (n:Nat) (hn:n<18446744073709551616) (w:World):Calls Tryz.prog 320 #[.int .u64 n] w fun e w'=>e = .returned (.int .i64 (fi n))/\w=w':=by
 have e:∀a b:Int,a=b->Ending.returned (.int .i64 a) = .returned (.int .i64 b):=fun a b h=>by rw [h]
 by_cases h:n % 2=1
 ·have hb:((n:Int) % 2 == 1)=true:=beq_iff_eq.2 (by omega)
  go_enter Tryz.func320,Tryz.ntmps320
  go_wp2
  go_ret
  exact ⟨e _ _ (by unfold fi;rw [if_pos h];omega),rfl⟩
 ·have hb:((n:Int) % 2 == 1)=false:=beq_eq_false_iff_ne.2 (by omega)
  go_enter Tryz.func320,Tryz.ntmps320
  go_wp2
  go_ret
  exact ⟨e _ _ (by unfold fi;rw [if_neg (by omega)];omega),rfl⟩

def Dl (w:World) (g:Nat) (r:(Nat × List UInt8) ⊕ Int) (e:Ending) (w':World):Prop :=
 match r with
 | .inl (n,t)=>eW w g (.int .i64 (fi n)) t 0 e w'
 | .inr er=>eW w g (.int .i64 0) [] er e w'

theorem yT {g:Nat} {l:List UInt8} {w:World} (h:Rdr w g l 0) (hl:l.length<=281474976710656):Calls Tryz.prog 267 #[.pointer (some ⟨g,0,none⟩)] w (Dl w g (takeN 0 0 l)):=by
 rcases ht:takeN 0 0 l with ⟨n,t⟩|er
 ·have hn:=jy l 0 0 (by simp) (by omega) ht
  have HT:=aa ht
  have HN:=aa hn
  clear ht hn
  go_enter Tryz.func267,Tryz.ntmps267
  go_wp2_with fail
  refine (bJ h hl).mono ?_
  rw [HT.out]
  rintro e w1 ⟨rfl,hr1,hg1⟩
  go_wp2_with (refine (iq n HN.out _).mono ?_;rintro e w2 ⟨rfl,rfl⟩)
  go_ret
  exact ⟨rfl,hr1,hg1⟩
 ·have HT:=aa ht
  clear ht
  go_enter Tryz.func267,Tryz.ntmps267
  go_wp2_with fail
  refine (bJ h hl).mono ?_
  rw [HT.out]
  rintro e w1 ⟨rfl,hr1,hg1⟩
  go_wp2_with (refine (iq 0 (by omega) _).mono ?_;rintro e w2 ⟨rfl,rfl⟩)
  go_ret
  exact ⟨rfl,hr1,hg1⟩

theorem fH {g:Nat} {l:List UInt8} {er:Int} {w:World} (h:Rdr w g l er) (v:Int) (hv:v=if er=0 then (if l=[] then 0 else 4) else er):Calls Tryz.prog 67 #[.pointer (some ⟨g,0,none⟩)] w fun e w'=>e = .returned (.int .i64 v)/\w=w':=by
 have h':=aa h
 obtain ⟨A,c,hg,_,_⟩:=h
 have c2:w.cell? ⟨g,2,none⟩=some (.int .i64 er):=by rw [cell_of_row w g 2 _ _ _ hg];rfl
 have c1:w.cell? ⟨g,1,none⟩=some (.slice A l.length c):=by rw [cell_of_row w g 1 _ _ _ hg];rfl
 clear hg
 by_cases her:er=0
 ·subst her
  rw [if_pos rfl] at hv
  by_cases hl:l=[]
  ·subst hl
   rw [if_pos rfl] at hv
   subst hv
   go_enter Tryz.func67,Tryz.ntmps67
   go_wp2_with (refine (dB h'.out).mono ?_;rintro e w1 ⟨rfl,rfl⟩)
   go_ret
   exact ⟨rfl,rfl⟩
  ·rw [if_neg hl] at hv
   subst hv
   have hpos:0<l.length:=List.length_pos_iff.2 hl
   go_enter Tryz.func67,Tryz.ntmps67
   go_wp2_with (refine (dB h'.out).mono ?_;rintro e w1 ⟨rfl,rfl⟩)
   go_ret
   exact ⟨rfl,rfl⟩
 ·rw [if_neg her] at hv
  subst hv
  have hb:(v == 0)=false:=beq_eq_false_iff_ne.2 her
  clear her
  go_enter Tryz.func67,Tryz.ntmps67
  go_wp2_with (refine (dB h'.out).mono ?_;rintro e w1 ⟨rfl,rfl⟩)
  go_ret
  exact ⟨rfl,rfl⟩

def ir (most:Int) (l:List UInt8):(List UInt8 × List UInt8) ⊕ Int :=
 match takeN 0 0 l with
 | .inr er => .inr er
 | .inl (n,t)=>if max most 0<(n:Int) then .inr 4 else if t.length<n then .inr 2 else .inl (t.take n,t.drop n)

def TakesR (w:World) (g:Nat) (r:(List UInt8 × List UInt8) ⊕ Int) (e:Ending) (w':World):Prop :=
 match r with
 | .inl (row,t)=>∃A c,eW w g (.slice A row.length c) t 0 e w'/\w'.ownsRow w.heap.size 5 1 (.slice A row.length c) row.length (bv row)
 | .inr er=>eW w g (.slice none 0 0) [] er e w'

theorem Rdr.lt {w:World} {g:Nat} {l:List UInt8} {er:Int} (h:Rdr w g l er):g<w.heap.size:=by
 obtain ⟨A,c,hg,_,_⟩:=h
 exact (Array.getElem?_eq_some_iff.1 hg).1
theorem Rdr.below {w w':World} {g:Nat} {l:List UInt8} {er:Int} (h:Rdr w g l er) (hb:Below w.heap.size w w'):Rdr w' g l er:=by
 have hlt:=h.lt
 obtain ⟨A,c,hg,hs,hc⟩:=h
 exact ⟨A,c,(hb.block g hlt).trans hg,hs.below (hb.mono (by omega)),hc⟩

theorem yU (l:List UInt8) (B:Nat) (A:Option Addr) (n c room:Nat) (w:World) (hn:l.length=n) (hs:Sees w B A (bv l)) (hB:B<=w.heap.size) (hr:n+room<=281474976710656) :
  Calls Tryz.prog 118 #[.slice A n c, .int .i64 room] w fun e w'=>e = .returned (.slice (some ⟨w.heap.size,0,none⟩) n (n+room)) /\
   w'.ownsRow w.heap.size 5 1 (.slice (some ⟨w.heap.size,0,none⟩) n (n+room)) n (bv l)/\Below w.heap.size w w'/\w'.heap.size=w.heap.size+1:=by
 subst hn
 exact fB l B A c room w hs hB hr

theorem TakesR.mk {w w1 w3:World} {g n c1 c':Nat} {t:List UInt8} {A1 A':Option Addr} (hn:n<=t.length) (hg:w1.heap[g]?=some (.cells #[.bool true, .slice A1 t.length c1, .int .i64 0] 210 (0,0)))
  (hs:Sees w1 g A1 (bv t)) (hc:t.length<=c1) (hA:A'=if c1=n then A1 else A1.map (·.add n)) (hc':c1 - n=c') (hg1:w.grownBy w1 (some g)) (hlt:g<w1.heap.size)
  (hown:w3.ownsRow w1.heap.size 5 1 (.slice (some ⟨w1.heap.size,0,none⟩) n (n+0)) n (bv (t.take n))) (hb:Below w1.heap.size w1 w3) :
  TakesR w g (.inl (t.take n,t.drop n)) (.returned (.slice (some ⟨w1.heap.size,0,none⟩) n n)) (w3.setCell ⟨g,1,none⟩ (.slice A' (t.length - n) c')):=by
 have hl:(t.take n).length=n:=by simp;omega
 refine ⟨some ⟨w1.heap.size,0,none⟩,n,⟨by rw [hl],pR ((hb.block g hlt).trans hg) (hs.below (hb.mono (by omega))) hc hA hn rfl hc',aV (aP hg1 hb) _ _⟩,?_⟩
 rw [hl]
 exact az (ownsRow_setCell_below hown (a:=⟨g,1,none⟩) hlt _) hg1.size

theorem yV {g:Nat} {l:List UInt8} {w:World} (x:Int) (h:Rdr w g l 0) (hl:l.length<=281474976710656) (hx1 : -9223372036854775808<=x) (hx2:x<=9223372036854775807) :
  Calls Tryz.prog 216 #[.pointer (some ⟨g,0,none⟩), .int .i64 x] w (TakesR w g (ir x l)):=by
 rcases ht:takeN 0 0 l with ⟨n,t⟩|er
 ·have hn:=jy l 0 0 (by simp) (by omega) ht
  have htl:=d7 l 0 0 ht
  by_cases h4:max x 0<(n:Int)
  ·have hr:ir x l = .inr 4:=by simp [ir,ht,h4]
   rw [hr]
   have HT:=aa ht
   clear hr ht
   go_enter Tryz.func216,Tryz.ntmps216
   go_wp2_with fail
   refine (bJ h hl).mono ?_
   rw [HT.out]
   rintro e w1 ⟨rfl,hr1,hg1⟩
   go_wp2_with (first|(go_at_call 210;refine (dZ hr1).mono ?_;rintro e w2 ⟨rfl,rfl⟩)|(go_at_call 137;refine (d6 4 hr1 (by omega)).mono ?_;rintro e w2 ⟨rfl,hr2,hg2⟩))
   all_goals go_ret
   all_goals exact ⟨rfl,hr2,ag hg1 hg2⟩
  ·by_cases h2:t.length<n
   ·have hr:ir x l = .inr 2:=by simp [ir,ht,h4,h2]
    rw [hr]
    have HT:=aa ht
    clear hr ht
    go_enter Tryz.func216,Tryz.ntmps216
    go_wp2_with fail
    refine (bJ h hl).mono ?_
    rw [HT.out]
    rintro e w1 ⟨rfl,hr1,hg1⟩
    have hr1':=aa hr1
    obtain ⟨A1,c1,hgg,hs1,hc1⟩:=hr1
    have k1:w1.cell? ⟨g,1,none⟩=some (.slice A1 t.length c1):=by rw [cell_of_row w1 g 1 _ _ _ hgg];rfl
    clear hgg
    go_wp2_with (first|(go_at_call 210;refine (dZ hr1'.out).mono ?_;rintro e w2 ⟨rfl,rfl⟩)|(go_at_call 137;refine (d6 2 hr1'.out (by omega)).mono ?_;rintro e w2 ⟨rfl,hr2,hg2⟩))
    all_goals go_ret
    all_goals exact ⟨rfl,hr2,ag hg1 hg2⟩
   ·have hr:ir x l = .inl (t.take n,t.drop n):=by simp [ir,ht,h4,h2]
    rw [hr]
    have HT:=aa ht
    clear hr ht
    go_enter Tryz.func216,Tryz.ntmps216
    go_wp2_with fail
    refine (bJ h hl).mono ?_
    rw [HT.out]
    rintro e w1 ⟨rfl,hr1,hg1⟩
    have hr1':=aa hr1
    obtain ⟨A1,c1,hgg,hs1,hc1⟩:=hr1
    have k1:w1.cell? ⟨g,1,none⟩=some (.slice A1 t.length c1):=by rw [cell_of_row w1 g 1 _ _ _ hgg];rfl
    have f1:w1.frozen? ⟨g,1,none⟩=false:=by simp [World.frozen?,hgg]
    have HG:=aa hgg
    clear hgg
    go_wp2_with ((go_at_call 210;refine (dZ hr1'.out).mono ?_;rintro e w2 ⟨rfl,rfl⟩))
    all_goals refine (yU (t.take n) w1.heap.size A1 n c1 0 w1 (by simp;omega) (by rw [ev];exact (hs1.more (Nat.le_of_lt hr1'.out.lt)).take n) (Nat.le_refl _) (by omega)).mono ?_
    all_goals rintro e w3 ⟨rfl,hown3,hb3,hz3⟩
    all_goals have Z3:=aa hz3
    all_goals clear hz3
    all_goals have k3:=(hb3.cell (p:=⟨g,1,none⟩) hr1'.out.lt).trans k1
    all_goals have f3:=(hb3.frozen (p:=⟨g,1,none⟩) hr1'.out.lt).trans f1
    all_goals go_wp2
    all_goals go_ret
    all_goals refine TakesR.mk (by omega) HG.out hs1 hc1 ?_ ?_ hg1 hr1'.out.lt hown3 hb3
    all_goals first|(rw [if_pos ‹c1=n›];done)|(rw [if_neg ‹¬c1=n›];done)|omega
 ·have hr:ir x l = .inr er:=by simp [ir,ht]
  rw [hr]
  have her:er≠0:=by rcases gF l 0 0 ht with rfl|rfl <;> omega
  have HT:=aa ht
  clear hr ht
  go_enter Tryz.func216,Tryz.ntmps216
  go_wp2_with fail
  refine (bJ h hl).mono ?_
  rw [HT.out]
  rintro e w1 ⟨rfl,hr1,hg1⟩
  go_wp2_with (refine (n7 hr1 her).mono ?_;rintro e w2 ⟨rfl,rfl⟩)
  go_ret
  exact ⟨rfl,hr1,hg1⟩

theorem pow9 (i:Nat) (x:Nat) (hi:i<=9) (hx:x * 128 ^ i<18446744073709551616) (h9:i=9):x<=1:=by
 subst h9
 omega
theorem ms {n:Nat} (h:n<256):(UInt8.ofNat n).toNat=n:=by simp;omega

theorem vu (t:List UInt8):∀(x i acc:Nat),i<=9->x * 128 ^ i<18446744073709551616->(i=0∨0<x)->takeN i acc (numB x++t) = .inl (acc+x * 128 ^ i,t):=by
 intro x
 induction x using Nat.strongRecOn with
 | _ x ih =>
  intro i acc hi hx h0
  have h9:=pow9 i x hi hx
  by_cases hs:x<128
  ·rw [cS hs,List.singleton_append,takeN,ms (by omega),if_neg (by omega),if_pos hs,Nat.mod_eq_of_lt hs]
  ·have e1:x % 128 * 128 ^ i+x / 128 * 128 ^ (i+1)=x * 128 ^ i:=by
    rw [Nat.pow_succ,Nat.mul_comm (128 ^ i) 128,<- Nat.mul_assoc,<- Nat.add_mul]
    congr 1
    omega
   rw [fC (by omega),List.cons_append,takeN,ms (by omega),if_neg (by omega),if_neg (by omega),ih (x / 128) (by omega) (i+1) _ (by omega) (by omega) (by omega)]
   congr 2
   rw [show (x % 128+128) % 128=x % 128 by omega]
   omega

theorem vw:∀(x i acc k:Nat),i<=9->x * 128 ^ i<18446744073709551616->(i=0∨0<x)->k<(numB x).length->takeN i acc ((numB x).take k) = .inr 2:=by
 intro x
 induction x using Nat.strongRecOn with
 | _ x ih =>
  intro i acc k hi hx h0 hk
  have h9:=pow9 i x hi hx
  rcases k with _|k
  ·rw [List.take_zero,takeN]
  ·by_cases hs:x<128
   ·rw [cS hs] at hk
    simp at hk
   ·have e1:x % 128 * 128 ^ i+x / 128 * 128 ^ (i+1)=x * 128 ^ i:=by
     rw [Nat.pow_succ,Nat.mul_comm (128 ^ i) 128,<- Nat.mul_assoc,<- Nat.add_mul]
     congr 1
     omega
    rw [fC (by omega),List.length_cons] at hk
    rw [fC (by omega),List.take_succ_cons,takeN,ms (by omega),if_neg (by omega),if_neg (by omega),ih (x / 128) (by omega) (i+1) _ k (by omega) (by omega) (by omega) (by omega)]

theorem gH (x:Nat) (t:List UInt8) (hx:x<18446744073709551616):takeN 0 0 (numB x++t) = .inl (x,t):=by
 rw [vu t x 0 0 (by omega) (by simpa using hx) (.inl rfl)]
 simp
theorem gp (x k:Nat) (hx:x<18446744073709551616) (hk:k<(numB x).length):takeN 0 0 ((numB x).take k) = .inr 2 :=
 vw x 0 0 k (by omega) (by simpa using hx) (.inl rfl) hk
theorem cW (x most:Nat) (t:List UInt8) (hx:x<18446744073709551616) (hm:x<=most):bq most (numB x++t) = .inl (x,t):=by
 rw [bq,gH x t hx]
 simp only
 rw [if_neg (by omega)]
theorem dM (x k most:Nat) (hx:x<18446744073709551616) (hk:k<(numB x).length):bq most ((numB x).take k) = .inr 2:=by
 rw [bq,gp x k hx hk]
theorem vx (row t:List UInt8) (most:Int) (hr:row.length<18446744073709551616) (hm:(row.length:Int)<=max most 0):ir most (rowB row++t) = .inl (row,t):=by
 rw [ir,rowB,List.append_assoc,gH _ _ hr]
 simp only
 rw [if_neg (by omega),if_neg (by simp)]
 simp
theorem Bc (row:List UInt8) (most:Int) (k:Nat) (hr:row.length<18446744073709551616) (hm:(row.length:Int)<=max most 0) (hk:k<(rowB row).length):ir most ((rowB row).take k) = .inr 2:=by
 rw [ir,rowB,List.take_append]
 by_cases h:k<(numB row.length).length
 ·rw [Nat.sub_eq_zero_of_le (by omega),List.take_zero,List.append_nil,gp _ k hr h]
 ·rw [List.take_of_length_le (by omega),gH _ _ hr]
  simp only
  rw [rowB,List.length_append] at hk
  rw [if_neg (by omega),if_pos (by simp;omega)]

theorem Bd {most:Nat} {l:List UInt8} {er:Int} (h:bq most l = .inr er):er=2∨er=3∨er=6:=by
 rw [bq] at h
 rcases ht:takeN 0 0 l with ⟨n,t⟩|e
 ·rw [ht] at h
  simp only at h
  split at h
  ·injection h with h
   omega
  ·cases h
 ·rw [ht] at h
  injection h with h
  rcases gF l 0 0 ht with rfl|rfl <;> omega
theorem vy {most n:Nat} {l t:List UInt8} (h:bq most l = .inl (n,t)):t.length<l.length/\n<=most:=by
 rw [bq] at h
 rcases ht:takeN 0 0 l with ⟨x,u⟩|e
 ·rw [ht] at h
  simp only at h
  split at h
  ·cases h
  ·injection h with h
   injection h with h1 h2
   subst h1 h2
   exact ⟨d7 l 0 0 ht,by omega⟩
 ·rw [ht] at h
  cases h

abbrev RS:=List UInt8 × Int

def RSok (s:RS):Prop:=(s.2=0∨s.2=2∨s.2=3∨s.2=6)/\s.1.length<=1000000
def numS (most:Nat) (s:RS):Nat × RS :=
 if s.2=0 then (match bq most s.1 with | .inl (n,t)=>(n,(t,0)) | .inr er=>(0,([],er))) else (0,s)
def intS (s:RS):Int × RS :=
 if s.2=0 then (match takeN 0 0 s.1 with | .inl (n,t)=>(fi n,(t,0)) | .inr er=>(0,([],er))) else (0,s)
theorem aG {most:Nat} {s:RS} (h:RSok s):RSok (numS most s).2/\(numS most s).1<=most:=by
 obtain ⟨l,er⟩:=s
 unfold numS
 by_cases h0:er=0
 ·subst h0
  rw [if_pos rfl]
  rcases ht:bq most l with ⟨n,t⟩|e
  ·have h1:=vy ht
   exact ⟨⟨.inl rfl,by have:=h.2;simp only at this ⊢;omega⟩,h1.2⟩
  ·have h1:=Bd ht
   refine ⟨⟨?_,by simp⟩,by simp⟩
   simp only
   omega
 ·rw [if_neg h0]
  exact ⟨h,by simp⟩
theorem iu {s:RS} (h:RSok s):RSok (intS s).2/\(-9223372036854775808<=(intS s).1/\(intS s).1<=9223372036854775807):=by
 obtain ⟨l,er⟩:=s
 unfold intS
 by_cases h0:er=0
 ·subst h0
  rw [if_pos rfl]
  rcases ht:takeN 0 0 l with ⟨n,t⟩|e
  ·have h1:=d7 l 0 0 ht
   have h2:=jy l 0 0 (by simp) (by omega) ht
   refine ⟨⟨.inl rfl,by have:=h.2;simp only at this ⊢;omega⟩,?_⟩
   simp only
   unfold fi
   split <;> omega
  ·have h1:=gF l 0 0 ht
   refine ⟨⟨?_,by simp⟩,by simp⟩
   simp only
   omega
 ·rw [if_neg h0]
  exact ⟨h,by simp⟩

def iw (w:World) (g:Nat) (v:Value) (s:RS) (e:Ending) (w':World):Prop:=e = .returned v/\Rdr w' g s.1 s.2/\w.grownBy w' (some g)

theorem n8 {g:Nat} {s:RS} {w:World} (x:Nat) (h:Rdr w g s.1 s.2) (hs:RSok s):Calls Tryz.prog 135 #[.pointer (some ⟨g,0,none⟩), .int .u64 x] w (iw w g (.int .u64 (numS x s).1) (numS x s).2):=by
 obtain ⟨l,er⟩:=s
 have hl:=hs.2
 simp only at h hl
 unfold numS
 by_cases h0:er=0
 ·subst h0
  rw [if_pos rfl]
  refine (gG x h (by omega)).mono ?_
  rcases ht:bq x l with ⟨n,t⟩|e
  ·rintro en w1 ⟨rfl,hr,hg⟩
   exact ⟨rfl,hr,hg⟩
  ·rintro en w1 ⟨rfl,hr,hg⟩
   exact ⟨rfl,hr,hg⟩
 ·rw [if_neg h0]
  refine (mr x h h0).mono ?_
  rintro en w1 ⟨rfl,rfl⟩
  exact ⟨rfl,h,World.grownBy.refl _ _⟩

theorem Be {g:Nat} {l:List UInt8} {er:Int} {w:World} (h:Rdr w g l er) (her:er≠0):Calls Tryz.prog 267 #[.pointer (some ⟨g,0,none⟩)] w fun e w'=>e = .returned (.int .i64 0)/\w=w':=by
 go_enter Tryz.func267,Tryz.ntmps267
 go_wp2_with fail
 refine (ln h her).mono ?_
 rintro e w1 ⟨rfl,rfl⟩
 go_wp2_with (refine (iq 0 (by omega) _).mono ?_;rintro e w2 ⟨rfl,rfl⟩)
 go_ret
 exact ⟨rfl,rfl⟩

theorem Aj {g:Nat} {s:RS} {w:World} (h:Rdr w g s.1 s.2) (hs:RSok s):Calls Tryz.prog 267 #[.pointer (some ⟨g,0,none⟩)] w (iw w g (.int .i64 (intS s).1) (intS s).2):=by
 obtain ⟨l,er⟩:=s
 have hl:=hs.2
 simp only at h hl
 unfold intS
 by_cases h0:er=0
 ·subst h0
  rw [if_pos rfl]
  refine (yT h (by omega)).mono ?_
  rcases ht:takeN 0 0 l with ⟨n,t⟩|e
  ·rintro en w1 ⟨rfl,hr,hg⟩
   exact ⟨rfl,hr,hg⟩
  ·rintro en w1 ⟨rfl,hr,hg⟩
   exact ⟨rfl,hr,hg⟩
 ·rw [if_neg h0]
  refine (Be h h0).mono ?_
  rintro en w1 ⟨rfl,rfl⟩
  exact ⟨rfl,h,World.grownBy.refl _ _⟩

def endS (s:RS):Int:=if s.2=0 then (if s.1=[] then 0 else 4) else s.2
theorem n9 {g:Nat} {s:RS} {w:World} (h:Rdr w g s.1 s.2):Calls Tryz.prog 67 #[.pointer (some ⟨g,0,none⟩)] w fun e w'=>e = .returned (.int .i64 (endS s))/\w=w':=fH h (endS s) rfl

def bk {α:Type} (f:RS->α × RS):Nat->RS->List α × RS
 | 0,s=>([],s)
 | k+1,s=>let r:=f s;let q:=bk f k r.2;(r.1::q.1,q.2)
theorem cH {α:Type} (f:RS->α × RS):∀(k:Nat) (s:RS),bk f (k+1) s=((bk f k s).1++[(f (bk f k s).2).1],(f (bk f k s).2).2):=by
 intro k
 induction k with
 | zero=>intro s;rfl
 | succ k ih =>
  intro s
  have h:=ih (f s).2
  show ((f s).1::(bk f (k+1) (f s).2).1,(bk f (k+1) (f s).2).2)=_
  rw [h]
  rfl
theorem Dm {α:Type} (f:RS->α × RS):∀(k:Nat) (s:RS),(bk f k s).1.length=k:=by
 intro k
 induction k with
 | zero=>intro s;rfl
 | succ k ih=>intro s;show ((f s).1::(bk f k (f s).2).1).length=k+1;rw [List.length_cons,ih]
theorem gI {α:Type} {f:RS->α × RS} (hf:∀s,RSok s->RSok (f s).2):∀(k:Nat) (s:RS),RSok s->RSok (bk f k s).2:=by
 intro k
 induction k with
 | zero=>intro s h;exact h
 | succ k ih=>intro s h;exact ih _ (hf s h)

def aX {α:Type} (most:Nat) (f:RS->α × RS) (s:RS):List α × RS:=bk f (numS most s).1 (numS most s).2
theorem eE {α:Type} {most:Nat} {f:RS->α × RS} (hf:∀s,RSok s->RSok (f s).2) {s:RS} (h:RSok s):RSok (aX most f s).2:=gI hf _ _ (aG h).1

theorem fI {x most:Nat} (t:List UInt8) (hx:x<18446744073709551616) (hm:x<=most):numS most (numB x++t,0)=(x,(t,0)):=by
 unfold numS
 rw [if_pos rfl]
 simp only
 rw [cW x most t hx hm]
theorem mt {x:Int} (t:List UInt8) (h1 : -9223372036854775808<=x) (h2:x<=9223372036854775807):intS (intB x++t,0)=(x,(t,0)):=by
 unfold intS intB
 rw [if_pos rfl]
 simp only
 rw [gH _ t (jv x h1 h2)]
 simp only
 rw [pT]
theorem vz {α:Type} {f:RS->α × RS} {b:α->List UInt8}:∀(l:List α) (t:List UInt8),(∀x∈l,∀t,f (b x++t,0)=(x,(t,0)))->bk f l.length (l.flatMap b++t,0)=(l,(t,0)):=by
 intro l
 induction l with
 | nil=>intro t _;rfl
 | cons x l ih =>
  intro t h
  rw [List.flatMap_cons,List.length_cons,List.append_assoc]
  show ((f _).1::(bk f l.length (f _).2).1,(bk f l.length (f _).2).2)=_
  rw [h x (by simp),ih t fun y hy=>h y (by simp [hy])]
theorem Dn {α:Type} {f:RS->α × RS} {b:α->List UInt8} {most:Nat} (l:List α) (t:List UInt8) (hm:l.length<=most) (hl:l.length<18446744073709551616) (h:∀x∈l,∀t,f (b x++t,0)=(x,(t,0))):aX most f (numB l.length++(l.flatMap b++t),0)=(l,(t,0)):=by
 unfold aX
 rw [fI _ hl hm]
 exact vz l t h

def Cuts {α:Type} (f:RS->α × RS) (b:List UInt8):Prop:=∀k,k<b.length->(f (b.take k,0)).2=([],2)

def dN {α:Type} (f:RS->α × RS):Prop:=(f ([],2)).2=([],2)
theorem j3 {x most:Nat} (hx:x<18446744073709551616):Cuts (numS most) (numB x):=fun k hk=>by
 unfold numS
 rw [if_pos rfl]
 simp only
 rw [dM x k most hx hk]
theorem oa {x:Int} (h1 : -9223372036854775808<=x) (h2:x<=9223372036854775807):Cuts intS (intB x):=fun k hk=>by
 unfold intS
 unfold intB at hk ⊢
 rw [if_pos rfl]
 simp only
 rw [gp _ k (jv x h1 h2) hk]
theorem Cz (most:Nat):dN (numS most):=rfl
theorem lp:dN intS:=rfl
theorem gq {α:Type} {f:RS->α × RS} (h:dN f):∀k,(bk f k ([],2)).2=([],2):=by
 intro k
 induction k with
 | zero=>rfl
 | succ k ih =>
  show (bk f k (f ([],2)).2).2=_
  rw [h,ih]
theorem pU {α:Type} {f:RS->α × RS} {most:Nat} (h:dN f):dN (aX most f):=by
 unfold dN aX
 exact gq h _
theorem eG {l m:List UInt8} {k:Nat} (h:k<l.length):(l++m).take k=l.take k:=by
 rw [List.take_append,Nat.sub_eq_zero_of_le (by omega),List.take_zero,List.append_nil]
theorem eH {l m:List UInt8} {k:Nat} (h:l.length<=k):(l++m).take k=l++m.take (k - l.length):=by
 rw [List.take_append,List.take_of_length_le h]
theorem sS {α:Type} {f:RS->α × RS} {b:α->List UInt8} (hf:dN f):∀(l:List α),(∀x∈l,(∀t,f (b x++t,0)=(x,(t,0)))/\Cuts f (b x))->Cuts (bk f l.length) (l.flatMap b):=by
 intro l
 induction l with
 | nil=>intro _ k hk;simp at hk
 | cons x l ih =>
  intro h k hk
  rw [List.flatMap_cons,List.length_append] at hk
  rw [List.flatMap_cons,List.length_cons]
  show (bk f l.length (f _).2).2=_
  by_cases hl:k<(b x).length
  ·rw [eG hl,(h x (by simp)).2 k hl]
   exact gq hf _
  ·rw [eH (by omega),(h x (by simp)).1]
   exact ih (fun y hy=>h y (by simp [hy])) _ (by omega)
theorem fJ {α:Type} {f:RS->α × RS} {b:α->List UInt8} {most:Nat} (hf:dN f) (l:List α) (hm:l.length<=most) (hl:l.length<18446744073709551616) (h:∀x∈l,(∀t,f (b x++t,0)=(x,(t,0)))/\Cuts f (b x)):Cuts (aX most f) (numB l.length++l.flatMap b):=fun k hk=>by
 rw [List.length_append] at hk
 unfold aX
 by_cases h1:k<(numB l.length).length
 ·rw [eG h1,j3 hl k h1]
  exact gq hf _
 ·rw [eH (by omega),fI _ hl hm]
  exact sS hf l h _ (by omega)
end Go.Proofs.YtnkjdijbfnmnhaaGreat
