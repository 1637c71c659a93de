/-
  Texts of this claim put together: Crc, Fnv, RingM.
-/
import Derived.Laws.BitsAllLaws

namespace Go.Proofs.YtnkjdijbfnmnhaaGreat

def bit1 (x:Nat):Nat:=if x % 2=1 then (x / 2) ^^^ 3988292384 else x / 2

def bitsN:Nat->Nat->Nat
 | 0,x=>x
 | k+1,x=>bit1 (bitsN k x)

def crcB (r:Nat) (b:UInt8):Nat:=bitsN 8 (r ^^^ b.toNat)
def crcR (r:Nat) (l:List UInt8):Nat:=l.foldl crcB r

def crc (l:List UInt8):Nat:=4294967295 - crcR 4294967295 l

def le4 (n:Nat):List UInt8:=[UInt8.ofNat n,UInt8.ofNat (n / 256),UInt8.ofNat (n / 65536),UInt8.ofNat (n / 16777216)]

theorem k6 {x y:Nat} (hx:x<4294967296) (hy:y<4294967296):x ^^^ y<4294967296:=Nat.xor_lt_two_pow (n:=32) hx hy
theorem Ey {x y:Nat} (hx:x<256) (hy:y<256):x ^^^ y<256:=Nat.xor_lt_two_pow (n:=8) hx hy
theorem AB {x:Nat} (h:x<4294967296):bit1 x<4294967296:=by
 unfold bit1
 split
 ·exact k6 (by omega) (by omega)
 ·omega
theorem fw:∀(k x:Nat),x<4294967296->bitsN k x<4294967296
 | 0,_,h=>h
 | k+1,x,h=>AB (fw k x h)
theorem po {r:Nat} (b:UInt8) (h:r<4294967296):crcB r b<4294967296:=fw 8 _ (k6 h (by have:=b.toNat_lt;omega))
theorem ie (l:List UInt8):∀r:Nat,r<4294967296->crcR r l<4294967296:=by
 induction l with
 | nil=>intro r h;exact h
 | cons b l ih=>intro r h;exact ih _ (po b h)
theorem z9 (l:List UInt8):crc l<4294967296:=by unfold crc;omega
theorem crcR_append (l m:List UInt8) (r:Nat):crcR r (l++m)=crcR (crcR r l) m:=by simp [crcR]
theorem t6 (l:List UInt8) (b:UInt8) (r:Nat):crcR r (l++[b])=crcB (crcR r l) b:=by simp [crcR]

theorem xX (x y:Nat):(x ^^^ y) % 2=(x % 2+y % 2) % 2:=by
 have h := @Nat.xor_mod_two_eq_one x y
 omega
theorem xY (x y:Nat):(x ^^^ y) / 2=x / 2 ^^^ y / 2:=by
 have:=Nat.shiftRight_xor_distrib (a:=x) (b:=y) (i:=1)
 simpa [Nat.shiftRight_eq_div_pow] using this
theorem xZ (x y:Nat):bit1 (x ^^^ y)=bit1 x ^^^ bit1 y:=by
 unfold bit1
 rw [xX,xY]
 have e:∀a b c:Nat,a ^^^ c ^^^ (b ^^^ c)=a ^^^ b:=fun a b c=>by
  rw [Nat.xor_comm b c,Nat.xor_assoc,<- Nat.xor_assoc c c b,Nat.xor_self,Nat.zero_xor]
 rcases Nat.mod_two_eq_zero_or_one x with a|a <;> rcases Nat.mod_two_eq_zero_or_one y with b|b <;> simp [a,b]
 ·rw [Nat.xor_assoc]
 ·rw [Nat.xor_assoc,Nat.xor_comm (y / 2),<- Nat.xor_assoc]
 ·rw [e]
theorem gB (k x y:Nat):bitsN k (x ^^^ y)=bitsN k x ^^^ bitsN k y:=by
 induction k with
 | zero=>rfl
 | succ k ih=>rw [bitsN,ih,xZ];rfl
theorem x9 (x:Nat):bit1 (2 * x)=x:=by unfold bit1;rw [if_neg (by omega)];omega
theorem Co (k x:Nat):bitsN k (bit1 x)=bit1 (bitsN k x):=by
 induction k with
 | zero=>rfl
 | succ k ih=>rw [bitsN,ih];rfl
theorem bitsN_add (j k x:Nat):bitsN j (bitsN k x)=bitsN (j+k) x:=by
 induction j with
 | zero=>simp [bitsN]
 | succ j ih=>rw [bitsN,ih,Nat.succ_add];rfl
theorem nH (k:Nat):∀x:Nat,bitsN k (2 ^ k * x)=x:=by
 induction k with
 | zero=>intro x;simp [bitsN]
 | succ k ih =>
  intro x
  rw [Nat.pow_succ,Nat.mul_assoc,bitsN,ih,x9]

theorem Ez (x:Nat):bitsN 4 x=x / 16 ^^^ bitsN 4 (x % 16):=by
 have e:x=2 ^ 4 * (x / 16) ^^^ x % 16:=by
  have h:2 ^ 4 * (x / 16) ^^^ x % 16=2 ^ 4 * (x / 16)+x % 16:=by
   have:=Nat.two_pow_add_eq_or_of_lt (i:=4) (b:=x % 16) (by omega) (x / 16)
   rw [this]
   apply Nat.eq_of_testBit_eq
   intro j
   rw [Nat.testBit_xor,Nat.testBit_or,Nat.testBit_two_pow_mul]
   by_cases hj:4<=j
   ·have:(x % 16).testBit j=false:=Nat.testBit_lt_two_pow (Nat.lt_of_lt_of_le (by omega:x % 16<2 ^ 4) (Nat.pow_le_pow_right (by omega) hj))
    simp [this]
   ·simp [hj]
  rw [h];omega
 have h2:=gB 4 (2 ^ 4 * (x / 16)) (x % 16)
 rw [<- e,nH] at h2
 exact h2
theorem t7 {x:Nat} (h:x<4294967296) (h0:bit1 x=0):x=0:=by
 unfold bit1 at h0
 split at h0
 ·have h2:x / 2=3988292384:=by
   have:=congrArg (fun z=>z ^^^ 3988292384) h0
   simpa [Nat.xor_assoc] using this
  omega
 ·omega
theorem ig:∀(k:Nat) {x:Nat},x<4294967296->bitsN k x=0->x=0
 | 0,_,_,h=>h
 | k+1,_,hx,h=>ig k hx (t7 (fw k _ hx) h)
theorem pq {x y:Nat} (h:x ^^^ y=0):x=y:=by
 have:=congrArg (fun z=>z ^^^ y) h
 simpa [Nat.xor_assoc] using this
theorem t8 {k x y:Nat} (hx:x<4294967296) (hy:y<4294967296) (h:bitsN k x=bitsN k y):x=y:=by
 refine pq (ig k (k6 hx hy) ?_)
 rw [gB,h,Nat.xor_self]
theorem lN {x y z:Nat} (h:x ^^^ z=y ^^^ z):x=y:=by
 have:=congrArg (fun w=>w ^^^ z) h
 simpa [Nat.xor_assoc] using this
theorem yd (l:List UInt8):∀ {x y:Nat},x<4294967296->y<4294967296->crcR x l=crcR y l->x=y:=by
 induction l with
 | nil=>intro x y _ _ h;exact h
 | cons b l ih =>
  intro x y hx hy h
  have hb:b.toNat<4294967296:=by have:=b.toNat_lt;omega
  have:=ih (po b hx) (po b hy) h
  exact lN (t8 (k6 hx hb) (k6 hy hb) this)

theorem t9 {x:Nat} (h:x<4294967296):4294967295 ^^^ x=4294967295 - x:=by
 have h2:x<2 ^ 32:=h
 apply Nat.eq_of_testBit_eq
 intro j
 rw [Nat.testBit_xor,show (4294967295:Nat)=2 ^ 32 - 1 from rfl,show 2 ^ 32 - 1 - x=2 ^ 32 - (x+1) from by omega,Nat.testBit_two_pow_sub_succ h2,Nat.testBit_two_pow_sub_one]
 by_cases hj:j<32
 ·simp [hj]
 ·have:x.testBit j=false:=Nat.testBit_lt_two_pow (Nat.lt_of_lt_of_le h2 (Nat.pow_le_pow_right (by omega) (by omega)))
  simp [hj,this]

theorem ua (k x:Nat):2 ^ k * (x / 2 ^ k) ^^^ x % 2 ^ k=x:=by
 have hp:0<2 ^ k:=Nat.two_pow_pos k
 have hlt:x % 2 ^ k<2 ^ k:=Nat.mod_lt _ hp
 have h:2 ^ k * (x / 2 ^ k) ^^^ x % 2 ^ k=2 ^ k * (x / 2 ^ k)+x % 2 ^ k:=by
  rw [Nat.two_pow_add_eq_or_of_lt hlt]
  apply Nat.eq_of_testBit_eq
  intro j
  rw [Nat.testBit_xor,Nat.testBit_or,Nat.testBit_two_pow_mul]
  by_cases hj:k<=j
  ·have:(x % 2 ^ k).testBit j=false:=Nat.testBit_lt_two_pow (Nat.lt_of_lt_of_le hlt (Nat.pow_le_pow_right (by omega) hj))
   simp [this]
  ·simp [hj]
 rw [h,Nat.div_add_mod]
theorem ud (X z:Nat):bitsN 8 (X ^^^ z ^^^ z % 256)=bitsN 8 X ^^^ z / 256:=by
 have e:z ^^^ z % 256=2 ^ 8 * (z / 256):=by
  have h:=ua 8 z
  have h2:=congrArg (fun y=>y ^^^ z % 2 ^ 8) h
  simp only [Nat.xor_assoc,Nat.xor_self,Nat.xor_zero] at h2
  exact h2.symm
 rw [Nat.xor_assoc,e,gB,nH]
theorem crcB_step (X z:Nat):crcB (X ^^^ z) (UInt8.ofNat z)=bitsN 8 X ^^^ z / 256:=by
 have e:(UInt8.ofNat z).toNat=z % 256:=by simp
 unfold crcB
 rw [e,ud]
theorem qY (R v:Nat) (hv:v<4294967296):crcR R (le4 v)=bitsN 32 (R ^^^ v):=by
 have e0:R=(R ^^^ v) ^^^ v:=by rw [Nat.xor_assoc,Nat.xor_self,Nat.xor_zero]
 generalize hX:R ^^^ v=X at e0
 subst e0
 clear hX
 show crcB (crcB (crcB (crcB (X ^^^ v) _) _) _) _=_
 rw [crcB_step,crcB_step,Nat.div_div_eq_div_mul,show 256 * 256=65536 from rfl,crcB_step,Nat.div_div_eq_div_mul,show 65536 * 256=16777216 from rfl,crcB_step,Nat.div_div_eq_div_mul,show v / (16777216 * 256)=0 by omega,Nat.xor_zero,bitsN_add,bitsN_add,bitsN_add]
theorem CM (l:List UInt8):crcR 4294967295 (l++le4 (crc l))=bitsN 32 4294967295:=by
 have h:=ie l 4294967295 (by omega)
 rw [crcR_append,qY _ _ (z9 l)]
 unfold crc
 rw [<- t9 h,Nat.xor_comm 4294967295,<- Nat.xor_assoc,Nat.xor_self,Nat.zero_xor]
theorem js (r s:Nat) (x y:UInt8):crcB (r ^^^ s) (x ^^^ y)=crcB r x ^^^ crcB s y:=by
 unfold crcB
 rw [UInt8.toNat_xor,show r ^^^ s ^^^ (x.toNat ^^^ y.toNat)=(r ^^^ x.toNat) ^^^ (s ^^^ y.toNat) by ac_rfl,gB]

theorem CN (p s:List UInt8) (a b c d:UInt8) (v:Nat) (hv:v<4294967296) (h0:v≠0) :
  crcR 4294967295 (p++[a,b,c,d]++s)≠crcR 4294967295 (p++[a ^^^ UInt8.ofNat v,b ^^^ UInt8.ofNat (v / 256),c ^^^ UInt8.ofNat (v / 65536),d ^^^ UInt8.ofNat (v / 16777216)]++s):=by
 intro h
 rw [crcR_append,crcR_append,crcR_append _ s,crcR_append p] at h
 have hR:=ie p 4294967295 (by omega)
 generalize crcR 4294967295 p=R at h hR
 have h4:=yd s (ie _ _ hR) (ie _ _ hR) h
 have e:crcR R [a ^^^ UInt8.ofNat v,b ^^^ UInt8.ofNat (v / 256),c ^^^ UInt8.ofNat (v / 65536),d ^^^ UInt8.ofNat (v / 16777216)]=crcR R [a,b,c,d] ^^^ crcR 0 (le4 v):=by
  show crcB (crcB (crcB (crcB R _) _) _) _=crcB (crcB (crcB (crcB R a) b) c) d ^^^ crcB (crcB (crcB (crcB 0 _) _) _) _
  rw [<- js,<- js,<- js,<- js,Nat.xor_zero]
 rw [e,qY 0 v hv,Nat.zero_xor] at h4
 have h5:bitsN 32 v=0:=by
  have:=congrArg (fun z=>crcR R [a,b,c,d] ^^^ z) h4
  simp only [<- Nat.xor_assoc,Nat.xor_self,Nat.zero_xor] at this
  exact this.symm
 exact h0 (ig 32 hv h5)

def bU:Nat:=18446744073709551616

def kP (a b:Nat):Nat:=(a * b) % bU
def fnvB (h:Nat) (b:UInt8):Nat:=kP (h ^^^ b.toNat) 1099511628211
def fnvR (h:Nat) (l:List UInt8):Nat:=l.foldl fnvB h
def fnv (l:List UInt8):Nat:=fnvR 14695981039346656037 l
def pr (h:Nat):Nat :=
 let x:=kP (h ^^^ h / 4294967296) 14029467366897019727
 x ^^^ x / 536870912

theorem lO (a b:Nat):kP a b<bU:=Nat.mod_lt _ (by decide)
theorem gC {x y:Nat} (hx:x<bU) (hy:y<bU):x ^^^ y<bU:=Nat.xor_lt_two_pow (n:=64) hx hy
theorem AC (h:Nat) (b:UInt8):fnvB h b<bU:=lO _ _
theorem AD (l:List UInt8):∀h,h<bU->fnvR h l<bU:=by
 induction l with
 | nil=>intro h hh;exact hh
 | cons b l ih=>intro h _;exact ih _ (AC h b)
theorem E4 (l:List UInt8):fnv l<bU:=by
 unfold fnv
 exact AD l _ (by unfold bU;omega)
theorem AE (l m:List UInt8) (h:Nat):fnvR h (l++m)=fnvR (fnvR h l) m:=by simp [fnvR]
theorem ii {α β:Type} (f:α->β->α) (l:List β) (b:β) (h:α):(l++[b]).foldl f h=f (l.foldl f h) b:=by simp
theorem ue (l:List UInt8) (b:UInt8) (h:Nat):fnvR h (l++[b])=fnvB (fnvR h l) b:=ii fnvB l b h
theorem CO (l:List UInt8) (h k:Nat) (hk:k<l.length):fnvR h (l.take (k+1))=fnvB (fnvR h (l.take k)) l[k]:=by
 rw [List.take_succ_eq_append_getElem hk,ue]

theorem k7 {c d x:Nat} (hcd:c * d % bU=1) (hx:x<bU):kP (kP x c) d=x:=by
 unfold kP
 rw [Nat.mod_mul_mod,Nat.mul_assoc,Nat.mul_mod,hcd,Nat.mul_one,Nat.mod_mod,Nat.mod_eq_of_lt hx]
theorem nI {c d x y:Nat} (hcd:c * d % bU=1) (hx:x<bU) (hy:y<bU) (h:kP x c=kP y c):x=y:=by
 rw [<- k7 hcd hx,h,k7 hcd hy]
theorem uf (x y k:Nat):(x ^^^ y) / 2 ^ k=x / 2 ^ k ^^^ y / 2 ^ k:=by
 have:=Nat.shiftRight_xor_distrib (a:=x) (b:=y) (i:=k)
 simpa [Nat.shiftRight_eq_div_pow] using this
theorem k8 {x y:Nat} (h:x ^^^ y=0):x=y:=by
 have:=congrArg (fun z=>z ^^^ y) h
 simpa [Nat.xor_assoc] using this
theorem sn {x y z:Nat} (h:z ^^^ x=z ^^^ y):x=y:=by
 have:=congrArg (fun w=>z ^^^ w) h
 simpa [<- Nat.xor_assoc] using this

theorem qZ {x y k:Nat} (hk:0<k) (h:x ^^^ x / 2 ^ k=y ^^^ y / 2 ^ k):x=y:=by
 apply k8
 have e:x ^^^ y=(x ^^^ y) / 2 ^ k:=by
  rw [uf]
  have h1:(x ^^^ x / 2 ^ k) ^^^ (y ^^^ y / 2 ^ k)=0:=by rw [h,Nat.xor_self]
  have h2:(x ^^^ x / 2 ^ k) ^^^ (y ^^^ y / 2 ^ k)=(x ^^^ y) ^^^ (x / 2 ^ k ^^^ y / 2 ^ k):=by
   rw [Nat.xor_assoc,<- Nat.xor_assoc (x / 2 ^ k),Nat.xor_comm (x / 2 ^ k) y,Nat.xor_assoc y,<- Nat.xor_assoc x]
  exact k8 (h2.symm.trans h1)
 rcases Nat.eq_zero_or_pos (x ^^^ y) with h0|h0
 ·exact h0
 ·have:(x ^^^ y) / 2 ^ k<x ^^^ y:=Nat.div_lt_self h0 (Nat.one_lt_two_pow (by omega))
  omega
theorem D8 {h:Nat}:pr h<bU:=by
 unfold pr
 exact gC (lO _ _) (Nat.lt_of_le_of_lt (Nat.div_le_self _ _) (lO _ _))
theorem CP {x y:Nat} (hx:x<bU) (hy:y<bU) (h:pr x=pr y):x=y:=by
 unfold pr at h
 have h1:=qZ (k:=29) (by omega) h
 have h2:=nI (c:=14029467366897019727) (d:=839798700976720815) (by decide)
  (gC hx (Nat.lt_of_le_of_lt (Nat.div_le_self _ _) hx)) (gC hy (Nat.lt_of_le_of_lt (Nat.div_le_self _ _) hy)) h1
 exact qZ (k:=32) (by omega) h2
theorem D9 {h:Nat} {x y:UInt8} (hh:h<bU) (e:fnvB h x=fnvB h y):x=y:=by
 have bx:x.toNat<bU:=Nat.lt_of_lt_of_le x.toNat_lt (by decide)
 have by':y.toNat<bU:=Nat.lt_of_lt_of_le y.toNat_lt (by decide)
 have:=nI (c:=1099511628211) (d:=14886173955864302971) (by decide) (gC hh bx) (gC hh by') e
 exact UInt8.toNat_inj.1 (sn this)

theorem CQ (a b:Nat) :
  ((a % 4294967296) * (b % 4294967296)+((((a % 4294967296) * (b / 4294967296)+(a / 4294967296) * (b % 4294967296)) % bU) % 4294967296) * 4294967296) % bU=kP a b:=by
 have e:bU=4294967296 * 4294967296:=by decide
 rw [e,Nat.mod_mul_left_mod]
 unfold kP
 rw [e]
 generalize hal:a % 4294967296=al
 generalize hah:a / 4294967296=ah
 generalize hbl:b % 4294967296=bl
 generalize hbh:b / 4294967296=bh
 have ha:a=4294967296 * ah+al:=by omega
 have hb':b=4294967296 * bh+bl:=by omega
 rw [ha,hb',<- Nat.mul_mod_mul_right,Nat.add_mod_mod]
 have:(4294967296 * ah+al) * (4294967296 * bh+bl)=al * bl+(al * bh+ah * bl) * 4294967296+(4294967296 * 4294967296) * (ah * bh):=by
  simp only [Nat.mul_add,Nat.add_mul]
  ac_nf
 rw [this,Nat.add_mul_mod_self_left]

abbrev Pt:=Nat × UInt8
def ptLt (a b:Pt):Bool:=decide (a.1<b.1) || (decide (a.1=b.1) && decide (a.2.toNat<b.2.toNat))
def ptLe (a b:Pt):Bool := !ptLt b a
theorem q9 (a b:Pt):ptLt a b=true ↔ a.1<b.1∨a.1=b.1/\a.2.toNat<b.2.toNat:=by simp [ptLt]
theorem ptLe_iff (a b:Pt):ptLe a b=true ↔ ¬(b.1<a.1∨b.1=a.1/\b.2.toNat<a.2.toNat):=by rw [<- q9];simp [ptLe]
theorem k9 (a b c:Pt) (h:ptLe a b=true) (k:ptLe b c=true):ptLe a c=true:=by
 rw [ptLe_iff] at *
 omega
theorem sp (a b:Pt):(ptLe a b || ptLe b a)=true:=by
 rw [Bool.or_eq_true,ptLe_iff,ptLe_iff]
 omega
theorem uh {a b:Pt} (h:ptLe a b=true) (k:ptLe b a=true):a=b:=by
 rw [ptLe_iff] at *
 obtain ⟨x,m⟩:=a
 obtain ⟨y,n⟩:=b
 simp only at h k
 have h1:x=y:=by omega
 have h2:m.toNat=n.toNat:=by omega
 rw [h1,UInt8.toNat_inj.1 h2]
theorem ss {l m:List Pt} (hl:l.Pairwise fun a b=>ptLe a b=true) (hm:m.Pairwise fun a b=>ptLe a b=true) (hp:l.Perm m):l=m :=
 hp.eq_of_pairwise (fun _ _ _ _ h k=>uh h k) hl hm
def srt (l:List Pt):List Pt:=l.mergeSort ptLe
theorem jt (l:List Pt):(srt l).Perm l:=List.mergeSort_perm l ptLe
theorem gD (l:List Pt):(srt l).Pairwise fun a b=>ptLe a b=true:=List.pairwise_mergeSort k9 sp l
theorem ui {l m:List Pt} (hm:m.Pairwise fun a b=>ptLe a b=true) (hp:m.Perm l):srt l=m:=ss (gD l) hm ((jt l).trans hp.symm)
theorem uj {l m:List Pt} (hp:l.Perm m):srt l=srt m:=ui (gD m) ((jt m).trans hp.symm)

def cy (acc:List UInt8) (n:UInt8):List UInt8:=if acc.contains n then acc else acc++[n]
def nubR (acc l:List UInt8):List UInt8:=l.foldl cy acc
def nubs (l:List UInt8):List UInt8:=nubR [] l
theorem dU {acc:List UInt8} {n:UInt8} (h:n∈acc):cy acc n=acc:=by simp [cy,h]
theorem cQ {acc:List UInt8} {n:UInt8} (h:n ∉ acc):cy acc n=acc++[n]:=by simp [cy,h]
theorem fc (acc:List UInt8) (n:UInt8) (l:List UInt8):nubR acc (n::l)=nubR (cy acc n) l:=rfl
theorem gh (acc l m:List UInt8):nubR acc (l++m)=nubR (nubR acc l) m:=by simp [nubR]
theorem nJ (l:List UInt8) (k:Nat) (hk:k<l.length):nubs (l.take (k+1))=cy (nubs (l.take k)) l[k]:=by
 rw [nubs,List.take_succ_eq_append_getElem hk,gh]
 rfl
theorem pu (acc:List UInt8) (n x:UInt8):x∈cy acc n ↔ x∈acc∨x=n:=by
 unfold cy
 split
 ·rename_i h
  have h:n∈acc:=by simpa using h
  exact ⟨.inl,fun k=>k.elim id (fun e=>e ▸ h)⟩
 ·simp
theorem ye (l:List UInt8):∀(acc:List UInt8) (x:UInt8),x∈nubR acc l ↔ x∈acc∨x∈l:=by
 induction l with
 | nil=>intro acc x;simp [nubR]
 | cons n l ih=>intro acc x;rw [fc,ih,pu,List.mem_cons,or_assoc]
theorem mem_nubs (l:List UInt8) (x:UInt8):x∈nubs l ↔ x∈l:=by rw [nubs,ye];simp
theorem lP {acc:List UInt8} (h:acc.Nodup) (n:UInt8):(cy acc n).Nodup:=by
 by_cases hn:n∈acc
 ·rwa [dU hn]
 ·rw [cQ hn]
  refine List.nodup_append.2 ⟨h,by simp,?_⟩
  intro a ha b hb e
  simp at hb
  subst hb e
  exact hn ha
theorem su (l:List UInt8):∀acc:List UInt8,acc.Nodup->(nubR acc l).Nodup:=by
 induction l with
 | nil=>intro acc h;exact h
 | cons n l ih=>intro acc h;exact ih _ (lP h n)
theorem ij (l:List UInt8):(nubs l).Nodup:=su l [] (by simp)
theorem kQ (p:UInt8->Bool) (acc:List UInt8) (n:UInt8):(cy acc n).filter p=if p n then cy (acc.filter p) n else acc.filter p:=by
 by_cases hn:n∈acc
 ·rw [dU hn]
  split
  ·rename_i h
   rw [dU (List.mem_filter.2 ⟨hn,h⟩)]
  ·rfl
 ·rw [cQ hn,List.filter_append]
  split
  ·rename_i h
   rw [cQ (fun k=>hn (List.mem_filter.1 k).1)]
   simp [h]
  ·rename_i h
   simp [h]
theorem pw (p:UInt8->Bool) (l:List UInt8):∀acc:List UInt8,(nubR acc l).filter p=nubR (acc.filter p) (l.filter p):=by
 induction l with
 | nil=>intro acc;rfl
 | cons n l ih =>
  intro acc
  rw [fc,ih,kQ,List.filter_cons]
  split
  ·rw [fc]
  ·rfl
theorem px (p:UInt8->Bool) (l:List UInt8):(nubs l).filter p=nubs (l.filter p):=pw p l []
theorem ju {l m:List UInt8} (hl:l.Nodup) (hm:m.Nodup) (h:∀x,x∈l ↔ x∈m):l.Perm m:=(List.perm_ext_iff_of_nodup hl hm).2 h
theorem AF (l:List UInt8):(nubs l).length<=l.length:=by
 have:∀(l acc:List UInt8),(nubR acc l).length<=acc.length+l.length:=by
  intro l
  induction l with
  | nil=>intro acc;simp [nubR]
  | cons n l ih =>
   intro acc
   rw [fc]
   have h1:=ih (cy acc n)
   have h2:(cy acc n).length<=acc.length+1:=by
    unfold cy
    split <;> simp
   simp
   omega
 have h:=this l []
 rw [List.length_nil,Nat.zero_add] at h
 exact h

def uk (n v:UInt8):Nat:=pr (fnv [110,n,v])
def keyN (k:UInt8):Nat:=pr (fnv [107,k])
def ei (n:UInt8) (k:Nat):List Pt:=(List.range k).map fun v=>(uk n (UInt8.ofNat v),n)
def jH (n:UInt8):List Pt:=ei n 8
theorem Aa (n:UInt8) (k:Nat):ei n (k+1)=ei n k++[(uk n (UInt8.ofNat k),n)]:=by simp [ei,List.range_succ]
theorem py (n:UInt8) (k:Nat):(ei n k).length=k:=by simp [ei]
theorem um (n:UInt8):(jH n).length=8:=py n 8
theorem pz {n:UInt8} {k:Nat} {p:Pt} (h:p∈ei n k):p.2=n:=by
 simp only [ei,List.mem_map] at h
 obtain ⟨v,_,rfl⟩:=h
 rfl
theorem jI {n:UInt8} {p:Pt} (h:p∈jH n):p.2=n:=pz h
theorem sv (n:UInt8):∃p∈jH n,p.2=n:=⟨(uk n 0,n),by simp [jH,ei];exact ⟨0,by omega,rfl⟩,rfl⟩
def rawM (nodes:List UInt8):List Pt:=(nubs nodes).flatMap jH
def fd (nodes:List UInt8):List Pt:=srt (rawM nodes)
theorem un (l:List UInt8):(l.flatMap jH).length=8 * l.length:=by
 induction l with
 | nil=>rfl
 | cons n l ih=>simp [um,ih];omega
theorem yf (nodes:List UInt8):(rawM nodes).length=8 * (nubs nodes).length:=un _
theorem Ab (l:List UInt8) (k:Nat) (hk:k<l.length) (h:l[k]∈nubs (l.take k)):rawM (l.take (k+1))=rawM (l.take k):=by
 unfold rawM
 rw [nJ l k hk,dU h]
theorem yg (l:List UInt8) (k:Nat) (hk:k<l.length) (h:l[k] ∉ nubs (l.take k)):rawM (l.take (k+1))=rawM (l.take k)++jH l[k]:=by
 unfold rawM
 rw [nJ l k hk,cQ h]
 simp
theorem fA (nodes:List UInt8):(fd nodes).Perm (rawM nodes):=jt _
theorem CR (nodes:List UInt8):(fd nodes).length=8 * (nubs nodes).length:=by rw [(fA nodes).length_eq,yf]
theorem pB {l m:List UInt8} (h:∀x,x∈l ↔ x∈m):fd l=fd m :=
 uj ((ju (ij l) (ij m) fun x=>by rw [mem_nubs,mem_nubs,h]).flatMap_right jH)
theorem nK (nodes:List UInt8) (x:UInt8):(∃p∈fd nodes,p.2=x) ↔ x∈nodes:=by
 constructor
 ·rintro ⟨p,hp,rfl⟩
  rw [(fA nodes).mem_iff] at hp
  obtain ⟨n,hn,hpn⟩:=List.mem_flatMap.1 hp
  rw [jI hpn]
  exact (mem_nubs _ _).1 hn
 ·intro hx
  obtain ⟨p,hp,e⟩:=sv x
  exact ⟨p,(fA nodes).mem_iff.2 (List.mem_flatMap.2 ⟨x,(mem_nubs _ _).2 hx,hp⟩),e⟩
theorem sw {nodes:List UInt8} {m:UInt8} (hm:m ∉ nodes):(fd (nodes++[m])).filter (fun p=>p.2 != m)=fd nodes:=by
 symm
 refine ui ((gD _).filter _) ?_
 have h1:nubs (nodes++[m])=nubs nodes++[m]:=by
  rw [nubs,gh]
  exact cQ (fun h=>hm ((mem_nubs _ _).1 h))
 have h2:(rawM (nodes++[m])).filter (fun p=>p.2 != m)=rawM nodes:=by
  unfold rawM
  rw [h1,List.flatMap_append,List.filter_append]
  have h3:((nubs nodes).flatMap jH).filter (fun p=>p.2 != m)=(nubs nodes).flatMap jH:=by
   rw [List.filter_eq_self]
   intro p hp
   obtain ⟨n,hn,hpn⟩:=List.mem_flatMap.1 hp
   rw [jI hpn,bne_iff_ne]
   rintro rfl
   exact hm ((mem_nubs _ _).1 hn)
  have h4:([m].flatMap jH).filter (fun p=>p.2 != m)=[]:=by
   rw [List.filter_eq_nil_iff]
   intro p hp
   obtain ⟨n,hn,hpn⟩:=List.mem_flatMap.1 hp
   simp at hn
   rw [jI hpn,hn]
   simp
  rw [h3,h4,List.append_nil]
 rw [<- h2]
 exact (fA _).filter _

def kR (many:Int) (q:Pt->Bool) (acc:List UInt8) (p:Pt):List UInt8:=if decide ((acc.length:Int)<many) && (q p && !acc.contains p.2) then acc++[p.2] else acc
def fX (many:Int) (q:Pt->Bool) (acc:List UInt8) (ring:List Pt):List UInt8:=ring.foldl (kR many q) acc
def yh (place:Nat) (p:Pt):Bool:=decide (place<=p.1)
def uq (place:Nat) (p:Pt):Bool:=decide (p.1<place)
def pC (ring:List Pt) (place:Nat) (many:Int):List UInt8:=fX many (uq place) (fX many (yh place) [] ring) ring
theorem Cp (many:Int) (q:Pt->Bool) (acc:List UInt8) (ring:List Pt) (k:Nat) (hk:k<ring.length) :
  fX many q acc (ring.take (k+1))=kR many q (fX many q acc (ring.take k)) ring[k]:=by
 unfold fX
 rw [List.take_succ_eq_append_getElem hk,ii]
theorem ik {many:Int} {q:Pt->Bool} {acc:List UInt8} (h:¬(acc.length:Int)<many) (p:Pt):kR many q acc p=acc:=by simp [kR,h]
theorem sx {many:Int} {q:Pt->Bool} {acc:List UInt8} (h:¬(acc.length:Int)<many) (ring:List Pt):fX many q acc ring=acc:=by
 induction ring with
 | nil=>rfl
 | cons p ring ih =>
  show fX many q (kR many q acc p) ring=acc
  rw [ik h,ih]
theorem Cq {many:Int} {q:Pt->Bool} {acc:List UInt8} {ring:List Pt} {k:Nat} (h:¬((fX many q acc (ring.take k)).length:Int)<many):fX many q acc (ring.take k)=fX many q acc ring:=by
 conv=>rhs;rw [<- List.take_append_drop k ring]
 have:∀a b:List Pt,fX many q acc (a++b)=fX many q (fX many q acc a) b:=fun a b=>by simp [fX]
 rw [this,sx h]
theorem pD {A:List UInt8} {m:Nat} {x:UInt8} (h:x∈A) (hn:x ∉ A.take m):¬(A.take m).length<m:=by
 rw [List.length_take]
 intro hl
 have:A.take m=A:=List.take_of_length_le (by omega)
 rw [this] at hn
 exact hn h
theorem walkK_nubs (many:Int) (q:Pt->Bool) (ring:List Pt):∀A:List UInt8,fX many q (A.take many.toNat) ring=(nubR A ((ring.filter q).map (·.2))).take many.toNat:=by
 induction ring with
 | nil=>intro A;rfl
 | cons p ring ih =>
  intro A
  show fX many q (kR many q (A.take many.toNat) p) ring=_
  have key:kR many q (A.take many.toNat) p=(if q p then cy A p.2 else A).take many.toNat:=by
   by_cases hq:q p=true
   ·rw [if_pos hq]
    by_cases hA:p.2∈A
    ·rw [dU hA]
     by_cases hT:p.2∈A.take many.toNat
     ·simp [kR,hT]
     ·exact ik (by have:=pD hA hT;omega) p
    ·rw [cQ hA]
     have hT:p.2 ∉ A.take many.toNat:=fun h=>hA (List.mem_of_mem_take h)
     by_cases hl:A.length<many.toNat
     ·have e:A.take many.toNat=A:=List.take_of_length_le (by omega)
      rw [e,List.take_of_length_le (by simp;omega)]
      have hl':(A.length:Int)<many:=by omega
      simp [kR,hq,hl',hA]
     ·rw [ik (by rw [List.length_take];omega),List.take_append_of_le_length (by omega)]
   ·simp [kR,hq]
  rw [key,ih]
  by_cases hq:q p=true
  ·rw [if_pos hq,List.filter_cons,if_pos hq,List.map_cons,fc]
  ·rw [if_neg hq,List.filter_cons,if_neg hq]
def rotM (ring:List Pt) (place:Nat):List UInt8:=(ring.filter (yh place)).map (·.2)++(ring.filter (uq place)).map (·.2)
def allK (ring:List Pt) (place:Nat):List UInt8:=nubs (rotM ring place)
theorem keepM_eq (ring:List Pt) (place:Nat) (many:Int):pC ring place many=(allK ring place).take many.toNat:=by
 unfold pC allK rotM
 have h:=walkK_nubs many (yh place) ring []
 rw [List.take_nil] at h
 rw [h,walkK_nubs,nubs,gh]
theorem ra (ring:List Pt) (place:Nat) (x:UInt8):x∈allK ring place ↔ ∃p∈ring,p.2=x:=by
 rw [allK,mem_nubs,rotM,List.mem_append,List.mem_map,List.mem_map]
 constructor
 ·rintro (⟨p,hp,e⟩ | ⟨p,hp,e⟩)
  ·exact ⟨p,(List.mem_filter.1 hp).1,e⟩
  ·exact ⟨p,(List.mem_filter.1 hp).1,e⟩
 ·rintro ⟨p,hp,e⟩
  by_cases h:place<=p.1
  ·exact .inl ⟨p,List.mem_filter.2 ⟨hp,by simp [yh,h]⟩,e⟩
  ·exact .inr ⟨p,List.mem_filter.2 ⟨hp,by simp [uq];omega⟩,e⟩
theorem lc (ring:List Pt) (place:Nat):(allK ring place).Nodup:=ij _
theorem pE (ring:List Pt) (place:Nat) (m:UInt8):(allK ring place).filter (fun n=>n != m)=allK (ring.filter fun p=>p.2 != m) place:=by
 unfold allK rotM
 rw [px,List.filter_append,List.filter_map,List.filter_map,List.filter_filter,List.filter_filter,List.filter_filter,List.filter_filter]
 congr 2
 ·congr 1
  congr 1
  funext p
  simp [Bool.and_comm]
 ·congr 1
  congr 1
  funext p
  simp [Bool.and_comm]
theorem pF (ring:List Pt) (place:Nat) (many:Int):(pC ring place many).Nodup:=by
 rw [keepM_eq]
 exact (lc ring place).sublist (List.take_sublist _ _)
theorem nL (ring:List Pt) (place:Nat) (many:Int):((pC ring place many).length:Int)<=max many 0:=by
 rw [keepM_eq,List.length_take]
 omega

theorem yi {L:List UInt8} (hL:L.Nodup) (m:UInt8) (k:Nat) :
  (((L.filter (fun n=>n != m)).take k).filter (fun x => !(L.take k).contains x)).length<=1/\(∀x∈L.take k,x=m∨x∈(L.filter (fun n=>n != m)).take k) /\
   ((L.filter (fun n=>n != m)).take k).length<=(L.take k).length:=by
 have e:L.filter (fun n=>n != m)=(L.take k).filter (fun n=>n != m)++(L.drop k).filter (fun n=>n != m):=by
  rw [<- List.filter_append,List.take_append_drop]
 have hA:(L.take k).Nodup:=hL.sublist (List.take_sublist _ _)
 have hc:(L.take k).length<=((L.take k).filter (fun n=>n != m)).length+1:=by
  have:∀A:List UInt8,A.Nodup->A.length<=(A.filter (fun n=>n != m)).length+1:=by
   intro A
   induction A with
   | nil=>intro _;simp
   | cons x A ih =>
    intro hn
    rw [List.nodup_cons] at hn
    by_cases hx:x=m
    ·subst hx
     have:A.filter (fun n=>n != x)=A:=by
      rw [List.filter_eq_self]
      intro y hy
      rw [bne_iff_ne]
      rintro rfl
      exact hn.1 hy
     rw [List.filter_cons_of_neg (by simp),this]
     simp
    ·rw [List.filter_cons_of_pos (by simp [hx])]
     have:=ih hn.2
     simp
     omega
  exact this _ hA
 have hle:((L.take k).filter (fun n=>n != m)).length<=k:=Nat.le_trans (List.length_filter_le _ _) (by rw [List.length_take];omega)
 have ht:(L.filter (fun n=>n != m)).take k=(L.take k).filter (fun n=>n != m)++((L.drop k).filter (fun n=>n != m)).take (k - ((L.take k).filter (fun n=>n != m)).length):=by
  rw [e,List.take_append]
  rw [List.take_of_length_le hle]
 refine ⟨?_,fun x hx => ?_,?_⟩
 ·rw [ht,List.filter_append]
  have h1:((L.take k).filter (fun n=>n != m)).filter (fun x => !(L.take k).contains x)=[]:=by
   rw [List.filter_eq_nil_iff]
   intro x hx
   have:=(List.mem_filter.1 hx).1
   simp [this]
  rw [h1,List.nil_append]
  refine Nat.le_trans (List.length_filter_le _ _) ?_
  rw [List.length_take]
  by_cases hd:k<=L.length
  ·rw [List.length_take] at hc
   omega
  ·rw [List.drop_of_length_le (by omega)]
   simp
 ·by_cases hxm:x=m
  ·exact .inl hxm
  ·right
   rw [ht]
   exact List.mem_append_left _ (List.mem_filter.2 ⟨hx,by simp [hxm]⟩)
 ·rw [List.length_take,List.length_take]
  have:=List.length_filter_le (fun n=>n != m) L
  omega

def leB (a b:UInt8):Bool:=decide (a.toNat<=b.toNat)
theorem ur (a b c:UInt8) (h:leB a b=true) (k:leB b c=true):leB a c=true:=by simp [leB] at *;omega
theorem ut (a b:UInt8):(leB a b || leB b a)=true:=by simp [leB];omega
theorem yj {a b:UInt8} (h:leB a b=true) (k:leB b a=true):a=b:=by
 simp [leB] at h k
 exact UInt8.toNat_inj.1 (by omega)
def upB (l:List UInt8):List UInt8:=l.mergeSort leB
theorem eo (l:List UInt8):(upB l).Perm l:=List.mergeSort_perm l leB
theorem CS {l m:List UInt8} (hm:m.Pairwise fun a b=>leB a b=true) (hp:m.Perm l):upB l=m :=
 ((eo l).trans hp.symm).eq_of_pairwise (fun _ _ _ _ h k=>yj h k) (List.pairwise_mergeSort ur ut l) hm

def listed (l:List UInt8) (k:Nat):List UInt8:=((List.range k).map UInt8.ofNat).filter fun n=>l.contains n
theorem AG (l:List UInt8) (k:Nat):listed l (k+1)=if l.contains (UInt8.ofNat k) then listed l k++[UInt8.ofNat k] else listed l k:=by
 unfold listed
 rw [List.range_succ,List.map_append,List.filter_append]
 by_cases h:UInt8.ofNat k∈l
 ·simp [h]
 ·simp [h]
theorem Cr {l:List UInt8} (hl:l.Nodup):upB l=listed l 256:=by
 have hr:((List.range 256).map UInt8.ofNat).Pairwise (fun a b=>leB a b=true/\a≠b):=by decide +kernel
 refine CS ((hr.imp fun h=>h.1).filter _) (ju ((hr.imp fun h=>h.2).filter _) hl fun x => ?_)
 rw [listed,List.mem_filter]
 constructor
 ·intro h
  simpa using h.2
 ·intro h
  refine ⟨List.mem_map.2 ⟨x.toNat,by have:=x.toNat_lt;simp;omega,by simp⟩,by simpa using h⟩
def ofM (nodes:List UInt8) (key:UInt8):List UInt8:=upB (pC (fd nodes) (keyN key) 3)
theorem uu {l m:List UInt8} (h:∀x,x∈l ↔ x∈m) (key:UInt8):ofM l key=ofM m key:=by rw [ofM,ofM,pB h]
theorem EA (nodes:List UInt8) (key:UInt8):(ofM nodes key).length<=3:=by
 have:=nL (fd nodes) (keyN key) 3
 rw [ofM,(eo _).length_eq]
 omega

theorem CT (nodes:List UInt8) (m key:UInt8) :
  ((ofM nodes key).filter (fun x => !(ofM (nodes++[m]) key).contains x)).length<=1/\(∀x∈ofM (nodes++[m]) key,x=m∨x∈ofM nodes key)/\(ofM nodes key).length<=(ofM (nodes++[m]) key).length:=by
 by_cases hm:m∈nodes
 ·rw [uu (l:=nodes++[m]) (m:=nodes) (fun x=>by rw [List.mem_append,List.mem_singleton];exact ⟨fun h=>h.elim id (fun e=>e ▸ hm), .inl⟩)]
  refine ⟨?_,fun x hx => .inr hx,Nat.le_refl _⟩
  rw [List.filter_eq_nil_iff.2 (fun x hx=>by simp [hx])]
  simp
 ·obtain ⟨h1,h2,h3⟩:=yi (lc (fd (nodes++[m])) (keyN key)) m 3
  rw [pE,sw hm] at h1 h2 h3
  have ea:(ofM nodes key).Perm ((allK (fd nodes) (keyN key)).take 3):=by
   rw [<- show pC (fd nodes) (keyN key) 3=(allK (fd nodes) (keyN key)).take 3 from keepM_eq _ _ _]
   exact eo _
  have eb:(ofM (nodes++[m]) key).Perm ((allK (fd (nodes++[m])) (keyN key)).take 3):=by
   rw [<- show pC (fd (nodes++[m])) (keyN key) 3=(allK (fd (nodes++[m])) (keyN key)).take 3 from keepM_eq _ _ _]
   exact eo _
  refine ⟨?_,fun x hx => ?_,?_⟩
  ·rw [(ea.filter _).length_eq]
   refine Nat.le_trans (Nat.le_of_eq ?_) h1
   congr 1
   congr 1
   funext x
   congr 1
   rw [Bool.eq_iff_iff]
   simp [eb.mem_iff]
  ·rcases h2 x (eb.mem_iff.1 hx) with h|h
   ·exact .inl h
   ·exact .inr (ea.mem_iff.2 h)
  ·rw [ea.length_eq,eb.length_eq]
   exact h3

def dg (p:Pt) (s:List Pt × Bool) (x:Pt):List Pt × Bool:=if !s.2 && ptLt p x then (s.1++[p,x],true) else (s.1++[x],s.2)
def insR (p:Pt) (l:List Pt):List Pt × Bool:=l.foldl (dg p) ([],false)
def insP (p:Pt) (l:List Pt):List Pt:=if (insR p l).2 then (insR p l).1 else (insR p l).1++[p]
theorem CU (p:Pt) (l:List Pt) (k:Nat) (hk:k<l.length):insR p (l.take (k+1))=dg p (insR p (l.take k)) l[k]:=by
 unfold insR
 rw [List.take_succ_eq_append_getElem hk,ii]
theorem uw (p:Pt) (l:List Pt):∀acc:List Pt,l.foldl (dg p) (acc,true)=(acc++l,true):=by
 induction l with
 | nil=>intro acc;simp
 | cons x l ih =>
  intro acc
  rw [List.foldl_cons,show dg p (acc,true) x=(acc++[x],true) by simp [dg],ih]
  simp
theorem sy (p:Pt) (l:List Pt):∀acc:List Pt,(if (l.foldl (dg p) (acc,false)).2 then (l.foldl (dg p) (acc,false)).1 else (l.foldl (dg p) (acc,false)).1++[p])=acc++(l.takeWhile fun x => !ptLt p x)++p::(l.dropWhile fun x => !ptLt p x):=by
 induction l with
 | nil=>intro acc;simp
 | cons x l ih =>
  intro acc
  rw [List.foldl_cons]
  by_cases h:ptLt p x=true
  ·rw [show dg p (acc,false) x=(acc++[p,x],true) by simp [dg,h],uw]
   simp [h]
  ·rw [show dg p (acc,false) x=(acc++[x],false) by simp [dg,h],ih]
   simp [h]
theorem lQ (p:Pt) (l:List Pt):insP p l=(l.takeWhile fun x => !ptLt p x)++p::(l.dropWhile fun x => !ptLt p x):=by
 have:=sy p l []
 rw [List.nil_append] at this
 exact this
theorem jJ (p:Pt) (l:List Pt):(insP p l).Perm (l++[p]):=by
 rw [lQ]
 refine List.perm_middle.trans ?_
 rw [List.takeWhile_append_dropWhile]
 exact (List.perm_append_singleton p l).symm
theorem Ea (p:Pt) (l:List Pt):(insP p l).length=l.length+1:=by rw [(jJ p l).length_eq];simp
theorem sA (p:Pt) (l:List Pt) (h:l.Pairwise fun a b=>ptLe a b=true):(insP p l).Pairwise fun a b=>ptLe a b=true:=by
 induction l with
 | nil=>rw [lQ];simp
 | cons x l ih =>
  rw [List.pairwise_cons] at h
  rw [lQ]
  by_cases hx:ptLt p x=true
  ·rw [List.takeWhile_cons_of_neg (by simp [hx]),List.dropWhile_cons_of_neg (by simp [hx]),List.nil_append,List.pairwise_cons]
   refine ⟨fun y hy => ?_,List.pairwise_cons.2 h⟩
   have hpx:ptLe p x=true:=by
    have:=(q9 p x).1 hx
    rw [ptLe_iff]
    omega
   rcases List.mem_cons.1 hy with rfl|hy
   ·exact hpx
   ·exact k9 _ _ _ hpx (h.1 y hy)
  ·rw [List.takeWhile_cons_of_pos (by simp [hx]),List.dropWhile_cons_of_pos (by simp [hx]),List.cons_append,<- lQ,List.pairwise_cons]
   refine ⟨fun y hy => ?_,ih h.2⟩
   rw [(jJ p l).mem_iff,List.mem_append,List.mem_singleton] at hy
   rcases hy with hy|rfl
   ·exact h.1 y hy
   ·simp [ptLe,hx]
theorem Eb (l:List Pt) (p:Pt):srt (l++[p])=insP p (srt l) :=
 ui (sA p _ (gD l)) ((jJ p _).trans ((jt l).append_right [p]))
end Go.Proofs.YtnkjdijbfnmnhaaGreat
