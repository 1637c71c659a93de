/-
  Texts of this claim put together: Foot, Reg, MayG, Wit6, RisDone, RisCell, RisMark.
-/
import Derived.Test.YtnkjdijbfnmnhaaGreatJ20
import Derived.Test.YtnkjdijbfnmnhaaGreatJ21
import Derived.Test.YtnkjdijbfnmnhaaGreatJ15
import Derived.Test.YtnkjdijbfnmnhaaGreatJ17
import Derived.Test.YtnkjdijbfnmnhaaGreatJ03
import Derived.Deep.RegionHeld
import Derived.IntWalk

namespace Go.Proofs.YtnkjdijbfnmnhaaGreat
set_option maxRecDepth 100000
set_option maxHeartbeats 12800000
open Go.RowKit

def noFt {α:Type} (_:α) (_:Nat):Prop:=False
def Sl.ft {α:Type} (f:α->Nat->Prop) (s:Sl α) (k:Nat):Prop:=(∃ad,s.A=some ad/\ad.block=k)∨∃x∈s.l,f x k

def Local {α:Type} (p:World->Nat->α->Prop) (f:α->Nat->Prop):Prop:=∀w w' B B' x,p w B x->(∀q:Addr,f x q.block->q.block<B->w'.cell? q=w.cell? q)->B<=B'->p w' B' x
theorem Sl.localOf {α:Type} {cs:α->List Value} {p:World->Nat->α->Prop} {f:α->Nat->Prop} (h:Local p f):Local (Sl.ok cs p) (Sl.ft f):=fun w w' B B' s hs hk hB =>
 ⟨hs.1,hs.2.1,fun hn=>by
  obtain ⟨ad,e,hb,hc⟩:=hs.2.2.1 hn
  exact ⟨ad,e,by omega,fun j u hu=>(hk _ (by rw [du];exact .inl ⟨ad,e,rfl⟩) (by rw [du];exact hb)).trans (hc j u hu)⟩,
  fun x hx=>h w w' B B' x (hs.2.2.2 x hx) (fun q hq hqb=>hk q (.inr ⟨x,hx,hq⟩) hqb) hB⟩
theorem bz {α:Type} (p:α->Prop):Local (fun _ _ (x:α)=>p x) noFt:=fun _ _ _ _ _ h _ _=>h

theorem iA:Local ll (Sl.ft noFt):=Sl.localOf (bz _)
def SetM.ft (s:SetM):Nat->Prop:=Sl.ft noFt s.val
theorem vO:Local SetM.ok SetM.ft:=fun w w' B B' x h hk hB=>⟨h.1,iA w w' B B' x.val h.2 hk hB⟩
def EmM.ft (s:EmM):Nat->Prop:=Sl.ft noFt s.arg
theorem zg:Local EmM.ok EmM.ft:=fun w w' B B' x h hk hB=>⟨h.1,h.2.1,iA w w' B B' x.arg h.2.2 hk hB⟩
def RuM.ft (r:RuM) (k:Nat):Prop:=Sl.ft noFt r.gu k∨Sl.ft SetM.ft r.se k∨Sl.ft EmM.ft r.em k
theorem ta:Local nY (Sl.ft SetM.ft):=Sl.localOf vO
theorem vQ:Local u7 (Sl.ft EmM.ft):=Sl.localOf zg
theorem zh:Local RuM.ok RuM.ft:=fun w w' B B' x h hk hB =>
 ⟨h.1,iA w w' B B' x.gu h.2.1 (fun q hq=>hk q (.inl hq)) hB,ta w w' B B' x.se h.2.2.1 (fun q hq=>hk q (.inr (.inl hq))) hB,vQ w w' B B' x.em h.2.2.2 (fun q hq=>hk q (.inr (.inr hq))) hB⟩
theorem Du:Local yI (Sl.ft RuM.ft):=Sl.localOf zh

def Lies {α:Type} (f:α->Nat->Prop) (x:α) (lo hi:Nat):Prop:=∀k,f x k->lo<=k/\k<hi
theorem Lies.more {α:Type} {f:α->Nat->Prop} {x:α} {lo hi lo' hi':Nat} (h:Lies f x lo hi) (h1:lo'<=lo) (h2:hi<=hi'):Lies f x lo' hi':=fun k hk=>⟨Nat.le_trans h1 (h k hk).1,Nat.lt_of_lt_of_le (h k hk).2 h2⟩

theorem Local.grown {α:Type} {p:World->Nat->α->Prop} {f:α->Nat->Prop} (hp:Local p f) {w w':World} {row:Option Nat} {x:α} (h:p w w.heap.size x) (hg:w.grownBy w' row) (hf:∀k,f x k->row≠some k):p w' w'.heap.size x :=
 hp w w' _ _ x h (fun q hq hb=>World.cell?_of_block (hg.block q.block hb fun e=>hf _ hq e.symm)) hg.size
theorem Local.below {α:Type} {p:World->Nat->α->Prop} {f:α->Nat->Prop} (hp:Local p f) {w w':World} {x:α} (h:p w w.heap.size x) (hg:Below w.heap.size w w'):p w' w'.heap.size x :=
 hp w w' _ _ x h (fun _ _ hb=>hg.cell hb) hg.size

structure Coll {α:Type} (T:TypeId) (q:Nat) (cs:α->List Value) (p:World->Nat->α->Prop) (f:α->Nat->Prop) (lo:Nat) (v:Value) (xs:List α) (w:World):Prop where
 own:w.ownsRow lo T q v xs.length (xs.flatMap cs)
 ok:∀x∈xs,p w w.heap.size x
 far:∀x∈xs,∀k,f x k->(lo<=k/\k<w.heap.size)/\v.ownBlock≠some k

section
variable {α : Type} {T : TypeId} {q : Nat} {cs : α -> List Value} {p : World -> Nat -> α -> Prop} {f : α -> Nat -> Prop} {lo : Nat} {v v' : Value} {xs : List α} {w w' : World}
theorem Coll.nil (w:World):Coll T q cs p f lo (.slice none 0 0) [] w:=⟨World.ownsRow_nil _ _ _ _,by simp,by simp⟩
theorem Coll.grown (h:Coll T q cs p f lo v xs w) (hp:Local p f) {g:Nat} (hg:w.grownBy w' (some g)) (hlt:g<lo):Coll T q cs p f lo v xs w' :=
 ⟨h.own.kept hg (by
   rcases hv:v.ownBlock with _|k
   ·exact .inl rfl
   ·have:=(h.own.lt k hv).1
    exact .inr (by simp;omega)),
  fun x hx=>hp.grown (h.ok x hx) hg fun k hk e=>by
   have:=(h.far x hx k hk).1.1
   injection e with e
   omega,
  fun x hx k hk=>by
   have:=h.far x hx k hk
   have:=hg.size
   exact ⟨by omega,(h.far x hx k hk).2⟩⟩
theorem Coll.below (h:Coll T q cs p f lo v xs w) (hp:Local p f) (hb:Below w.heap.size w w'):Coll T q cs p f lo v xs w' :=
 ⟨ao h.own hb,fun x hx=>hp.below (h.ok x hx) hb,fun x hx k hk=>by
   have:=h.far x hx k hk
   have:=hb.size
   exact ⟨by omega,(h.far x hx k hk).2⟩⟩
theorem Coll.snoc (h:Coll T q cs p f lo v xs w) (hp:Local p f) {x:α} (hx:p w w.heap.size x) (hf:∀k,f x k->(lo<=k/\k<w.heap.size)/\v.ownBlock≠some k) (hown:w'.ownsRow lo T q v' (xs.length+1) (xs.flatMap cs++cs x))
  (hg:w.grownBy w' v.ownBlock) (hblk:∀k,v'.ownBlock=some k->v.ownBlock=some k∨w.heap.size<=k):Coll T q cs p f lo v' (xs++[x]) w':=by
 refine ⟨by simpa using hown,fun y hy => ?_,fun y hy k hk => ?_⟩
 ·rcases List.mem_append.1 hy with hy|hy
  ·exact hp.grown (h.ok y hy) hg fun k hk=>(h.far y hy k hk).2
  ·rw [List.mem_singleton] at hy
   subst hy
   exact hp.grown hx hg fun k hk=>(hf k hk).2
 ·have hk2:(lo<=k/\k<w.heap.size)/\v.ownBlock≠some k:=by
   rcases List.mem_append.1 hy with hy|hy
   ·exact h.far y hy k hk
   ·rw [List.mem_singleton] at hy
    subst hy
    exact hf k hk
  have:=hg.size
  refine ⟨by omega,fun e => ?_⟩
  rcases hblk k e with e1|e1
  ·exact hk2.2 e1
  ·omega

theorem Coll.slice {A:Option Addr} {n c:Nat} (h:Coll T q cs p f lo (.slice A n c) xs w) (hn:xs.length=n):Sl.ok cs p w w.heap.size ⟨A,c,xs⟩/\Lies (Sl.ft f) ⟨A,c,xs⟩ lo w.heap.size:=by
 have ho:=h.own
 subst hn
 refine ⟨⟨(bP ho).1,(bP ho).2,Sees.ownRow ho,h.ok⟩,fun k hk => ?_⟩
 rcases hk with ⟨ad,e,rfl⟩ | ⟨x,hx,hk⟩
 ·simp only at e
  subst e
  exact ho.lt ad.block rfl
 ·exact (h.far x hx k hk).1
theorem Coll.val (h:Coll T q cs p f lo v xs w):∃A c,v = .slice A xs.length c:=by
 rcases h.own.2 with ⟨rfl,h0⟩ | ⟨g,cap,cur,rfl,_⟩
 ·exact ⟨none,0,by rw [h0]⟩
 ·exact ⟨_,_,rfl⟩
end

theorem Rdr.other {w w':World} {g:Nat} {l:List UInt8} {er:Int} {row:Option Nat} (h:Rdr w g l er) (hg:w.grownBy w' row) (hr:∀k,row=some k->g<k):Rdr w' g l er:=by
 obtain ⟨A,c,h1,h2,h3⟩:=h
 have hlt:g<w.heap.size:=(Array.getElem?_eq_some_iff.1 h1).1
 refine ⟨A,c,(hg.block g hlt fun e => ?_).trans h1,h2.keep fun q hq=>World.cell?_of_block (hg.block q.block (by omega) fun e => ?_),h3⟩
 ·have:=hr g e.symm
  omega
 ·have:=hr _ e.symm
  omega
theorem Rdr.glt {w:World} {g:Nat} {l:List UInt8} {er:Int} (h:Rdr w g l er):g<w.heap.size:=by
 obtain ⟨A,c,h1,_⟩:=h
 exact (Array.getElem?_eq_some_iff.1 h1).1
theorem aQ {w w' w2:World} {g:Nat} {row:Option Nat} (h:w.grownBy w' (some g)) (h2:w'.grownBy w2 row) (hr:∀k,row=some k->w.heap.size<=k):w.grownBy w2 (some g) :=
 ⟨h2.os.trans h.os,h2.tape.trans h.tape,h2.output.trans h.output,Nat.le_trans h.size h2.size,fun k hk hne=>(h2.block k (Nat.lt_of_lt_of_le hk h.size) fun e=>by have:=hr k e.symm;omega).trans (h.block k hk hne)⟩

theorem Rdr.made {w:World} {g:Nat} {l:List UInt8} {er:Int} (h:Rdr w g l er) (o:Obj):Rdr (w.alloc o) g l er:=h.below ((Below.refl _ _).alloc (Nat.le_refl _) o)
theorem Rdr.drawn {w:World} {g:Nat} {l:List UInt8} {er:Int} (h:Rdr w g l er):Rdr w.drew g l er:=h.below (Below.refl _ _).drew
theorem aB {w w':World} {g b:Nat} {cs:Array Value} {t:TypeId} (hg:w.grownBy w' (some g)) (hb:w.heap[b]?=some (.cells cs t (0,0))) (hne:g≠b):w'.heap[b]?=some (.cells cs t (0,0)) :=
 (hg.block b (Array.getElem?_eq_some_iff.1 hb).1 (fun e=>by injection e with e;exact hne e.symm)).trans hb
theorem Rdr.stored {w:World} {g b i:Nat} {v:Value} {l:List UInt8} {er:Int} (h:Rdr w g l er) (hlt:g<b):Rdr (w.setCell ⟨b,i,none⟩ v) g l er:=by
 obtain ⟨A,c,hg,hs,hc⟩:=h
 exact ⟨A,c,(Below.heap_setCell w ⟨b,i,none⟩ v g (Nat.ne_of_lt hlt)).trans hg,hs.keep fun p hp=>World.cell?_of_block (Below.heap_setCell w ⟨b,i,none⟩ v p.block (by simp;omega)),hc⟩
theorem ab {w w':World} {g b i:Nat} {v:Value} (h:w.grownBy w' (some g)) (hb:w.heap.size<=b):w.grownBy (w'.setCell ⟨b,i,none⟩ v) (some g) :=
 ⟨h.os,h.tape,h.output,by simpa [World.setCell] using h.size,fun k hk hne=>(Below.heap_setCell w' ⟨b,i,none⟩ v k (by simp;omega)).trans (h.block k hk hne)⟩
theorem aj {w w':World} {g:Nat} {o:Obj} (h:(w.alloc o).grownBy w' (some g)):w.grownBy w' (some g):=(World.grownBy_alloc w o (some g)).trans h
theorem aA {w w':World} {g:Nat} (h:w.drew.grownBy w' (some g)):w.grownBy w' (some g):=⟨h.os,h.tape,h.output,h.size,h.block⟩

theorem af {α:Type} {p:World->Nat->α->Prop} {f:α->Nat->Prop} (hp:Local p f) {w:World} {x:α} {z i lo hi:Nat} {v:Value} (h:p w w.heap.size x) (hl:Lies f x lo hi) (hz:z<lo):p (w.setCell ⟨z,i,none⟩ v) (w.setCell ⟨z,i,none⟩ v).heap.size x :=
 hp w _ _ _ x h (fun q hq _=>World.cell?_of_block (Below.heap_setCell w ⟨z,i,none⟩ v q.block (by have:=(hl _ hq).1;show q.block≠z;omega))) (by simp [World.setCell])

def gv {α β:Type} (vv:α->Value) (pp:α->β) (p:World->Nat->α->Prop) (f:α->Nat->Prop) (w:World) (g:Nat) (r:β × RS) (e:Ending) (w':World):Prop :=
 ∃x,e = .returned (vv x)/\pp x=r.1/\p w' w'.heap.size x/\Lies f x w.heap.size w'.heap.size/\Rdr w' g r.2.1 r.2.2/\w.grownBy w' (some g)
open Go.ChangeShapes Go.WideShapes Go.ChangeAt Go.RowKit Go.Joins Go.Deep

def U64 (x:Int):Prop:=0<=x/\x<=18446744073709551615
def U8 (x:Int):Prop:=0<=x/\x<=255
def intC (x:Int):List Value:=[.int .i64 x]
theorem vR (l:List Int):l.flatMap intC=iv l:=by
 induction l with
 | nil=>rfl
 | cons x l ih=>rw [List.flatMap_cons,ih];rfl
abbrev IntS:=Sl Int
def intsOk (w:World) (B:Nat) (s:IntS):Prop:=Sl.ok intC (fun _ _ x=>I64 x) w B s
theorem ints_stable:Stable intsOk:=Sl.stable fun _ _ _ _ _ h _ _=>h
theorem ints_local:Local intsOk (Sl.ft noFt):=Sl.localOf (bz _)
theorem intsOk.sees {w:World} {B:Nat} {s:IntS} (h:intsOk w B s):Sees w B s.A (iv s.l):=by rw [<- vR];exact h.2.2.1

structure DoneM where
 cl:Int
 sq:Int
 er:Int
 inc:Int
 st:Int
 va:IntS
def DoneM.cs (d:DoneM):List Value:=[.int .u8 d.cl, .int .u64 d.sq, .int .i64 d.er, .int .u64 d.inc, .int .i64 d.st,d.va.v]
def DoneM.v (d:DoneM):Value := .agg #[.int .u8 d.cl, .int .u64 d.sq, .int .i64 d.er, .int .u64 d.inc, .int .i64 d.st,d.va.v]
def DoneM.ok (w:World) (B:Nat) (d:DoneM):Prop:=(U8 d.cl/\U64 d.sq/\I64 d.er/\U64 d.inc/\I64 d.st)/\intsOk w B d.va
def DoneM.ft (d:DoneM):Nat->Prop:=Sl.ft noFt d.va
abbrev RepP:=Int × Int × Int × List Int
abbrev fY:=Int × Int × RepP
def DoneM.p (d:DoneM):fY:=(d.cl,d.sq,d.er,d.inc,d.st,d.va.l)
theorem done_stable:Stable DoneM.ok:=fun w w' B B' x h hk hB=>⟨h.1,ints_stable w w' B B' x.va h.2 hk hB⟩
theorem iB:Local DoneM.ok DoneM.ft:=fun w w' B B' x h hk hB=>⟨h.1,ints_local w w' B B' x.va h.2 hk hB⟩
def jk (w:World) (B:Nat) (s:Sl DoneM):Prop:=Sl.ok DoneM.cs DoneM.ok w B s
theorem dns_stable:Stable jk:=Sl.stable done_stable
theorem dns_local:Local jk (Sl.ft DoneM.ft):=Sl.localOf iB

abbrev CelM:=Int × Int × Int × Int
def celC (c:CelM):List Value:=[.int .u64 c.1, .int .u8 c.2.1, .int .i64 c.2.2.1, .int .i64 c.2.2.2]
def celV (c:CelM):Value := .agg #[.int .u64 c.1, .int .u8 c.2.1, .int .i64 c.2.2.1, .int .i64 c.2.2.2]
def jm (c:CelM):Prop:=U64 c.1/\U8 c.2.1/\I64 c.2.2.1/\I64 c.2.2.2
def ga (w:World) (B:Nat) (s:Sl CelM):Prop:=Sl.ok celC (fun _ _ c=>jm c) w B s
theorem cels_stable:Stable ga:=Sl.stable fun _ _ _ _ _ h _ _=>h
theorem cels_local:Local ga (Sl.ft noFt):=Sl.localOf (bz _)

abbrev MrkM:=Int × Int × Int
def mrkC (c:MrkM):List Value:=[.int .u8 c.1, .int .u64 c.2.1, .int .u64 c.2.2]
def mrkV (c:MrkM):Value := .agg #[.int .u8 c.1, .int .u64 c.2.1, .int .u64 c.2.2]
def gP (c:MrkM):Prop:=U8 c.1/\U64 c.2.1/\U64 c.2.2
def gb (w:World) (B:Nat) (s:Sl MrkM):Prop:=Sl.ok mrkC (fun _ _ c=>gP c) w B s
theorem mrks_stable:Stable gb:=Sl.stable fun _ _ _ _ _ h _ _=>h
theorem bQ:Local gb (Sl.ft noFt):=Sl.localOf (bz _)

structure RegM where
 ki:Int
 inc:Int
 st:Int
 va:IntS
 dn:Sl DoneM
 ou:Sl CelM
 la:Int
 ma:Sl MrkM
def RegM.cs (r:RegM):List Value:=[.int .u8 r.ki, .int .u64 r.inc, .int .i64 r.st,r.va.v,r.dn.v,r.ou.v, .int .u64 r.la,r.ma.v]
def RegM.v (r:RegM):Value := .agg #[.int .u8 r.ki, .int .u64 r.inc, .int .i64 r.st,r.va.v,r.dn.v,r.ou.v, .int .u64 r.la,r.ma.v]
def RegM.ok (w:World) (B:Nat) (r:RegM):Prop:=(U8 r.ki/\U64 r.inc/\I64 r.st/\U64 r.la)/\intsOk w B r.va/\jk w B r.dn/\ga w B r.ou/\gb w B r.ma
def RegM.ft (r:RegM) (k:Nat):Prop:=Sl.ft noFt r.va k∨Sl.ft DoneM.ft r.dn k∨Sl.ft noFt r.ou k∨Sl.ft noFt r.ma k
theorem reg_stable:Stable RegM.ok:=fun w w' B B' x h hk hB=>⟨h.1,ints_stable w w' B B' x.va h.2.1 hk hB,dns_stable w w' B B' x.dn h.2.2.1 hk hB,cels_stable w w' B B' x.ou h.2.2.2.1 hk hB,mrks_stable w w' B B' x.ma h.2.2.2.2 hk hB⟩
theorem reg_local:Local RegM.ok RegM.ft:=fun w w' B B' x h hk hB =>
 ⟨h.1,ints_local w w' B B' x.va h.2.1 (fun q hq=>hk q (.inl hq)) hB,dns_local w w' B B' x.dn h.2.2.1 (fun q hq=>hk q (.inr (.inl hq))) hB,
  cels_local w w' B B' x.ou h.2.2.2.1 (fun q hq=>hk q (.inr (.inr (.inl hq)))) hB,bQ w w' B B' x.ma h.2.2.2.2 (fun q hq=>hk q (.inr (.inr (.inr hq)))) hB⟩

structure RegP where
 ki:Int
 inc:Int
 st:Int
 va:List Int
 dn:List fY
 ou:List CelM
 la:Int
 ma:List MrkM
deriving DecidableEq
def RegM.p (r:RegM):RegP:=⟨r.ki,r.inc,r.st,r.va.l,r.dn.l.map DoneM.p,r.ou.l,r.la,r.ma.l⟩
def zeroP:RegP:=⟨0,0,0,[],[],[],0,[]⟩
def zeroM:RegM:=⟨0,0,0,⟨none,0,[]⟩,⟨none,0,[]⟩,⟨none,0,[]⟩,0,⟨none,0,[]⟩⟩
theorem ER:zeroM.p=zeroP:=rfl
theorem bA (w:World) (B:Nat):RegM.ok w B zeroM :=
 ⟨by unfold zeroM U8 U64 I64;simp,⟨by simp [zeroM],by simp [zeroM,maxLen],Sees.empty _ _ _,by simp [zeroM]⟩,⟨by simp [zeroM],by simp [zeroM,maxLen],Sees.empty _ _ _,by simp [zeroM]⟩,⟨by simp [zeroM],by simp [zeroM,maxLen],Sees.empty _ _ _,by simp [zeroM]⟩,⟨by simp [zeroM],by simp [zeroM,maxLen],Sees.empty _ _ _,by simp [zeroM]⟩⟩

section
variable {w : World} {B : Nat} {A : Option Addr}
theorem Sees.i64 {l:List Int} {k:Nat} {x:Int} (h:Sees w B A (l.flatMap intC)) (hk:l[k]?=some x) :
  ∃b o,A=some ⟨b,o,none⟩/\b<B/\w.cell? ⟨b,o+k,none⟩=some (.int .i64 x):=by
 obtain ⟨b,o,e,hb,hc⟩:=h.at (q:=1) (fun _=>rfl) (by omega) hk
 exact ⟨b,o,e,hb,by simpa using hc 0 _ rfl⟩
theorem Sees.done {l:List DoneM} {k:Nat} {x:DoneM} (h:Sees w B A (l.flatMap DoneM.cs)) (hk:l[k]?=some x) :
  ∃b o,A=some ⟨b,o,none⟩/\b<B/\w.cell? ⟨b,o+k * 6,none⟩=some (.int .u8 x.cl)/\w.cell? ⟨b,o+k * 6+1,none⟩=some (.int .u64 x.sq)/\w.cell? ⟨b,o+k * 6+2,none⟩=some (.int .i64 x.er) /\
   w.cell? ⟨b,o+k * 6+3,none⟩=some (.int .u64 x.inc)/\w.cell? ⟨b,o+k * 6+4,none⟩=some (.int .i64 x.st)/\w.cell? ⟨b,o+k * 6+5,none⟩=some (.slice x.va.A x.va.l.length x.va.c):=by
 obtain ⟨b,o,e,hb,hc⟩:=h.at (q:=6) (fun _=>rfl) (by omega) hk
 exact ⟨b,o,e,hb,hc 0 _ rfl,hc 1 _ rfl,hc 2 _ rfl,hc 3 _ rfl,hc 4 _ rfl,hc 5 _ rfl⟩
theorem Sees.cel {l:List CelM} {k:Nat} {x:CelM} (h:Sees w B A (l.flatMap celC)) (hk:l[k]?=some x) :
  ∃b o,A=some ⟨b,o,none⟩/\b<B/\w.cell? ⟨b,o+k * 4,none⟩=some (.int .u64 x.1)/\w.cell? ⟨b,o+k * 4+1,none⟩=some (.int .u8 x.2.1)/\w.cell? ⟨b,o+k * 4+2,none⟩=some (.int .i64 x.2.2.1)/\w.cell? ⟨b,o+k * 4+3,none⟩=some (.int .i64 x.2.2.2):=by
 obtain ⟨b,o,e,hb,hc⟩:=h.at (q:=4) (fun _=>rfl) (by omega) hk
 exact ⟨b,o,e,hb,hc 0 _ rfl,hc 1 _ rfl,hc 2 _ rfl,hc 3 _ rfl⟩
theorem Sees.mrk {l:List MrkM} {k:Nat} {x:MrkM} (h:Sees w B A (l.flatMap mrkC)) (hk:l[k]?=some x) :
  ∃b o,A=some ⟨b,o,none⟩/\b<B/\w.cell? ⟨b,o+k * 3,none⟩=some (.int .u8 x.1)/\w.cell? ⟨b,o+k * 3+1,none⟩=some (.int .u64 x.2.1)/\w.cell? ⟨b,o+k * 3+2,none⟩=some (.int .u64 x.2.2):=by
 obtain ⟨b,o,e,hb,hc⟩:=h.at (q:=3) (fun _=>rfl) (by omega) hk
 exact ⟨b,o,e,hb,hc 0 _ rfl,hc 1 _ rfl,hc 2 _ rfl⟩
end

section
variable {H : Type} {enc : TypeId × Value -> H} {w : World} {base : Nat} {spare : Nat -> Bool} {held : Bool}

theorem db {n:Nat} {t:TypeId} {v:Value} {y:DataW H × List MemPlace} (ht:Tryz.prog.underlying t=some (.int .u64)) (h:DataW.trod enc Tryz.prog w base spare held n t [v]=some y):∃x:Int,v = .int .u64 x/\U64 x:=by
 obtain ⟨a,rfl,wa⟩:=gE ht h
 exact ⟨a,rfl,by unfold U64;simpa [Lit.wf,IntKind.min,IntKind.max,IntKind.signed,IntKind.bits] using wa⟩

theorem Dv {n:Nat} {xs:List Value} {y:DataW H × List MemPlace} (hl:xs.length=1) (h:DataW.trod enc Tryz.prog w base spare held n 2 xs=some y):∃t,xs=intC t/\I64 t:=by
 match xs,hl with
 | [c0],_ =>
  obtain ⟨a,rfl,ha⟩:=bo Tryz.underlying2 h
  exact ⟨a,rfl,ha⟩
theorem om {n:Nat} {v:Value} {y:DataW H × List MemPlace} (h:DataW.trod enc Tryz.prog w base spare held n 26 [v]=some y):∃s:IntS,v=s.v/\intsOk w w.heap.size s:=by
 obtain ⟨s,hv,h1,h2,h3,h4⟩:=dz intC I64 (q:=1) (by omega) Tryz.underlying26 (by kernel_rfl) (fun _=>rfl) (fun _ _ _ hl h=>Dv hl h) h
 exact ⟨s,hv,h1,h2,h3,h4⟩

theorem Dw {n:Nat} {xs:List Value} {y:DataW H × List MemPlace} (hl:xs.length=4) (h:DataW.trod enc Tryz.prog w base spare held n 108 xs=some y):∃t,xs=celC t/\jm t:=by
 match xs,hl with
 | [c0,c1,c2,c3],_ =>
  obtain ⟨_,_,h0⟩:=ay Tryz.underlying108 h 0 rfl rfl rfl (by kernel_rfl) rfl
  obtain ⟨_,_,h1⟩:=ay Tryz.underlying108 h 1 rfl rfl rfl (by kernel_rfl) rfl
  obtain ⟨_,_,h2⟩:=ay Tryz.underlying108 h 2 rfl rfl rfl (by kernel_rfl) rfl
  obtain ⟨_,_,h3⟩:=ay Tryz.underlying108 h 3 rfl rfl rfl (by kernel_rfl) rfl
  obtain ⟨a,rfl,ha⟩:=db Tryz.underlying25 h0
  obtain ⟨b,rfl,hb⟩:=dp Tryz.underlying5 h1
  obtain ⟨c,rfl,hc⟩:=bo Tryz.underlying3 h2
  obtain ⟨d,rfl,hd⟩:=bo Tryz.underlying2 h3
  exact ⟨(a,b,c,d),rfl,ha,hb,hc,hd⟩
theorem vS {n:Nat} {v:Value} {y:DataW H × List MemPlace} (h:DataW.trod enc Tryz.prog w base spare held n 28 [v]=some y):∃s:Sl CelM,v=s.v/\ga w w.heap.size s:=by
 obtain ⟨s,hv,h1,h2,h3,h4⟩:=dz celC jm (q:=4) (by omega) Tryz.underlying28 (by kernel_rfl) (fun _=>rfl) (fun _ _ _ hl h=>Dw hl h) h
 exact ⟨s,hv,h1,h2,h3,h4⟩

theorem Dy {n:Nat} {xs:List Value} {y:DataW H × List MemPlace} (hl:xs.length=3) (h:DataW.trod enc Tryz.prog w base spare held n 110 xs=some y):∃t,xs=mrkC t/\gP t:=by
 match xs,hl with
 | [c0,c1,c2],_ =>
  obtain ⟨_,_,h0⟩:=ay Tryz.underlying110 h 0 rfl rfl rfl (by kernel_rfl) rfl
  obtain ⟨_,_,h1⟩:=ay Tryz.underlying110 h 1 rfl rfl rfl (by kernel_rfl) rfl
  obtain ⟨_,_,h2⟩:=ay Tryz.underlying110 h 2 rfl rfl rfl (by kernel_rfl) rfl
  obtain ⟨a,rfl,ha⟩:=dp Tryz.underlying5 h0
  obtain ⟨b,rfl,hb⟩:=db Tryz.underlying25 h1
  obtain ⟨c,rfl,hc⟩:=db Tryz.underlying25 h2
  exact ⟨(a,b,c),rfl,ha,hb,hc⟩
theorem vT {n:Nat} {v:Value} {y:DataW H × List MemPlace} (h:DataW.trod enc Tryz.prog w base spare held n 29 [v]=some y):∃s:Sl MrkM,v=s.v/\gb w w.heap.size s:=by
 obtain ⟨s,hv,h1,h2,h3,h4⟩:=dz mrkC gP (q:=3) (by omega) Tryz.underlying29 (by kernel_rfl) (fun _=>rfl) (fun _ _ _ hl h=>Dy hl h) h
 exact ⟨s,hv,h1,h2,h3,h4⟩
end

def risX (l:List Int) (lo hi:Int) (k:Nat):Bool:=match l[k]? with|some n => !(inB n lo hi) || (decide (0<k) && decide (n<=l.getD (k - 1) 0))|none=>true
def risB (l:List Int) (lo hi:Int):Bool := !(anyB (risX l lo hi) l.length)
def staB (st:Int) (va:List Int):Bool:=inB st 0 31 && decide (va.length<=8)
def repB (r:RepP):Bool:=inB r.1 0 99 && staB r.2.2.1 r.2.2.2
def dnX (l:List fY) (k:Nat):Bool:=match l[k]? with|some d=>decide (d.2.1=0) || !(repB d.2.2)|none=>true
def dnsB (l:List fY):Bool:=risB (l.map (·.1)) 1 8 && !(anyB (dnX l) l.length)
def ouX (l:List CelM) (k:Nat):Bool:=match l[k]? with|some c=>decide (16<=c.2.1) || !(inB c.2.2.1 0 31)|none=>true
def ousB (l:List CelM) (la:Int):Bool:=decide (l.length<=8) && (risB (l.map (·.1)) 1 la && !(anyB (ouX l) l.length))
def mkX (l:List MrkM) (k:Nat):Bool:=match l[k]? with|some m=>decide (m.2.1=0) || decide (m.2.2=0)|none=>true
def mksB (l:List MrkM):Bool:=risB (l.map (·.1)) 0 15 && !(anyB (mkX l) l.length)
def stnB (r:RegP):Bool := !(decide (r.inc=0)) && (staB r.st r.va && (dnsB r.dn && (ousB r.ou r.la && mksB r.ma)))
def mayG (r:RegP):Bool :=
 if r.ki=0 then decide (r=zeroP) else if r.ki=1 then stnB r else if r.ki=2 then stnB r && (decide (r.st=0) && (decide (r.va.length=0) && decide (r.ou.length=0))) else false

theorem fk {l:List Int} {lo hi:Int} {k:Nat} {n:Int} (h:l[k]?=some n):risX l lo hi k=(!(inB n lo hi) || (decide (0<k) && decide (n<=l.getD (k - 1) 0))):=by unfold risX;rw [h]
theorem risB_true {l:List Int} {lo hi:Int}:risB l lo hi=true ↔ ∀j,j<l.length->risX l lo hi j=false:=by
 unfold risB
 rw [Bool.not_eq_true',anyB_false]
theorem mE {l:List Int} {lo hi:Int} {n:Nat} (hn:l.length=n) (h:∀j,j<n->risX l lo hi j=false):risB l lo hi=true:=risB_true.2 (by rw [hn];exact h)
theorem iC {l:List Int} {lo hi:Int} {n k:Nat} (hn:l.length=n) (hk:k<n) (h:risX l lo hi k=true):risB l lo hi=false:=by
 unfold risB
 rw [Bool.not_eq_false',anyB_true]
 exact ⟨k,by omega,h⟩

theorem Bu {l:List Int} {lo hi:Int} (h:risB l lo hi=true):∀(k:Nat) (n:Int),l[k]?=some n->(lo+k<=n/\n<=hi):=by
 intro k
 induction k with
 | zero =>
  intro n hn
  have h1:=risB_true.1 h 0 (List.getElem?_eq_some_iff.1 hn).1
  rw [fk hn] at h1
  simp only [Bool.or_eq_false_iff,Bool.not_eq_false'] at h1
  have:=inB_true.1 h1.1
  omega
 | succ k ih =>
  intro n hn
  have hlt:=(List.getElem?_eq_some_iff.1 hn).1
  have h1:=risB_true.1 h (k+1) hlt
  have hk:l[k]?=some l[k]:=List.getElem?_eq_getElem (by omega)
  have h2:=ih _ hk
  rw [fk hn] at h1
  simp only [Bool.or_eq_false_iff,Bool.not_eq_false',Bool.and_eq_false_iff,decide_eq_false_iff_not] at h1
  have h3:=inB_true.1 h1.1
  have h4:l.getD (k+1 - 1) 0=l[k]:=by rw [Nat.add_sub_cancel,List.getD_eq_getElem?_getD,hk];rfl
  rw [h4] at h1
  rcases h1.2 with h5|h5
  ·omega
  ·omega
theorem vU {l:List Int} {lo hi:Int} (h:risB l lo hi=true) (hh:lo<=hi+1):(l.length:Int)<=hi+1 - lo:=by
 rcases Nat.eq_zero_or_pos l.length with h0|h0
 ·omega
 ·have h1:=Bu h (l.length - 1) _ (List.getElem?_eq_getElem (by omega))
  omega

theorem vV {l:List fY} {k:Nat} {d:fY} (h:l[k]?=some d):dnX l k=(decide (d.2.1=0) || !(repB d.2.2)):=by unfold dnX;rw [h]
theorem vW {l:List CelM} {k:Nat} {d:CelM} (h:l[k]?=some d):ouX l k=(decide (16<=d.2.1) || !(inB d.2.2.1 0 31)):=by unfold ouX;rw [h]
theorem Al {l:List MrkM} {k:Nat} {d:MrkM} (h:l[k]?=some d):mkX l k=(decide (d.2.1=0) || decide (d.2.2=0)):=by unfold mkX;rw [h]

def rdX (l:List fY) (k:Nat):Bool:=match l[k]? with
 | some d=>decide (d.1<1) || (decide (8<d.1) || (decide (d.2.1=0) || (!(repB d.2.2) || (decide (0<k) && decide (d.1<=(l.map (·.1)).getD (k - 1) 0)))))|none=>true
def rcX (la:Int) (l:List CelM) (k:Nat):Bool:=match l[k]? with
 | some c=>decide (c.1<1) || (decide (la<c.1) || (decide (15<c.2.1) || (decide (c.2.2.1<0) || (decide (31<c.2.2.1) || (decide (0<k) && decide (c.1<=(l.map (·.1)).getD (k - 1) 0))))))|none=>true
def rmX (l:List MrkM) (k:Nat):Bool:=match l[k]? with
 | some m=>decide (15<m.1) || (decide (m.2.1=0) || (decide (m.2.2=0) || (decide (0<k) && decide (m.1<=(l.map (·.1)).getD (k - 1) 0))))|none=>true
def rB (r:RegP):Bool :=
 (decide (r.va.length<=8) && (decide (r.dn.length<=8) && (decide (r.ou.length<=8) && decide (r.ma.length<=16)))) && (!(anyB (rdX r.dn) r.dn.length) && (!(anyB (rcX r.la r.ou) r.ou.length) && !(anyB (rmX r.ma) r.ma.length)))
def vX (r:RegP):Bool :=
 if r.ki=0 then decide (r.inc=0) && (decide (r.st=0) && (decide (r.la=0) && (decide (r.va.length=0) && (decide (r.dn.length=0) && (decide (r.ou.length=0) && decide (r.ma.length=0))))))
 else if decide (2<r.ki) || (decide (r.ki=2) && (!(decide (r.st=0)) || (decide (0<r.va.length) || decide (0<r.ou.length)))) then false
 else !(decide (r.inc=0)) && (inB r.st 0 31 && rB r)
theorem gQ {α:Type} {l:List α} {f:α->Int} {k:Nat} {x:α} (h:l[k]?=some x):(l.map f)[k]?=some (f x):=by rw [List.getElem?_map,h];rfl
theorem zi {l:List fY} {k:Nat} (hk:k<l.length):rdX l k=(risX (l.map (·.1)) 1 8 k || dnX l k):=by
 have hx:=List.getElem?_eq_getElem hk
 rw [fk (gQ hx),vV hx]
 unfold rdX
 rw [hx]
 simp only
 generalize l[k]=d
 generalize (l.map (·.1)).getD (k - 1) 0=p
 unfold inB
 by_cases h1:d.1<1
 ·have:¬1<=d.1:=by omega
  simp [h1,this]
 ·by_cases h2:8<d.1
  ·have:¬d.1<=8:=by omega
   simp [h2,this]
  ·have h3:1<=d.1:=by omega
   have h4:d.1<=8:=by omega
   simp only [h1,h2,h3,h4,decide_false,decide_true,Bool.false_or,Bool.and_self,Bool.not_true]
   cases decide (d.2.1=0) <;> cases repB d.2.2 <;> simp
theorem zj {l:List CelM} {la:Int} {k:Nat} (hk:k<l.length):rcX la l k=(risX (l.map (·.1)) 1 la k || ouX l k):=by
 have hx:=List.getElem?_eq_getElem hk
 rw [fk (gQ hx),vW hx]
 unfold rcX
 rw [hx]
 simp only
 generalize l[k]=d
 generalize (l.map (·.1)).getD (k - 1) 0=p
 unfold inB
 rw [show decide (d.1<1) = !(decide (1<=d.1)) by rw [<- decide_not];congr 1;apply propext;omega,show decide (la<d.1) = !(decide (d.1<=la)) by rw [<- decide_not];congr 1;apply propext;omega,
  show decide (15<d.2.1)=decide (16<=d.2.1) by congr 1,show decide (d.2.2.1<0) = !(decide (0<=d.2.2.1)) by rw [<- decide_not];congr 1;apply propext;omega,show decide (31<d.2.2.1) = !(decide (d.2.2.1<=31)) by rw [<- decide_not];congr 1;apply propext;omega]
 cases decide (1<=d.1) <;> cases decide (d.1<=la) <;> cases decide (16<=d.2.1) <;> cases decide (0<=d.2.2.1) <;> cases decide (d.2.2.1<=31) <;> simp
theorem zk {l:List MrkM} {k:Nat} (hk:k<l.length) (h0:∀m∈l,0<=m.1):rmX l k=(risX (l.map (·.1)) 0 15 k || mkX l k):=by
 have hx:=List.getElem?_eq_getElem hk
 have hd:=h0 _ (List.getElem_mem hk)
 rw [fk (gQ hx),Al hx]
 unfold rmX
 rw [hx]
 simp only
 generalize l[k]=d at hd
 generalize (l.map (·.1)).getD (k - 1) 0=p
 unfold inB
 rw [show decide (15<d.1) = !(decide (d.1<=15)) by rw [<- decide_not];congr 1;apply propext;omega]
 simp only [hd,decide_true,Bool.true_and]
 cases decide (d.1<=15) <;> cases decide (d.2.1=0) <;> cases decide (d.2.2=0) <;> simp
theorem vY {p q r:Nat->Bool} {n:Nat} (h:∀k,k<n->r k=(p k || q k)):anyB r n=(anyB p n || anyB q n):=by
 rw [Bool.eq_iff_iff,Bool.or_eq_true,anyB_true,anyB_true,anyB_true]
 constructor
 ·rintro ⟨j,hj,h1⟩
  rw [h j hj,Bool.or_eq_true] at h1
  rcases h1 with h1|h1
  ·exact .inl ⟨j,hj,h1⟩
  ·exact .inr ⟨j,hj,h1⟩
 ·rintro (⟨j,hj,h1⟩ | ⟨j,hj,h1⟩)
  ·exact ⟨j,hj,by rw [h j hj,h1];rfl⟩
  ·exact ⟨j,hj,by rw [h j hj,h1];simp⟩
theorem rC {l:List fY} (h:dnsB l=true):l.length<=8:=by
 unfold dnsB at h
 rw [Bool.and_eq_true] at h
 have:=vU h.1 (by omega)
 rw [List.length_map] at this
 omega
theorem rD {l:List MrkM} (h:mksB l=true):l.length<=16:=by
 unfold mksB at h
 rw [Bool.and_eq_true] at h
 have:=vU h.1 (by omega)
 rw [List.length_map] at this
 omega
theorem Dz {l:List fY}:(!(anyB (rdX l) l.length))=dnsB l:=by
 rw [vY fun k hk=>zi hk,Bool.not_or]
 unfold dnsB risB
 rw [List.length_map]
theorem ous_eq {l:List CelM} {la:Int}:(!(anyB (rcX la l) l.length))=(risB (l.map (·.1)) 1 la && !(anyB (ouX l) l.length)):=by
 rw [vY fun k hk=>zj hk,Bool.not_or]
 unfold risB
 rw [List.length_map]
theorem DA {l:List MrkM} (h0:∀m∈l,0<=m.1):(!(anyB (rmX l) l.length))=mksB l:=by
 rw [vY fun k hk=>zk hk h0,Bool.not_or]
 unfold mksB risB
 rw [List.length_map]
theorem vZ {n m:Nat} {b:Bool} (h:b=true->n<=m):(decide (n<=m) && b)=b:=by
 cases b with
 | false=>simp
 | true=>simp [h rfl]
theorem zm {r:RegP} (h0:∀m∈r.ma,0<=m.1):rB r=(decide (r.va.length<=8) && (dnsB r.dn && (ousB r.ou r.la && mksB r.ma))):=by
 unfold rB
 rw [Dz,ous_eq,DA h0]
 unfold ousB
 have h1:=vZ (n:=r.dn.length) (m:=8) (b:=dnsB r.dn) rC
 have h2:=vZ (n:=r.ma.length) (m:=16) (b:=mksB r.ma) rD
 revert h1 h2
 generalize dnsB r.dn=a
 generalize mksB r.ma=b
 generalize (risB (r.ou.map (·.1)) 1 r.la && !(anyB (ouX r.ou) r.ou.length))=c
 generalize decide (r.va.length<=8)=d
 generalize decide (r.dn.length<=8)=e
 generalize decide (r.ou.length<=8)=f
 generalize decide (r.ma.length<=16)=g
 cases a <;> cases b <;> cases c <;> cases d <;> cases e <;> cases f <;> cases g <;> simp
theorem DB {r:RegP} (h0:∀m∈r.ma,0<=m.1) (hk:0<=r.ki):vX r=mayG r:=by
 unfold vX mayG
 by_cases k0:r.ki=0
 ·rw [if_pos k0,if_pos k0]
  obtain ⟨ki,inc,st,va,dn,ou,la,ma⟩:=r
  simp only at k0
  subst k0
  rw [Bool.eq_iff_iff]
  simp only [Bool.and_eq_true,decide_eq_true_eq,zeroP,RegP.mk.injEq,List.length_eq_zero_iff,true_and]
  constructor
  ·rintro ⟨rfl,rfl,rfl,rfl,rfl,rfl,rfl⟩
   exact ⟨rfl,rfl,rfl,rfl,rfl,rfl,rfl⟩
  ·rintro ⟨rfl,rfl,rfl,rfl,rfl,rfl,rfl⟩
   exact ⟨rfl,rfl,rfl,rfl,rfl,rfl,rfl⟩
 ·rw [if_neg k0,if_neg k0]
  have hst:(!(decide (r.inc=0)) && (inB r.st 0 31 && rB r))=stnB r:=by
   unfold stnB staB
   rw [zm h0]
   cases inB r.st 0 31 <;> simp
  by_cases k1:r.ki=1
  ·rw [if_pos k1,if_neg (by rw [k1];simp),hst]
  ·rw [if_neg k1]
   by_cases k2:r.ki=2
   ·rw [if_pos k2,k2,hst]
    have e1:decide (0<r.va.length) = !(decide (r.va.length=0)):=by rw [<- decide_not];congr 1;apply propext;omega
    have e2:decide (0<r.ou.length) = !(decide (r.ou.length=0)):=by rw [<- decide_not];congr 1;apply propext;omega
    rw [e1,e2]
    cases decide (r.st=0) <;> cases decide (r.va.length=0) <;> cases decide (r.ou.length=0) <;> simp
   ·rw [if_neg k2,if_pos]
    simp
    omega

theorem dq (n a b:Int) (w:World):Calls Tryz.prog 288 #[.int .i64 n, .int .i64 a, .int .i64 b] w fun e w'=>e = .returned (.bool (inB n a b))/\w=w':=by
 by_cases h:a<=n
 ·by_cases h2:n<=b
  ·have HR:=aa (inB_true.2 ⟨h,h2⟩)
   have hd:=decide_eq_true h
   have hd2:=decide_eq_true h2
   go_enter Tryz.func288,Tryz.ntmps288
   go_wp2
   go_ret
   exact ⟨ae HR.out.symm,rfl⟩
  ·have HR:=aa (inB_false.2 (.inr (by omega)):inB n a b=false)
   have hd:=decide_eq_true h
   have hd2:=decide_eq_false h2
   go_enter Tryz.func288,Tryz.ntmps288
   go_wp2
   go_ret
   exact ⟨ae HR.out.symm,rfl⟩
 ·have HR:=aa (inB_false.2 (.inl (by omega)):inB n a b=false)
  have hd:=decide_eq_false h
  go_enter Tryz.func288,Tryz.ntmps288
  go_wp2
  go_ret
  exact ⟨ae HR.out.symm,rfl⟩

theorem aR (n a b:Int) (w:World):Calls Tryz.prog 328 #[.int .u64 n, .int .u64 a, .int .u64 b] w fun e w'=>e = .returned (.bool (inB n a b))/\w=w':=by
 by_cases h:a<=n
 ·by_cases h2:n<=b
  ·have HR:=aa (inB_true.2 ⟨h,h2⟩)
   have hd:=decide_eq_true h
   have hd2:=decide_eq_true h2
   go_enter Tryz.func328,Tryz.ntmps328
   go_wp2
   go_ret
   exact ⟨ae HR.out.symm,rfl⟩
  ·have HR:=aa (inB_false.2 (.inr (by omega)):inB n a b=false)
   have hd:=decide_eq_true h
   have hd2:=decide_eq_false h2
   go_enter Tryz.func328,Tryz.ntmps328
   go_wp2
   go_ret
   exact ⟨ae HR.out.symm,rfl⟩
 ·have HR:=aa (inB_false.2 (.inl (by omega)):inB n a b=false)
  have hd:=decide_eq_false h
  go_enter Tryz.func328,Tryz.ntmps328
  go_wp2
  go_ret
  exact ⟨ae HR.out.symm,rfl⟩

theorem gR (n a b:Int) (w:World):Calls Tryz.prog 327 #[.int .i64 n, .int .i64 a, .int .i64 b] w fun e w'=>e = .returned (.bool (inB n a b))/\w=w':=by
 by_cases h:a<=n
 ·by_cases h2:n<=b
  ·have HR:=aa (inB_true.2 ⟨h,h2⟩)
   have hd:=decide_eq_true h
   have hd2:=decide_eq_true h2
   go_enter Tryz.func327,Tryz.ntmps327
   go_wp2
   go_ret
   exact ⟨ae HR.out.symm,rfl⟩
  ·have HR:=aa (inB_false.2 (.inr (by omega)):inB n a b=false)
   have hd:=decide_eq_true h
   have hd2:=decide_eq_false h2
   go_enter Tryz.func327,Tryz.ntmps327
   go_wp2
   go_ret
   exact ⟨ae HR.out.symm,rfl⟩
 ·have HR:=aa (inB_false.2 (.inl (by omega)):inB n a b=false)
  have hd:=decide_eq_false h
  go_enter Tryz.func327,Tryz.ntmps327
  go_wp2
  go_ret
  exact ⟨ae HR.out.symm,rfl⟩


theorem mF (fn:Nat) (lo hi:Int) (s:Sl (DoneM)) (B:Nat) (w:World) (hs:jk w B s) (hB:B<=w.heap.size)
  (he:∀args w,(callFunc fn args).run Tryz.prog w = .ok (.enter fn args) w) (hf:∀(x:DoneM) wr,x∈s.l->Calls Tryz.prog fn #[DoneM.v x] wr fun e w'=>e = .returned (.int .u64 x.cl)/\Below wr.heap.size wr w') :
  Calls Tryz.prog 292 #[s.v, .int .u64 lo, .int .u64 hi, .func (.func fn) #[] #[]] w fun e w'=>e = .returned (.bool (risB (s.l.map (fun x=>x.cl)) lo hi))/\Below B w w':=by
 obtain ⟨A,c,l⟩:=s
 obtain ⟨h1,h2,h3,h4⟩:=hs
 obtain ⟨n,hn⟩:∃n,l.length=n:=⟨_,rfl⟩
 have HS:=aa h3
 have HF:=aa hf
 have HN:=aa hn
 simp only [Sl.v,hn] at h1 h2 ⊢
 have hnm:n<=9223372036854775807:=by unfold maxLen at h2;omega
 clear h3 hf hn h4 h1 h2
 go_enter Tryz.func292,Tryz.ntmps292
 go_wp2
 go_loopw [13] (fun i wr=>∃k:Nat,k<=n/\i = .int .i64 k/\Hid (∀j,j<k->risX (l.map (fun x=>x.cl)) lo hi j=false)/\Below B w wr) (fun i _=>n - (intOf i).toNat)
 case atStart=>exact ⟨0,Nat.zero_le _,rfl,(fun j hj=>absurd hj (by omega)),Below.refl _ _⟩
 case round =>
  obtain ⟨k,hk,rfl,HJ,hb⟩:=hrel
  by_cases hlt:k<n
  case neg =>
   obtain rfl:k=n:=by omega
   have HP:=aa (show risB (l.map (fun x=>x.cl)) lo hi=true from mE (by rw [List.length_map,HN.out]) HJ.out)
   go_wp2
   go_ret
   exact ⟨ae HP.out.symm,hb⟩
  obtain ⟨x,hx⟩:∃x,l[k]?=some x:=⟨_,List.getElem?_eq_getElem (by rw [HN.out];exact hlt)⟩
  have hs1:=HS.out.below hb
  have hxm:x∈l:=List.mem_of_getElem? hx
  have hzw:w.heap.size<=wr.heap.size:=hb.size
  obtain ⟨tb,ot,hAe,hab,e0,e1,e2,e3,e4,e5⟩:=hs1.done hx
  have hwz:tb<wr.heap.size:=by omega
  subst hAe
  have hat:=gQ (f:=(fun x=>x.cl)) hx
  have HC:=aa (fun u=>HF.out x u hxm)
  obtain ⟨cl,sq,er,inc,st,⟨vA,vc,vl⟩⟩:=x
  simp only at e0 e1 e2 e3 e4 e5 hat HC
  have HRX:=aa (fk (lo:=lo) (hi:=hi) hat)
  have HAT:=aa hat
  have HBW:=aa (show Below B w (wr.alloc (.cells #[.int .u8 cl, .int .u64 sq, .int .i64 er, .int .u64 inc, .int .i64 st, .slice vA vl.length vc] 106)) from hb.alloc (by omega) _)
  have HB0:=aa (show Below (wr.heap.size+1) (wr.alloc (.cells #[.int .u8 cl, .int .u64 sq, .int .i64 er, .int .u64 inc, .int .i64 st, .slice vA vl.length vc] 106)) (wr.alloc (.cells #[.int .u8 cl, .int .u64 sq, .int .i64 er, .int .u64 inc, .int .i64 st, .slice vA vl.length vc] 106)).drew from (Below.refl _ _).drew)
  have HCX:=aa (fun (u:World) (hu:Below (wr.heap.size+1) (wr.alloc (.cells #[.int .u8 cl, .int .u64 sq, .int .i64 er, .int .u64 inc, .int .i64 st, .slice vA vl.length vc] 106)) u)=>show ∀i:Nat,u.cell? ⟨wr.heap.size,i,none⟩=(#[.int .u8 cl, .int .u64 sq, .int .i64 er, .int .u64 inc, .int .i64 st, .slice vA vl.length vc] : Array Value)[i]? from (BoxAt.below (BoxAt.new wr #[.int .u8 cl, .int .u64 sq, .int .i64 er, .int .u64 inc, .int .i64 st, .slice vA vl.length vc] 106) (hu.mono (by simp))).cell)
  have HFIN:=aa (fun (u:World) (hu:Below (wr.heap.size+1) (wr.alloc (.cells #[.int .u8 cl, .int .u64 sq, .int .i64 er, .int .u64 inc, .int .i64 st, .slice vA vl.length vc] 106)) u)=>show Below B w u from HBW.out.trans (hu.mono (by omega)))
  have HHS:=aa hs1
  have HHX:=aa hx
  clear hat hs1 hx hxm hb
  cases hin:inB cl lo hi with
  | false =>
   have HP:=aa (show risB (l.map (fun x=>x.cl)) lo hi=false from iC (by rw [List.length_map,HN.out]) hlt (by rw [HRX.out,hin];rfl))
   have HIN:=aa hin
   clear hin
   go_upto_region 4 with fail
   refine wp_region_held_drew (S:=(fun w'=>(∀i:Nat,w'.cell? ⟨wr.heap.size,i,none⟩=(#[.int .u8 cl, .int .u64 sq, .int .i64 er, .int .u64 inc, .int .i64 st, .slice vA vl.length vc] : Array Value)[i]?))) (by kernel_rfl) (HCX.out _ HB0.out) (fun hHeld => ?_)
   refine tkY 0 18 ?v1 rfl ?hy1 (by assumption) ?rest1
   case hy1=>intro w hSw;(try dsimp only at hSw);go_simp <;> with_reducible rfl
   simp only [Act.put,sTI,sT0,sT1]
   refine tkY 1 19 ?v2 rfl ?hy2 (by assumption) ?rest2
   case hy2=>intro w hSw;(try dsimp only at hSw);go_simp <;> with_reducible rfl
   simp only [Act.put,sTI,sT0,sT1]
   refine tkY 3 21 ?v3 rfl ?hy3 (by assumption) ?rest3
   case hy3=>intro w hSw;(try dsimp only at hSw);go_simp <;> with_reducible rfl
   simp only [Act.put,sTI,sT0,sT1]
   refine tkY 4 22 ?v4 rfl ?hy4 (by assumption) ?rest4
   case hy4=>intro w hSw;(try dsimp only at hSw);go_simp <;> with_reducible rfl
   simp only [Act.put,sTI,sT0,sT1]
   refine wpAnyH_ready (rs:=[2]) (by kernel_rfl) (by simp) ?_
   refine AllReadyH.cons rfl (fun K hK => ?_) AllReadyH.nil
   go_simp
   go_wp2_with fail
   refine (HC.out _).mono ?_
   rintro en w1 ⟨rfl,hbw1⟩
   have HBw1:=aa (HB0.out.trans (hbw1.mono (by simp)))
   clear hbw1
   refine hK.out _ _ (HCX.out _ HBw1.out) (fun hHeld => ?_)
   clear hK K
   refine wpAnyH_ready (rs:=[5]) (by kernel_rfl) (by simp) ?_
   refine AllReadyH.cons rfl (fun K hK => ?_) AllReadyH.nil
   go_simp
   go_wp2_with (first|(go_at_call 328;refine (aR _ _ _ _).mono ?_;rw [HIN.out];rintro en w2 ⟨rfl,rfl⟩))
   refine hK.out _ _ (HCX.out _ HBw1.out) (fun hHeld => ?_)
   clear hK K
   refine tkY 6 24 ?v5 rfl ?hy5 (by assumption) ?rest5
   case hy5=>intro w hSw;(try dsimp only at hSw);go_simp <;> with_reducible rfl
   simp only [Act.put,sTI,sT0,sT1]
   refine tkY 7 25 ?v6 rfl ?hy6 (by assumption) ?rest6
   case hy6=>intro w hSw;(try dsimp only at hSw);go_simp <;> with_reducible rfl
   simp only [Act.put,sTI,sT0,sT1]
   refine tkU 8 26 rfl (by assumption) ?_
   simp only [Act.put,sTI,sT0,sT1]
   refine tkU 9 27 rfl (by assumption) ?_
   simp only [Act.put,sTI,sT0,sT1]
   refine tkU 10 28 rfl (by assumption) ?_
   simp only [Act.put,sTI,sT0,sT1]
   refine tkU 11 29 rfl (by assumption) ?_
   simp only [Act.put,sTI,sT0,sT1]
   refine tkU 12 30 rfl (by assumption) ?_
   simp only [Act.put,sTI,sT0,sT1]
   refine tkU 13 31 rfl (by assumption) ?_
   simp only [Act.put,sTI,sT0,sT1]
   refine tkU 14 32 rfl (by assumption) ?_
   simp only [Act.put,sTI,sT0,sT1]
   refine tkU 15 33 rfl (by assumption) ?_
   simp only [Act.put,sTI,sT0,sT1]
   refine tkU 16 34 rfl (by assumption) ?_
   simp only [Act.put,sTI,sT0,sT1]
   refine tkU 17 35 rfl (by assumption) ?_
   simp only [Act.put,sTI,sT0,sT1]
   refine tkU 18 36 rfl (by assumption) ?_
   simp only [Act.put,sTI,sT0,sT1]
   refine tkU 19 37 rfl (by assumption) ?_
   simp only [Act.put,sTI,sT0,sT1]
   refine tkU 20 38 rfl (by assumption) ?_
   simp only [Act.put,sTI,sT0,sT1]
   refine tkU 21 39 rfl (by assumption) ?_
   simp only [Act.put,sTI,sT0,sT1]
   refine tkU 22 40 rfl (by assumption) ?_
   simp only [Act.put,sTI,sT0,sT1]
   refine tkY 23 41 ?v7 rfl ?hy7 (by assumption) ?rest7
   case hy7=>intro w hSw;(try dsimp only at hSw);go_simp <;> with_reducible rfl
   simp only [Act.put,sTI,sT0,sT1]
   refine wpAnyH_done (by kernel_rfl) ?_ _
   go_wp2_with fail
   go_ret
   exact ⟨ae HP.out.symm,HFIN.out _ HBw1.out⟩
  | true =>
  rcases k with _|k
  ·simp only [Nat.zero_mul,Nat.add_zero] at e0 e1 e2 e3 e4 e5
   have HJ2:=aa (show ∀j,j<0+1->risX (l.map (fun x=>x.cl)) lo hi j=false from fun j hj=>by
    obtain rfl:j=0:=by omega
    rw [HRX.out,hin];rfl)
   have HIN:=aa hin
   clear hin
   go_upto_region 4 with fail
   refine wp_region_held_drew (S:=(fun w'=>(∀i:Nat,w'.cell? ⟨wr.heap.size,i,none⟩=(#[.int .u8 cl, .int .u64 sq, .int .i64 er, .int .u64 inc, .int .i64 st, .slice vA vl.length vc] : Array Value)[i]?))) (by kernel_rfl) (HCX.out _ HB0.out) (fun hHeld => ?_)
   refine tkY 0 18 ?v8 rfl ?hy8 (by assumption) ?rest8
   case hy8=>intro w hSw;(try dsimp only at hSw);go_simp <;> with_reducible rfl
   simp only [Act.put,sTI,sT0,sT1]
   refine tkY 1 19 ?v9 rfl ?hy9 (by assumption) ?rest9
   case hy9=>intro w hSw;(try dsimp only at hSw);go_simp <;> with_reducible rfl
   simp only [Act.put,sTI,sT0,sT1]
   refine tkY 3 21 ?v10 rfl ?hy10 (by assumption) ?rest10
   case hy10=>intro w hSw;(try dsimp only at hSw);go_simp <;> with_reducible rfl
   simp only [Act.put,sTI,sT0,sT1]
   refine tkY 4 22 ?v11 rfl ?hy11 (by assumption) ?rest11
   case hy11=>intro w hSw;(try dsimp only at hSw);go_simp <;> with_reducible rfl
   simp only [Act.put,sTI,sT0,sT1]
   refine wpAnyH_ready (rs:=[2]) (by kernel_rfl) (by simp) ?_
   refine AllReadyH.cons rfl (fun K hK => ?_) AllReadyH.nil
   go_simp
   go_wp2_with fail
   refine (HC.out _).mono ?_
   rintro en w1 ⟨rfl,hbw1⟩
   have HBw1:=aa (HB0.out.trans (hbw1.mono (by simp)))
   clear hbw1
   refine hK.out _ _ (HCX.out _ HBw1.out) (fun hHeld => ?_)
   clear hK K
   refine wpAnyH_ready (rs:=[5]) (by kernel_rfl) (by simp) ?_
   refine AllReadyH.cons rfl (fun K hK => ?_) AllReadyH.nil
   go_simp
   go_wp2_with (first|(go_at_call 328;refine (aR _ _ _ _).mono ?_;rw [HIN.out];rintro en w2 ⟨rfl,rfl⟩))
   refine hK.out _ _ (HCX.out _ HBw1.out) (fun hHeld => ?_)
   clear hK K
   refine tkY 6 24 ?v12 rfl ?hy12 (by assumption) ?rest12
   case hy12=>intro w hSw;(try dsimp only at hSw);go_simp <;> with_reducible rfl
   simp only [Act.put,sTI,sT0,sT1]
   refine tkY 7 25 ?v13 rfl ?hy13 (by assumption) ?rest13
   case hy13=>intro w hSw;(try dsimp only at hSw);go_simp <;> with_reducible rfl
   simp only [Act.put,sTI,sT0,sT1]
   refine tkY 8 26 ?v14 rfl ?hy14 (by assumption) ?rest14
   case hy14=>intro w hSw;(try dsimp only at hSw);go_simp <;> with_reducible rfl
   simp only [Act.put,sTI,sT0,sT1]
   refine tkY 9 27 ?v15 rfl ?hy15 (by assumption) ?rest15
   case hy15=>intro w hSw;(try dsimp only at hSw);go_simp <;> with_reducible rfl
   simp only [Act.put,sTI,sT0,sT1]
   refine tkY 10 28 ?v16 rfl ?hy16 (by assumption) ?rest16
   case hy16=>intro w hSw;(try dsimp only at hSw);go_simp <;> with_reducible rfl
   simp only [Act.put,sTI,sT0,sT1]
   refine tkU 11 29 rfl (by assumption) ?_
   simp only [Act.put,sTI,sT0,sT1]
   refine tkU 12 30 rfl (by assumption) ?_
   simp only [Act.put,sTI,sT0,sT1]
   refine tkU 13 31 rfl (by assumption) ?_
   simp only [Act.put,sTI,sT0,sT1]
   refine tkU 14 32 rfl (by assumption) ?_
   simp only [Act.put,sTI,sT0,sT1]
   refine tkU 15 33 rfl (by assumption) ?_
   simp only [Act.put,sTI,sT0,sT1]
   refine tkU 16 34 rfl (by assumption) ?_
   simp only [Act.put,sTI,sT0,sT1]
   refine tkU 17 35 rfl (by assumption) ?_
   simp only [Act.put,sTI,sT0,sT1]
   refine tkU 18 36 rfl (by assumption) ?_
   simp only [Act.put,sTI,sT0,sT1]
   refine tkU 19 37 rfl (by assumption) ?_
   simp only [Act.put,sTI,sT0,sT1]
   refine tkU 20 38 rfl (by assumption) ?_
   simp only [Act.put,sTI,sT0,sT1]
   refine tkU 21 39 rfl (by assumption) ?_
   simp only [Act.put,sTI,sT0,sT1]
   refine tkY 22 40 ?v17 rfl ?hy17 (by assumption) ?rest17
   case hy17=>intro w hSw;(try dsimp only at hSw);go_simp <;> with_reducible rfl
   simp only [Act.put,sTI,sT0,sT1]
   refine tkY 23 41 ?v18 rfl ?hy18 (by assumption) ?rest18
   case hy18=>intro w hSw;(try dsimp only at hSw);go_simp <;> with_reducible rfl
   simp only [Act.put,sTI,sT0,sT1]
   refine wpAnyH_done (by kernel_rfl) ?_ _
   go_wp2_with fail
   go_roundw
   case rel=>exact ⟨1,by omega,by go_num,HJ2,HFIN.out _ HBw1.out⟩
   case measure=>simp [intOf];omega
  ·obtain ⟨y,hy⟩:∃y,l[k]?=some y:=⟨_,List.getElem?_eq_getElem (by rw [HN.out];omega)⟩
   have hym:y∈l:=List.mem_of_getElem? hy
   have hpt:=gQ (f:=(fun x=>x.cl)) hy
   obtain ⟨tb2,ot2,hAe2,hab2,g0,g1,g2,g3,g4,g5⟩:=HHS.out.done hy
   injection hAe2 with hAe2
   injection hAe2 with ht1 ht2
   subst ht1 ht2
   have HCP:=aa (fun u=>HF.out y u hym)
   obtain ⟨pcl,psq,per,pinc,pst,⟨pA,pc,pl⟩⟩:=y
   simp only at g0 g1 g2 g3 g4 g5 hpt HCP
   have hgd:(l.map (fun x=>x.cl)).getD (k+1 - 1) 0=pcl:=by rw [Nat.add_sub_cancel,List.getD_eq_getElem?_getD,hpt];rfl
   have HPX:=aa (fun (u:World) (hu:Below (wr.heap.size+1) (wr.alloc (.cells #[.int .u8 cl, .int .u64 sq, .int .i64 er, .int .u64 inc, .int .i64 st, .slice vA vl.length vc] 106)) u)=>show u.cell? ⟨tb,ot+k * 6,none⟩=some (.int .u8 pcl)/\u.cell? ⟨tb,ot+k * 6+1,none⟩=some (.int .u64 psq)/\u.cell? ⟨tb,ot+k * 6+2,none⟩=some (.int .i64 per)/\u.cell? ⟨tb,ot+k * 6+3,none⟩=some (.int .u64 pinc)/\u.cell? ⟨tb,ot+k * 6+4,none⟩=some (.int .i64 pst)/\u.cell? ⟨tb,ot+k * 6+5,none⟩=some (.slice pA pl.length pc) from ⟨(((((Below.refl _ _).alloc (Nat.le_refl _) (.cells #[.int .u8 cl, .int .u64 sq, .int .i64 er, .int .u64 inc, .int .i64 st, .slice vA vl.length vc] 106)).trans (hu.mono (Nat.le_succ _))).cell (p:=⟨tb,ot+k * 6,none⟩) hwz).trans g0),(((((Below.refl _ _).alloc (Nat.le_refl _) (.cells #[.int .u8 cl, .int .u64 sq, .int .i64 er, .int .u64 inc, .int .i64 st, .slice vA vl.length vc] 106)).trans (hu.mono (Nat.le_succ _))).cell (p:=⟨tb,ot+k * 6+1,none⟩) hwz).trans g1),(((((Below.refl _ _).alloc (Nat.le_refl _) (.cells #[.int .u8 cl, .int .u64 sq, .int .i64 er, .int .u64 inc, .int .i64 st, .slice vA vl.length vc] 106)).trans (hu.mono (Nat.le_succ _))).cell (p:=⟨tb,ot+k * 6+2,none⟩) hwz).trans g2),(((((Below.refl _ _).alloc (Nat.le_refl _) (.cells #[.int .u8 cl, .int .u64 sq, .int .i64 er, .int .u64 inc, .int .i64 st, .slice vA vl.length vc] 106)).trans (hu.mono (Nat.le_succ _))).cell (p:=⟨tb,ot+k * 6+3,none⟩) hwz).trans g3),(((((Below.refl _ _).alloc (Nat.le_refl _) (.cells #[.int .u8 cl, .int .u64 sq, .int .i64 er, .int .u64 inc, .int .i64 st, .slice vA vl.length vc] 106)).trans (hu.mono (Nat.le_succ _))).cell (p:=⟨tb,ot+k * 6+4,none⟩) hwz).trans g4),(((((Below.refl _ _).alloc (Nat.le_refl _) (.cells #[.int .u8 cl, .int .u64 sq, .int .i64 er, .int .u64 inc, .int .i64 st, .slice vA vl.length vc] 106)).trans (hu.mono (Nat.le_succ _))).cell (p:=⟨tb,ot+k * 6+5,none⟩) hwz).trans g5)⟩)
   have i1:IntKind.i64.wrap (k:Int)=k:=IntWalk.i64_in _ (by omega)
   have i5:(k:Int)<(n:Int):=by omega
   have i2:(0:Int)<=(k:Int)+1:=by omega
   have i3:(k:Int)+1<(n:Int):=by omega
   have i4:k<n:=by omega
   clear hpt hy hym g0 g1 g2 g3 g4 g5
   by_cases hle:cl<=pcl
   ·have HP:=aa (show risB (l.map (fun x=>x.cl)) lo hi=false from iC (by rw [List.length_map,HN.out]) hlt (by rw [HRX.out,hin,hgd];simp [hle]))
    have HIN:=aa hin
    have hd:=decide_eq_true hle
    clear hin hgd hle
    go_upto_region 4 with fail
    refine wp_region_held_drew (S:=(fun w'=>(∀i:Nat,w'.cell? ⟨wr.heap.size,i,none⟩=(#[.int .u8 cl, .int .u64 sq, .int .i64 er, .int .u64 inc, .int .i64 st, .slice vA vl.length vc] : Array Value)[i]?)/\w'.cell? ⟨tb,ot+k * 6,none⟩=some (.int .u8 pcl)/\w'.cell? ⟨tb,ot+k * 6+1,none⟩=some (.int .u64 psq)/\w'.cell? ⟨tb,ot+k * 6+2,none⟩=some (.int .i64 per)/\w'.cell? ⟨tb,ot+k * 6+3,none⟩=some (.int .u64 pinc)/\w'.cell? ⟨tb,ot+k * 6+4,none⟩=some (.int .i64 pst)/\w'.cell? ⟨tb,ot+k * 6+5,none⟩=some (.slice pA pl.length pc))) (by kernel_rfl) (⟨HCX.out _ HB0.out,HPX.out _ HB0.out⟩) (fun hHeld => ?_)
    refine tkY 0 18 ?v19 rfl ?hy19 (by assumption) ?rest19
    case hy19=>intro w hSw;(try dsimp only at hSw);go_simp <;> with_reducible rfl
    simp only [Act.put,sTI,sT0,sT1]
    refine tkY 1 19 ?v20 rfl ?hy20 (by assumption) ?rest20
    case hy20=>intro w hSw;(try dsimp only at hSw);go_simp <;> with_reducible rfl
    simp only [Act.put,sTI,sT0,sT1]
    refine tkY 3 21 ?v21 rfl ?hy21 (by assumption) ?rest21
    case hy21=>intro w hSw;(try dsimp only at hSw);go_simp <;> with_reducible rfl
    simp only [Act.put,sTI,sT0,sT1]
    refine tkY 4 22 ?v22 rfl ?hy22 (by assumption) ?rest22
    case hy22=>intro w hSw;(try dsimp only at hSw);go_simp <;> with_reducible rfl
    simp only [Act.put,sTI,sT0,sT1]
    refine wpAnyH_ready (rs:=[2]) (by kernel_rfl) (by simp) ?_
    refine AllReadyH.cons rfl (fun K hK => ?_) AllReadyH.nil
    go_simp
    go_wp2_with fail
    refine (HC.out _).mono ?_
    rintro en w1 ⟨rfl,hbw1⟩
    have HBw1:=aa (HB0.out.trans (hbw1.mono (by simp)))
    clear hbw1
    refine hK.out _ _ (⟨HCX.out _ HBw1.out,HPX.out _ HBw1.out⟩) (fun hHeld => ?_)
    clear hK K
    refine wpAnyH_ready (rs:=[5]) (by kernel_rfl) (by simp) ?_
    refine AllReadyH.cons rfl (fun K hK => ?_) AllReadyH.nil
    go_simp
    go_wp2_with (first|(go_at_call 328;refine (aR _ _ _ _).mono ?_;rw [HIN.out];rintro en w2 ⟨rfl,rfl⟩))
    refine hK.out _ _ (⟨HCX.out _ HBw1.out,HPX.out _ HBw1.out⟩) (fun hHeld => ?_)
    clear hK K
    refine tkY 6 24 ?v23 rfl ?hy23 (by assumption) ?rest23
    case hy23=>intro w hSw;(try dsimp only at hSw);go_simp <;> with_reducible rfl
    simp only [Act.put,sTI,sT0,sT1]
    refine tkY 7 25 ?v24 rfl ?hy24 (by assumption) ?rest24
    case hy24=>intro w hSw;(try dsimp only at hSw);go_simp <;> with_reducible rfl
    simp only [Act.put,sTI,sT0,sT1]
    refine tkY 8 26 ?v25 rfl ?hy25 (by assumption) ?rest25
    case hy25=>intro w hSw;(try dsimp only at hSw);go_simp <;> with_reducible rfl
    simp only [Act.put,sTI,sT0,sT1]
    refine tkY 9 27 ?v26 rfl ?hy26 (by assumption) ?rest26
    case hy26=>intro w hSw;(try dsimp only at hSw);go_simp <;> with_reducible rfl
    simp only [Act.put,sTI,sT0,sT1]
    refine tkY 10 28 ?v27 rfl ?hy27 (by assumption) ?rest27
    case hy27=>intro w hSw;(try dsimp only at hSw);go_simp <;> with_reducible rfl
    simp only [Act.put,sTI,sT0,sT1]
    refine tkY 11 29 ?v28 rfl ?hy28 (by assumption) ?rest28
    case hy28=>intro w hSw;(try dsimp only at hSw);go_simp <;> with_reducible rfl
    simp only [Act.put,sTI,sT0,sT1]
    refine tkY 12 30 ?v29 rfl ?hy29 (by assumption) ?rest29
    case hy29=>intro w hSw;(try dsimp only at hSw);go_simp <;> with_reducible rfl
    simp only [Act.put,sTI,sT0,sT1]
    refine tkY 14 32 ?v30 rfl ?hy30 (by assumption) ?rest30
    case hy30=>intro w hSw;(try dsimp only at hSw);go_simp <;> with_reducible rfl
    simp only [Act.put,sTI,sT0,sT1]
    refine tkY 15 33 ?v31 rfl ?hy31 (by assumption) ?rest31
    case hy31=>intro w hSw;(try dsimp only at hSw);go_simp <;> with_reducible rfl
    simp only [Act.put,sTI,sT0,sT1]
    refine tkY 16 34 ?v32 rfl ?hy32 (by assumption) ?rest32
    case hy32=>intro w hSw;(try dsimp only at hSw);go_simp <;> with_reducible rfl
    simp only [Act.put,sTI,sT0,sT1]
    refine tkY 17 35 ?v33 rfl ?hy33 (by assumption) ?rest33
    case hy33=>intro w hSw;(try dsimp only at hSw);go_simp <;> with_reducible rfl
    simp only [Act.put,sTI,sT0,sT1]
    refine tkY 18 36 ?v34 rfl ?hy34 (by assumption) ?rest34
    case hy34=>intro w hSw;(try dsimp only at hSw);go_simp <;> with_reducible rfl
    simp only [Act.put,sTI,sT0,sT1]
    refine tkY 19 37 ?v35 rfl ?hy35 (by assumption) ?rest35
    case hy35=>intro w hSw;(try dsimp only at hSw);go_simp <;> with_reducible rfl
    simp only [Act.put,sTI,sT0,sT1]
    refine wpAnyH_ready (rs:=[13]) (by kernel_rfl) (by simp) ?_
    refine AllReadyH.cons rfl (fun K hK => ?_) AllReadyH.nil
    go_simp
    go_wp2_with fail
    refine (HC.out _).mono ?_
    rintro en w3 ⟨rfl,hbw3⟩
    have HBw3:=aa (HBw1.out.trans (hbw3.mono (by have h:=HBw1.out.size;simp at h;omega)))
    clear hbw3
    refine hK.out _ _ (⟨HCX.out _ HBw3.out,HPX.out _ HBw3.out⟩) (fun hHeld => ?_)
    clear hK K
    refine wpAnyH_ready (rs:=[20]) (by kernel_rfl) (by simp) ?_
    refine AllReadyH.cons rfl (fun K hK => ?_) AllReadyH.nil
    go_simp
    go_wp2_with fail
    refine (HCP.out _).mono ?_
    rintro en w4 ⟨rfl,hbw4⟩
    have HBw4:=aa (HBw3.out.trans (hbw4.mono (by have h:=HBw3.out.size;simp at h;omega)))
    clear hbw4
    refine hK.out _ _ (⟨HCX.out _ HBw4.out,HPX.out _ HBw4.out⟩) (fun hHeld => ?_)
    clear hK K
    refine tkY 21 39 ?v36 rfl ?hy36 (by assumption) ?rest36
    case hy36=>intro w hSw;(try dsimp only at hSw);go_simp <;> with_reducible rfl
    simp only [Act.put,sTI,sT0,sT1]
    refine tkY 22 40 ?v37 rfl ?hy37 (by assumption) ?rest37
    case hy37=>intro w hSw;(try dsimp only at hSw);go_simp <;> with_reducible rfl
    simp only [Act.put,sTI,sT0,sT1]
    refine tkY 23 41 ?v38 rfl ?hy38 (by assumption) ?rest38
    case hy38=>intro w hSw;(try dsimp only at hSw);go_simp <;> with_reducible rfl
    simp only [Act.put,sTI,sT0,sT1]
    refine wpAnyH_done (by kernel_rfl) ?_ _
    go_wp2_with fail
    go_ret
    exact ⟨ae HP.out.symm,HFIN.out _ HBw4.out⟩
   ·have HJ2:=aa (show ∀j,j<k+1+1->risX (l.map (fun x=>x.cl)) lo hi j=false from fun j hj=>by
     by_cases h:j=k+1
     ·rw [h,HRX.out,hin,hgd];simp [hle]
     ·exact HJ.out j (by omega))
    have HIN:=aa hin
    have hd:=decide_eq_false hle
    clear hin hgd hle
    go_upto_region 4 with fail
    refine wp_region_held_drew (S:=(fun w'=>(∀i:Nat,w'.cell? ⟨wr.heap.size,i,none⟩=(#[.int .u8 cl, .int .u64 sq, .int .i64 er, .int .u64 inc, .int .i64 st, .slice vA vl.length vc] : Array Value)[i]?)/\w'.cell? ⟨tb,ot+k * 6,none⟩=some (.int .u8 pcl)/\w'.cell? ⟨tb,ot+k * 6+1,none⟩=some (.int .u64 psq)/\w'.cell? ⟨tb,ot+k * 6+2,none⟩=some (.int .i64 per)/\w'.cell? ⟨tb,ot+k * 6+3,none⟩=some (.int .u64 pinc)/\w'.cell? ⟨tb,ot+k * 6+4,none⟩=some (.int .i64 pst)/\w'.cell? ⟨tb,ot+k * 6+5,none⟩=some (.slice pA pl.length pc))) (by kernel_rfl) (⟨HCX.out _ HB0.out,HPX.out _ HB0.out⟩) (fun hHeld => ?_)
    refine tkY 0 18 ?v39 rfl ?hy39 (by assumption) ?rest39
    case hy39=>intro w hSw;(try dsimp only at hSw);go_simp <;> with_reducible rfl
    simp only [Act.put,sTI,sT0,sT1]
    refine tkY 1 19 ?v40 rfl ?hy40 (by assumption) ?rest40
    case hy40=>intro w hSw;(try dsimp only at hSw);go_simp <;> with_reducible rfl
    simp only [Act.put,sTI,sT0,sT1]
    refine tkY 3 21 ?v41 rfl ?hy41 (by assumption) ?rest41
    case hy41=>intro w hSw;(try dsimp only at hSw);go_simp <;> with_reducible rfl
    simp only [Act.put,sTI,sT0,sT1]
    refine tkY 4 22 ?v42 rfl ?hy42 (by assumption) ?rest42
    case hy42=>intro w hSw;(try dsimp only at hSw);go_simp <;> with_reducible rfl
    simp only [Act.put,sTI,sT0,sT1]
    refine wpAnyH_ready (rs:=[2]) (by kernel_rfl) (by simp) ?_
    refine AllReadyH.cons rfl (fun K hK => ?_) AllReadyH.nil
    go_simp
    go_wp2_with fail
    refine (HC.out _).mono ?_
    rintro en w1 ⟨rfl,hbw1⟩
    have HBw1:=aa (HB0.out.trans (hbw1.mono (by simp)))
    clear hbw1
    refine hK.out _ _ (⟨HCX.out _ HBw1.out,HPX.out _ HBw1.out⟩) (fun hHeld => ?_)
    clear hK K
    refine wpAnyH_ready (rs:=[5]) (by kernel_rfl) (by simp) ?_
    refine AllReadyH.cons rfl (fun K hK => ?_) AllReadyH.nil
    go_simp
    go_wp2_with (first|(go_at_call 328;refine (aR _ _ _ _).mono ?_;rw [HIN.out];rintro en w2 ⟨rfl,rfl⟩))
    refine hK.out _ _ (⟨HCX.out _ HBw1.out,HPX.out _ HBw1.out⟩) (fun hHeld => ?_)
    clear hK K
    refine tkY 6 24 ?v43 rfl ?hy43 (by assumption) ?rest43
    case hy43=>intro w hSw;(try dsimp only at hSw);go_simp <;> with_reducible rfl
    simp only [Act.put,sTI,sT0,sT1]
    refine tkY 7 25 ?v44 rfl ?hy44 (by assumption) ?rest44
    case hy44=>intro w hSw;(try dsimp only at hSw);go_simp <;> with_reducible rfl
    simp only [Act.put,sTI,sT0,sT1]
    refine tkY 8 26 ?v45 rfl ?hy45 (by assumption) ?rest45
    case hy45=>intro w hSw;(try dsimp only at hSw);go_simp <;> with_reducible rfl
    simp only [Act.put,sTI,sT0,sT1]
    refine tkY 9 27 ?v46 rfl ?hy46 (by assumption) ?rest46
    case hy46=>intro w hSw;(try dsimp only at hSw);go_simp <;> with_reducible rfl
    simp only [Act.put,sTI,sT0,sT1]
    refine tkY 10 28 ?v47 rfl ?hy47 (by assumption) ?rest47
    case hy47=>intro w hSw;(try dsimp only at hSw);go_simp <;> with_reducible rfl
    simp only [Act.put,sTI,sT0,sT1]
    refine tkY 11 29 ?v48 rfl ?hy48 (by assumption) ?rest48
    case hy48=>intro w hSw;(try dsimp only at hSw);go_simp <;> with_reducible rfl
    simp only [Act.put,sTI,sT0,sT1]
    refine tkY 12 30 ?v49 rfl ?hy49 (by assumption) ?rest49
    case hy49=>intro w hSw;(try dsimp only at hSw);go_simp <;> with_reducible rfl
    simp only [Act.put,sTI,sT0,sT1]
    refine tkY 14 32 ?v50 rfl ?hy50 (by assumption) ?rest50
    case hy50=>intro w hSw;(try dsimp only at hSw);go_simp <;> with_reducible rfl
    simp only [Act.put,sTI,sT0,sT1]
    refine tkY 15 33 ?v51 rfl ?hy51 (by assumption) ?rest51
    case hy51=>intro w hSw;(try dsimp only at hSw);go_simp <;> with_reducible rfl
    simp only [Act.put,sTI,sT0,sT1]
    refine tkY 16 34 ?v52 rfl ?hy52 (by assumption) ?rest52
    case hy52=>intro w hSw;(try dsimp only at hSw);go_simp <;> with_reducible rfl
    simp only [Act.put,sTI,sT0,sT1]
    refine tkY 17 35 ?v53 rfl ?hy53 (by assumption) ?rest53
    case hy53=>intro w hSw;(try dsimp only at hSw);go_simp <;> with_reducible rfl
    simp only [Act.put,sTI,sT0,sT1]
    refine tkY 18 36 ?v54 rfl ?hy54 (by assumption) ?rest54
    case hy54=>intro w hSw;(try dsimp only at hSw);go_simp <;> with_reducible rfl
    simp only [Act.put,sTI,sT0,sT1]
    refine tkY 19 37 ?v55 rfl ?hy55 (by assumption) ?rest55
    case hy55=>intro w hSw;(try dsimp only at hSw);go_simp <;> with_reducible rfl
    simp only [Act.put,sTI,sT0,sT1]
    refine wpAnyH_ready (rs:=[13]) (by kernel_rfl) (by simp) ?_
    refine AllReadyH.cons rfl (fun K hK => ?_) AllReadyH.nil
    go_simp
    go_wp2_with fail
    refine (HC.out _).mono ?_
    rintro en w3 ⟨rfl,hbw3⟩
    have HBw3:=aa (HBw1.out.trans (hbw3.mono (by have h:=HBw1.out.size;simp at h;omega)))
    clear hbw3
    refine hK.out _ _ (⟨HCX.out _ HBw3.out,HPX.out _ HBw3.out⟩) (fun hHeld => ?_)
    clear hK K
    refine wpAnyH_ready (rs:=[20]) (by kernel_rfl) (by simp) ?_
    refine AllReadyH.cons rfl (fun K hK => ?_) AllReadyH.nil
    go_simp
    go_wp2_with fail
    refine (HCP.out _).mono ?_
    rintro en w4 ⟨rfl,hbw4⟩
    have HBw4:=aa (HBw3.out.trans (hbw4.mono (by have h:=HBw3.out.size;simp at h;omega)))
    clear hbw4
    refine hK.out _ _ (⟨HCX.out _ HBw4.out,HPX.out _ HBw4.out⟩) (fun hHeld => ?_)
    clear hK K
    refine tkY 21 39 ?v56 rfl ?hy56 (by assumption) ?rest56
    case hy56=>intro w hSw;(try dsimp only at hSw);go_simp <;> with_reducible rfl
    simp only [Act.put,sTI,sT0,sT1]
    refine tkY 22 40 ?v57 rfl ?hy57 (by assumption) ?rest57
    case hy57=>intro w hSw;(try dsimp only at hSw);go_simp <;> with_reducible rfl
    simp only [Act.put,sTI,sT0,sT1]
    refine tkY 23 41 ?v58 rfl ?hy58 (by assumption) ?rest58
    case hy58=>intro w hSw;(try dsimp only at hSw);go_simp <;> with_reducible rfl
    simp only [Act.put,sTI,sT0,sT1]
    refine wpAnyH_done (by kernel_rfl) ?_ _
    go_wp2_with fail
    go_roundw
    case rel=>exact ⟨k+1+1,by omega,by go_num,HJ2,HFIN.out _ HBw4.out⟩
    case measure=>simp [intOf];omega


theorem mG (fn:Nat) (lo hi:Int) (s:Sl (CelM)) (B:Nat) (w:World) (hs:ga w B s) (hB:B<=w.heap.size)
  (he:∀args w,(callFunc fn args).run Tryz.prog w = .ok (.enter fn args) w) (hf:∀(x:CelM) wr,x∈s.l->Calls Tryz.prog fn #[celV x] wr fun e w'=>e = .returned (.int .u64 x.1)/\Below wr.heap.size wr w') :
  Calls Tryz.prog 296 #[s.v, .int .u64 lo, .int .u64 hi, .func (.func fn) #[] #[]] w fun e w'=>e = .returned (.bool (risB (s.l.map (fun x=>x.1)) lo hi))/\Below B w w':=by
 obtain ⟨A,c,l⟩:=s
 obtain ⟨h1,h2,h3,h4⟩:=hs
 obtain ⟨n,hn⟩:∃n,l.length=n:=⟨_,rfl⟩
 have HS:=aa h3
 have HF:=aa hf
 have HN:=aa hn
 simp only [Sl.v,hn] at h1 h2 ⊢
 have hnm:n<=9223372036854775807:=by unfold maxLen at h2;omega
 clear h3 hf hn h4 h1 h2
 go_enter Tryz.func296,Tryz.ntmps296
 go_wp2
 go_loopw [13] (fun i wr=>∃k:Nat,k<=n/\i = .int .i64 k/\Hid (∀j,j<k->risX (l.map (fun x=>x.1)) lo hi j=false)/\Below B w wr) (fun i _=>n - (intOf i).toNat)
 case atStart=>exact ⟨0,Nat.zero_le _,rfl,(fun j hj=>absurd hj (by omega)),Below.refl _ _⟩
 case round =>
  obtain ⟨k,hk,rfl,HJ,hb⟩:=hrel
  by_cases hlt:k<n
  case neg =>
   obtain rfl:k=n:=by omega
   have HP:=aa (show risB (l.map (fun x=>x.1)) lo hi=true from mE (by rw [List.length_map,HN.out]) HJ.out)
   go_wp2
   go_ret
   exact ⟨ae HP.out.symm,hb⟩
  obtain ⟨x,hx⟩:∃x,l[k]?=some x:=⟨_,List.getElem?_eq_getElem (by rw [HN.out];exact hlt)⟩
  have hs1:=HS.out.below hb
  have hxm:x∈l:=List.mem_of_getElem? hx
  have hzw:w.heap.size<=wr.heap.size:=hb.size
  obtain ⟨tb,ot,hAe,hab,e0,e1,e2,e3⟩:=hs1.cel hx
  have hwz:tb<wr.heap.size:=by omega
  subst hAe
  have hat:=gQ (f:=(fun x=>x.1)) hx
  have HC:=aa (fun u=>HF.out x u hxm)
  obtain ⟨cl,b,c',d⟩:=x
  simp only at e0 e1 e2 e3 hat HC
  have HRX:=aa (fk (lo:=lo) (hi:=hi) hat)
  have HAT:=aa hat
  have HBW:=aa (show Below B w (wr.alloc (.cells #[.int .u64 cl, .int .u8 b, .int .i64 c', .int .i64 d] 108)) from hb.alloc (by omega) _)
  have HB0:=aa (show Below (wr.heap.size+1) (wr.alloc (.cells #[.int .u64 cl, .int .u8 b, .int .i64 c', .int .i64 d] 108)) (wr.alloc (.cells #[.int .u64 cl, .int .u8 b, .int .i64 c', .int .i64 d] 108)).drew from (Below.refl _ _).drew)
  have HCX:=aa (fun (u:World) (hu:Below (wr.heap.size+1) (wr.alloc (.cells #[.int .u64 cl, .int .u8 b, .int .i64 c', .int .i64 d] 108)) u)=>show ∀i:Nat,u.cell? ⟨wr.heap.size,i,none⟩=(#[.int .u64 cl, .int .u8 b, .int .i64 c', .int .i64 d] : Array Value)[i]? from (BoxAt.below (BoxAt.new wr #[.int .u64 cl, .int .u8 b, .int .i64 c', .int .i64 d] 108) (hu.mono (by simp))).cell)
  have HFIN:=aa (fun (u:World) (hu:Below (wr.heap.size+1) (wr.alloc (.cells #[.int .u64 cl, .int .u8 b, .int .i64 c', .int .i64 d] 108)) u)=>show Below B w u from HBW.out.trans (hu.mono (by omega)))
  have HHS:=aa hs1
  have HHX:=aa hx
  clear hat hs1 hx hxm hb
  cases hin:inB cl lo hi with
  | false =>
   have HP:=aa (show risB (l.map (fun x=>x.1)) lo hi=false from iC (by rw [List.length_map,HN.out]) hlt (by rw [HRX.out,hin];rfl))
   have HIN:=aa hin
   clear hin
   go_upto_region 4 with fail
   refine wp_region_held_drew (S:=(fun w'=>(∀i:Nat,w'.cell? ⟨wr.heap.size,i,none⟩=(#[.int .u64 cl, .int .u8 b, .int .i64 c', .int .i64 d] : Array Value)[i]?))) (by kernel_rfl) (HCX.out _ HB0.out) (fun hHeld => ?_)
   refine tkY 0 18 ?v1 rfl ?hy1 (by assumption) ?rest1
   case hy1=>intro w hSw;(try dsimp only at hSw);go_simp <;> with_reducible rfl
   simp only [Act.put,sTI,sT0,sT1]
   refine tkY 1 19 ?v2 rfl ?hy2 (by assumption) ?rest2
   case hy2=>intro w hSw;(try dsimp only at hSw);go_simp <;> with_reducible rfl
   simp only [Act.put,sTI,sT0,sT1]
   refine tkY 3 21 ?v3 rfl ?hy3 (by assumption) ?rest3
   case hy3=>intro w hSw;(try dsimp only at hSw);go_simp <;> with_reducible rfl
   simp only [Act.put,sTI,sT0,sT1]
   refine tkY 4 22 ?v4 rfl ?hy4 (by assumption) ?rest4
   case hy4=>intro w hSw;(try dsimp only at hSw);go_simp <;> with_reducible rfl
   simp only [Act.put,sTI,sT0,sT1]
   refine wpAnyH_ready (rs:=[2]) (by kernel_rfl) (by simp) ?_
   refine AllReadyH.cons rfl (fun K hK => ?_) AllReadyH.nil
   go_simp
   go_wp2_with fail
   refine (HC.out _).mono ?_
   rintro en w1 ⟨rfl,hbw1⟩
   have HBw1:=aa (HB0.out.trans (hbw1.mono (by simp)))
   clear hbw1
   refine hK.out _ _ (HCX.out _ HBw1.out) (fun hHeld => ?_)
   clear hK K
   refine wpAnyH_ready (rs:=[5]) (by kernel_rfl) (by simp) ?_
   refine AllReadyH.cons rfl (fun K hK => ?_) AllReadyH.nil
   go_simp
   go_wp2_with (first|(go_at_call 328;refine (aR _ _ _ _).mono ?_;rw [HIN.out];rintro en w2 ⟨rfl,rfl⟩))
   refine hK.out _ _ (HCX.out _ HBw1.out) (fun hHeld => ?_)
   clear hK K
   refine tkY 6 24 ?v5 rfl ?hy5 (by assumption) ?rest5
   case hy5=>intro w hSw;(try dsimp only at hSw);go_simp <;> with_reducible rfl
   simp only [Act.put,sTI,sT0,sT1]
   refine tkY 7 25 ?v6 rfl ?hy6 (by assumption) ?rest6
   case hy6=>intro w hSw;(try dsimp only at hSw);go_simp <;> with_reducible rfl
   simp only [Act.put,sTI,sT0,sT1]
   refine tkU 8 26 rfl (by assumption) ?_
   simp only [Act.put,sTI,sT0,sT1]
   refine tkU 9 27 rfl (by assumption) ?_
   simp only [Act.put,sTI,sT0,sT1]
   refine tkU 10 28 rfl (by assumption) ?_
   simp only [Act.put,sTI,sT0,sT1]
   refine tkU 11 29 rfl (by assumption) ?_
   simp only [Act.put,sTI,sT0,sT1]
   refine tkU 12 30 rfl (by assumption) ?_
   simp only [Act.put,sTI,sT0,sT1]
   refine tkU 13 31 rfl (by assumption) ?_
   simp only [Act.put,sTI,sT0,sT1]
   refine tkU 14 32 rfl (by assumption) ?_
   simp only [Act.put,sTI,sT0,sT1]
   refine tkU 15 33 rfl (by assumption) ?_
   simp only [Act.put,sTI,sT0,sT1]
   refine tkU 16 34 rfl (by assumption) ?_
   simp only [Act.put,sTI,sT0,sT1]
   refine tkU 17 35 rfl (by assumption) ?_
   simp only [Act.put,sTI,sT0,sT1]
   refine tkU 18 36 rfl (by assumption) ?_
   simp only [Act.put,sTI,sT0,sT1]
   refine tkU 19 37 rfl (by assumption) ?_
   simp only [Act.put,sTI,sT0,sT1]
   refine tkU 20 38 rfl (by assumption) ?_
   simp only [Act.put,sTI,sT0,sT1]
   refine tkU 21 39 rfl (by assumption) ?_
   simp only [Act.put,sTI,sT0,sT1]
   refine tkU 22 40 rfl (by assumption) ?_
   simp only [Act.put,sTI,sT0,sT1]
   refine tkY 23 41 ?v7 rfl ?hy7 (by assumption) ?rest7
   case hy7=>intro w hSw;(try dsimp only at hSw);go_simp <;> with_reducible rfl
   simp only [Act.put,sTI,sT0,sT1]
   refine wpAnyH_done (by kernel_rfl) ?_ _
   go_wp2_with fail
   go_ret
   exact ⟨ae HP.out.symm,HFIN.out _ HBw1.out⟩
  | true =>
  rcases k with _|k
  ·simp only [Nat.zero_mul,Nat.add_zero] at e0 e1 e2 e3
   have HJ2:=aa (show ∀j,j<0+1->risX (l.map (fun x=>x.1)) lo hi j=false from fun j hj=>by
    obtain rfl:j=0:=by omega
    rw [HRX.out,hin];rfl)
   have HIN:=aa hin
   clear hin
   go_upto_region 4 with fail
   refine wp_region_held_drew (S:=(fun w'=>(∀i:Nat,w'.cell? ⟨wr.heap.size,i,none⟩=(#[.int .u64 cl, .int .u8 b, .int .i64 c', .int .i64 d] : Array Value)[i]?))) (by kernel_rfl) (HCX.out _ HB0.out) (fun hHeld => ?_)
   refine tkY 0 18 ?v8 rfl ?hy8 (by assumption) ?rest8
   case hy8=>intro w hSw;(try dsimp only at hSw);go_simp <;> with_reducible rfl
   simp only [Act.put,sTI,sT0,sT1]
   refine tkY 1 19 ?v9 rfl ?hy9 (by assumption) ?rest9
   case hy9=>intro w hSw;(try dsimp only at hSw);go_simp <;> with_reducible rfl
   simp only [Act.put,sTI,sT0,sT1]
   refine tkY 3 21 ?v10 rfl ?hy10 (by assumption) ?rest10
   case hy10=>intro w hSw;(try dsimp only at hSw);go_simp <;> with_reducible rfl
   simp only [Act.put,sTI,sT0,sT1]
   refine tkY 4 22 ?v11 rfl ?hy11 (by assumption) ?rest11
   case hy11=>intro w hSw;(try dsimp only at hSw);go_simp <;> with_reducible rfl
   simp only [Act.put,sTI,sT0,sT1]
   refine wpAnyH_ready (rs:=[2]) (by kernel_rfl) (by simp) ?_
   refine AllReadyH.cons rfl (fun K hK => ?_) AllReadyH.nil
   go_simp
   go_wp2_with fail
   refine (HC.out _).mono ?_
   rintro en w1 ⟨rfl,hbw1⟩
   have HBw1:=aa (HB0.out.trans (hbw1.mono (by simp)))
   clear hbw1
   refine hK.out _ _ (HCX.out _ HBw1.out) (fun hHeld => ?_)
   clear hK K
   refine wpAnyH_ready (rs:=[5]) (by kernel_rfl) (by simp) ?_
   refine AllReadyH.cons rfl (fun K hK => ?_) AllReadyH.nil
   go_simp
   go_wp2_with (first|(go_at_call 328;refine (aR _ _ _ _).mono ?_;rw [HIN.out];rintro en w2 ⟨rfl,rfl⟩))
   refine hK.out _ _ (HCX.out _ HBw1.out) (fun hHeld => ?_)
   clear hK K
   refine tkY 6 24 ?v12 rfl ?hy12 (by assumption) ?rest12
   case hy12=>intro w hSw;(try dsimp only at hSw);go_simp <;> with_reducible rfl
   simp only [Act.put,sTI,sT0,sT1]
   refine tkY 7 25 ?v13 rfl ?hy13 (by assumption) ?rest13
   case hy13=>intro w hSw;(try dsimp only at hSw);go_simp <;> with_reducible rfl
   simp only [Act.put,sTI,sT0,sT1]
   refine tkY 8 26 ?v14 rfl ?hy14 (by assumption) ?rest14
   case hy14=>intro w hSw;(try dsimp only at hSw);go_simp <;> with_reducible rfl
   simp only [Act.put,sTI,sT0,sT1]
   refine tkY 9 27 ?v15 rfl ?hy15 (by assumption) ?rest15
   case hy15=>intro w hSw;(try dsimp only at hSw);go_simp <;> with_reducible rfl
   simp only [Act.put,sTI,sT0,sT1]
   refine tkY 10 28 ?v16 rfl ?hy16 (by assumption) ?rest16
   case hy16=>intro w hSw;(try dsimp only at hSw);go_simp <;> with_reducible rfl
   simp only [Act.put,sTI,sT0,sT1]
   refine tkU 11 29 rfl (by assumption) ?_
   simp only [Act.put,sTI,sT0,sT1]
   refine tkU 12 30 rfl (by assumption) ?_
   simp only [Act.put,sTI,sT0,sT1]
   refine tkU 13 31 rfl (by assumption) ?_
   simp only [Act.put,sTI,sT0,sT1]
   refine tkU 14 32 rfl (by assumption) ?_
   simp only [Act.put,sTI,sT0,sT1]
   refine tkU 15 33 rfl (by assumption) ?_
   simp only [Act.put,sTI,sT0,sT1]
   refine tkU 16 34 rfl (by assumption) ?_
   simp only [Act.put,sTI,sT0,sT1]
   refine tkU 17 35 rfl (by assumption) ?_
   simp only [Act.put,sTI,sT0,sT1]
   refine tkU 18 36 rfl (by assumption) ?_
   simp only [Act.put,sTI,sT0,sT1]
   refine tkU 19 37 rfl (by assumption) ?_
   simp only [Act.put,sTI,sT0,sT1]
   refine tkU 20 38 rfl (by assumption) ?_
   simp only [Act.put,sTI,sT0,sT1]
   refine tkU 21 39 rfl (by assumption) ?_
   simp only [Act.put,sTI,sT0,sT1]
   refine tkY 22 40 ?v17 rfl ?hy17 (by assumption) ?rest17
   case hy17=>intro w hSw;(try dsimp only at hSw);go_simp <;> with_reducible rfl
   simp only [Act.put,sTI,sT0,sT1]
   refine tkY 23 41 ?v18 rfl ?hy18 (by assumption) ?rest18
   case hy18=>intro w hSw;(try dsimp only at hSw);go_simp <;> with_reducible rfl
   simp only [Act.put,sTI,sT0,sT1]
   refine wpAnyH_done (by kernel_rfl) ?_ _
   go_wp2_with fail
   go_roundw
   case rel=>exact ⟨1,by omega,by go_num,HJ2,HFIN.out _ HBw1.out⟩
   case measure=>simp [intOf];omega
  ·obtain ⟨y,hy⟩:∃y,l[k]?=some y:=⟨_,List.getElem?_eq_getElem (by rw [HN.out];omega)⟩
   have hym:y∈l:=List.mem_of_getElem? hy
   have hpt:=gQ (f:=(fun x=>x.1)) hy
   obtain ⟨tb2,ot2,hAe2,hab2,g0,g1,g2,g3⟩:=HHS.out.cel hy
   injection hAe2 with hAe2
   injection hAe2 with ht1 ht2
   subst ht1 ht2
   have HCP:=aa (fun u=>HF.out y u hym)
   obtain ⟨pcl,pb,pc,pd⟩:=y
   simp only at g0 g1 g2 g3 hpt HCP
   have hgd:(l.map (fun x=>x.1)).getD (k+1 - 1) 0=pcl:=by rw [Nat.add_sub_cancel,List.getD_eq_getElem?_getD,hpt];rfl
   have HPX:=aa (fun (u:World) (hu:Below (wr.heap.size+1) (wr.alloc (.cells #[.int .u64 cl, .int .u8 b, .int .i64 c', .int .i64 d] 108)) u)=>show u.cell? ⟨tb,ot+k * 4,none⟩=some (.int .u64 pcl)/\u.cell? ⟨tb,ot+k * 4+1,none⟩=some (.int .u8 pb)/\u.cell? ⟨tb,ot+k * 4+2,none⟩=some (.int .i64 pc)/\u.cell? ⟨tb,ot+k * 4+3,none⟩=some (.int .i64 pd) from ⟨(((((Below.refl _ _).alloc (Nat.le_refl _) (.cells #[.int .u64 cl, .int .u8 b, .int .i64 c', .int .i64 d] 108)).trans (hu.mono (Nat.le_succ _))).cell (p:=⟨tb,ot+k * 4,none⟩) hwz).trans g0),(((((Below.refl _ _).alloc (Nat.le_refl _) (.cells #[.int .u64 cl, .int .u8 b, .int .i64 c', .int .i64 d] 108)).trans (hu.mono (Nat.le_succ _))).cell (p:=⟨tb,ot+k * 4+1,none⟩) hwz).trans g1),(((((Below.refl _ _).alloc (Nat.le_refl _) (.cells #[.int .u64 cl, .int .u8 b, .int .i64 c', .int .i64 d] 108)).trans (hu.mono (Nat.le_succ _))).cell (p:=⟨tb,ot+k * 4+2,none⟩) hwz).trans g2),(((((Below.refl _ _).alloc (Nat.le_refl _) (.cells #[.int .u64 cl, .int .u8 b, .int .i64 c', .int .i64 d] 108)).trans (hu.mono (Nat.le_succ _))).cell (p:=⟨tb,ot+k * 4+3,none⟩) hwz).trans g3)⟩)
   have i1:IntKind.i64.wrap (k:Int)=k:=IntWalk.i64_in _ (by omega)
   have i5:(k:Int)<(n:Int):=by omega
   have i2:(0:Int)<=(k:Int)+1:=by omega
   have i3:(k:Int)+1<(n:Int):=by omega
   have i4:k<n:=by omega
   clear hpt hy hym g0 g1 g2 g3
   by_cases hle:cl<=pcl
   ·have HP:=aa (show risB (l.map (fun x=>x.1)) lo hi=false from iC (by rw [List.length_map,HN.out]) hlt (by rw [HRX.out,hin,hgd];simp [hle]))
    have HIN:=aa hin
    have hd:=decide_eq_true hle
    clear hin hgd hle
    go_upto_region 4 with fail
    refine wp_region_held_drew (S:=(fun w'=>(∀i:Nat,w'.cell? ⟨wr.heap.size,i,none⟩=(#[.int .u64 cl, .int .u8 b, .int .i64 c', .int .i64 d] : Array Value)[i]?)/\w'.cell? ⟨tb,ot+k * 4,none⟩=some (.int .u64 pcl)/\w'.cell? ⟨tb,ot+k * 4+1,none⟩=some (.int .u8 pb)/\w'.cell? ⟨tb,ot+k * 4+2,none⟩=some (.int .i64 pc)/\w'.cell? ⟨tb,ot+k * 4+3,none⟩=some (.int .i64 pd))) (by kernel_rfl) (⟨HCX.out _ HB0.out,HPX.out _ HB0.out⟩) (fun hHeld => ?_)
    refine tkY 0 18 ?v19 rfl ?hy19 (by assumption) ?rest19
    case hy19=>intro w hSw;(try dsimp only at hSw);go_simp <;> with_reducible rfl
    simp only [Act.put,sTI,sT0,sT1]
    refine tkY 1 19 ?v20 rfl ?hy20 (by assumption) ?rest20
    case hy20=>intro w hSw;(try dsimp only at hSw);go_simp <;> with_reducible rfl
    simp only [Act.put,sTI,sT0,sT1]
    refine tkY 3 21 ?v21 rfl ?hy21 (by assumption) ?rest21
    case hy21=>intro w hSw;(try dsimp only at hSw);go_simp <;> with_reducible rfl
    simp only [Act.put,sTI,sT0,sT1]
    refine tkY 4 22 ?v22 rfl ?hy22 (by assumption) ?rest22
    case hy22=>intro w hSw;(try dsimp only at hSw);go_simp <;> with_reducible rfl
    simp only [Act.put,sTI,sT0,sT1]
    refine wpAnyH_ready (rs:=[2]) (by kernel_rfl) (by simp) ?_
    refine AllReadyH.cons rfl (fun K hK => ?_) AllReadyH.nil
    go_simp
    go_wp2_with fail
    refine (HC.out _).mono ?_
    rintro en w1 ⟨rfl,hbw1⟩
    have HBw1:=aa (HB0.out.trans (hbw1.mono (by simp)))
    clear hbw1
    refine hK.out _ _ (⟨HCX.out _ HBw1.out,HPX.out _ HBw1.out⟩) (fun hHeld => ?_)
    clear hK K
    refine wpAnyH_ready (rs:=[5]) (by kernel_rfl) (by simp) ?_
    refine AllReadyH.cons rfl (fun K hK => ?_) AllReadyH.nil
    go_simp
    go_wp2_with (first|(go_at_call 328;refine (aR _ _ _ _).mono ?_;rw [HIN.out];rintro en w2 ⟨rfl,rfl⟩))
    refine hK.out _ _ (⟨HCX.out _ HBw1.out,HPX.out _ HBw1.out⟩) (fun hHeld => ?_)
    clear hK K
    refine tkY 6 24 ?v23 rfl ?hy23 (by assumption) ?rest23
    case hy23=>intro w hSw;(try dsimp only at hSw);go_simp <;> with_reducible rfl
    simp only [Act.put,sTI,sT0,sT1]
    refine tkY 7 25 ?v24 rfl ?hy24 (by assumption) ?rest24
    case hy24=>intro w hSw;(try dsimp only at hSw);go_simp <;> with_reducible rfl
    simp only [Act.put,sTI,sT0,sT1]
    refine tkY 8 26 ?v25 rfl ?hy25 (by assumption) ?rest25
    case hy25=>intro w hSw;(try dsimp only at hSw);go_simp <;> with_reducible rfl
    simp only [Act.put,sTI,sT0,sT1]
    refine tkY 9 27 ?v26 rfl ?hy26 (by assumption) ?rest26
    case hy26=>intro w hSw;(try dsimp only at hSw);go_simp <;> with_reducible rfl
    simp only [Act.put,sTI,sT0,sT1]
    refine tkY 10 28 ?v27 rfl ?hy27 (by assumption) ?rest27
    case hy27=>intro w hSw;(try dsimp only at hSw);go_simp <;> with_reducible rfl
    simp only [Act.put,sTI,sT0,sT1]
    refine tkY 11 29 ?v28 rfl ?hy28 (by assumption) ?rest28
    case hy28=>intro w hSw;(try dsimp only at hSw);go_simp <;> with_reducible rfl
    simp only [Act.put,sTI,sT0,sT1]
    refine tkY 12 30 ?v29 rfl ?hy29 (by assumption) ?rest29
    case hy29=>intro w hSw;(try dsimp only at hSw);go_simp <;> with_reducible rfl
    simp only [Act.put,sTI,sT0,sT1]
    refine tkY 14 32 ?v30 rfl ?hy30 (by assumption) ?rest30
    case hy30=>intro w hSw;(try dsimp only at hSw);go_simp <;> with_reducible rfl
    simp only [Act.put,sTI,sT0,sT1]
    refine tkY 15 33 ?v31 rfl ?hy31 (by assumption) ?rest31
    case hy31=>intro w hSw;(try dsimp only at hSw);go_simp <;> with_reducible rfl
    simp only [Act.put,sTI,sT0,sT1]
    refine tkY 16 34 ?v32 rfl ?hy32 (by assumption) ?rest32
    case hy32=>intro w hSw;(try dsimp only at hSw);go_simp <;> with_reducible rfl
    simp only [Act.put,sTI,sT0,sT1]
    refine tkY 17 35 ?v33 rfl ?hy33 (by assumption) ?rest33
    case hy33=>intro w hSw;(try dsimp only at hSw);go_simp <;> with_reducible rfl
    simp only [Act.put,sTI,sT0,sT1]
    refine tkY 18 36 ?v34 rfl ?hy34 (by assumption) ?rest34
    case hy34=>intro w hSw;(try dsimp only at hSw);go_simp <;> with_reducible rfl
    simp only [Act.put,sTI,sT0,sT1]
    refine tkY 19 37 ?v35 rfl ?hy35 (by assumption) ?rest35
    case hy35=>intro w hSw;(try dsimp only at hSw);go_simp <;> with_reducible rfl
    simp only [Act.put,sTI,sT0,sT1]
    refine wpAnyH_ready (rs:=[13]) (by kernel_rfl) (by simp) ?_
    refine AllReadyH.cons rfl (fun K hK => ?_) AllReadyH.nil
    go_simp
    go_wp2_with fail
    refine (HC.out _).mono ?_
    rintro en w3 ⟨rfl,hbw3⟩
    have HBw3:=aa (HBw1.out.trans (hbw3.mono (by have h:=HBw1.out.size;simp at h;omega)))
    clear hbw3
    refine hK.out _ _ (⟨HCX.out _ HBw3.out,HPX.out _ HBw3.out⟩) (fun hHeld => ?_)
    clear hK K
    refine wpAnyH_ready (rs:=[20]) (by kernel_rfl) (by simp) ?_
    refine AllReadyH.cons rfl (fun K hK => ?_) AllReadyH.nil
    go_simp
    go_wp2_with fail
    refine (HCP.out _).mono ?_
    rintro en w4 ⟨rfl,hbw4⟩
    have HBw4:=aa (HBw3.out.trans (hbw4.mono (by have h:=HBw3.out.size;simp at h;omega)))
    clear hbw4
    refine hK.out _ _ (⟨HCX.out _ HBw4.out,HPX.out _ HBw4.out⟩) (fun hHeld => ?_)
    clear hK K
    refine tkY 21 39 ?v36 rfl ?hy36 (by assumption) ?rest36
    case hy36=>intro w hSw;(try dsimp only at hSw);go_simp <;> with_reducible rfl
    simp only [Act.put,sTI,sT0,sT1]
    refine tkY 22 40 ?v37 rfl ?hy37 (by assumption) ?rest37
    case hy37=>intro w hSw;(try dsimp only at hSw);go_simp <;> with_reducible rfl
    simp only [Act.put,sTI,sT0,sT1]
    refine tkY 23 41 ?v38 rfl ?hy38 (by assumption) ?rest38
    case hy38=>intro w hSw;(try dsimp only at hSw);go_simp <;> with_reducible rfl
    simp only [Act.put,sTI,sT0,sT1]
    refine wpAnyH_done (by kernel_rfl) ?_ _
    go_wp2_with fail
    go_ret
    exact ⟨ae HP.out.symm,HFIN.out _ HBw4.out⟩
   ·have HJ2:=aa (show ∀j,j<k+1+1->risX (l.map (fun x=>x.1)) lo hi j=false from fun j hj=>by
     by_cases h:j=k+1
     ·rw [h,HRX.out,hin,hgd];simp [hle]
     ·exact HJ.out j (by omega))
    have HIN:=aa hin
    have hd:=decide_eq_false hle
    clear hin hgd hle
    go_upto_region 4 with fail
    refine wp_region_held_drew (S:=(fun w'=>(∀i:Nat,w'.cell? ⟨wr.heap.size,i,none⟩=(#[.int .u64 cl, .int .u8 b, .int .i64 c', .int .i64 d] : Array Value)[i]?)/\w'.cell? ⟨tb,ot+k * 4,none⟩=some (.int .u64 pcl)/\w'.cell? ⟨tb,ot+k * 4+1,none⟩=some (.int .u8 pb)/\w'.cell? ⟨tb,ot+k * 4+2,none⟩=some (.int .i64 pc)/\w'.cell? ⟨tb,ot+k * 4+3,none⟩=some (.int .i64 pd))) (by kernel_rfl) (⟨HCX.out _ HB0.out,HPX.out _ HB0.out⟩) (fun hHeld => ?_)
    refine tkY 0 18 ?v39 rfl ?hy39 (by assumption) ?rest39
    case hy39=>intro w hSw;(try dsimp only at hSw);go_simp <;> with_reducible rfl
    simp only [Act.put,sTI,sT0,sT1]
    refine tkY 1 19 ?v40 rfl ?hy40 (by assumption) ?rest40
    case hy40=>intro w hSw;(try dsimp only at hSw);go_simp <;> with_reducible rfl
    simp only [Act.put,sTI,sT0,sT1]
    refine tkY 3 21 ?v41 rfl ?hy41 (by assumption) ?rest41
    case hy41=>intro w hSw;(try dsimp only at hSw);go_simp <;> with_reducible rfl
    simp only [Act.put,sTI,sT0,sT1]
    refine tkY 4 22 ?v42 rfl ?hy42 (by assumption) ?rest42
    case hy42=>intro w hSw;(try dsimp only at hSw);go_simp <;> with_reducible rfl
    simp only [Act.put,sTI,sT0,sT1]
    refine wpAnyH_ready (rs:=[2]) (by kernel_rfl) (by simp) ?_
    refine AllReadyH.cons rfl (fun K hK => ?_) AllReadyH.nil
    go_simp
    go_wp2_with fail
    refine (HC.out _).mono ?_
    rintro en w1 ⟨rfl,hbw1⟩
    have HBw1:=aa (HB0.out.trans (hbw1.mono (by simp)))
    clear hbw1
    refine hK.out _ _ (⟨HCX.out _ HBw1.out,HPX.out _ HBw1.out⟩) (fun hHeld => ?_)
    clear hK K
    refine wpAnyH_ready (rs:=[5]) (by kernel_rfl) (by simp) ?_
    refine AllReadyH.cons rfl (fun K hK => ?_) AllReadyH.nil
    go_simp
    go_wp2_with (first|(go_at_call 328;refine (aR _ _ _ _).mono ?_;rw [HIN.out];rintro en w2 ⟨rfl,rfl⟩))
    refine hK.out _ _ (⟨HCX.out _ HBw1.out,HPX.out _ HBw1.out⟩) (fun hHeld => ?_)
    clear hK K
    refine tkY 6 24 ?v43 rfl ?hy43 (by assumption) ?rest43
    case hy43=>intro w hSw;(try dsimp only at hSw);go_simp <;> with_reducible rfl
    simp only [Act.put,sTI,sT0,sT1]
    refine tkY 7 25 ?v44 rfl ?hy44 (by assumption) ?rest44
    case hy44=>intro w hSw;(try dsimp only at hSw);go_simp <;> with_reducible rfl
    simp only [Act.put,sTI,sT0,sT1]
    refine tkY 8 26 ?v45 rfl ?hy45 (by assumption) ?rest45
    case hy45=>intro w hSw;(try dsimp only at hSw);go_simp <;> with_reducible rfl
    simp only [Act.put,sTI,sT0,sT1]
    refine tkY 9 27 ?v46 rfl ?hy46 (by assumption) ?rest46
    case hy46=>intro w hSw;(try dsimp only at hSw);go_simp <;> with_reducible rfl
    simp only [Act.put,sTI,sT0,sT1]
    refine tkY 10 28 ?v47 rfl ?hy47 (by assumption) ?rest47
    case hy47=>intro w hSw;(try dsimp only at hSw);go_simp <;> with_reducible rfl
    simp only [Act.put,sTI,sT0,sT1]
    refine tkY 11 29 ?v48 rfl ?hy48 (by assumption) ?rest48
    case hy48=>intro w hSw;(try dsimp only at hSw);go_simp <;> with_reducible rfl
    simp only [Act.put,sTI,sT0,sT1]
    refine tkY 12 30 ?v49 rfl ?hy49 (by assumption) ?rest49
    case hy49=>intro w hSw;(try dsimp only at hSw);go_simp <;> with_reducible rfl
    simp only [Act.put,sTI,sT0,sT1]
    refine tkY 14 32 ?v50 rfl ?hy50 (by assumption) ?rest50
    case hy50=>intro w hSw;(try dsimp only at hSw);go_simp <;> with_reducible rfl
    simp only [Act.put,sTI,sT0,sT1]
    refine tkY 15 33 ?v51 rfl ?hy51 (by assumption) ?rest51
    case hy51=>intro w hSw;(try dsimp only at hSw);go_simp <;> with_reducible rfl
    simp only [Act.put,sTI,sT0,sT1]
    refine tkY 16 34 ?v52 rfl ?hy52 (by assumption) ?rest52
    case hy52=>intro w hSw;(try dsimp only at hSw);go_simp <;> with_reducible rfl
    simp only [Act.put,sTI,sT0,sT1]
    refine tkY 17 35 ?v53 rfl ?hy53 (by assumption) ?rest53
    case hy53=>intro w hSw;(try dsimp only at hSw);go_simp <;> with_reducible rfl
    simp only [Act.put,sTI,sT0,sT1]
    refine tkY 18 36 ?v54 rfl ?hy54 (by assumption) ?rest54
    case hy54=>intro w hSw;(try dsimp only at hSw);go_simp <;> with_reducible rfl
    simp only [Act.put,sTI,sT0,sT1]
    refine tkY 19 37 ?v55 rfl ?hy55 (by assumption) ?rest55
    case hy55=>intro w hSw;(try dsimp only at hSw);go_simp <;> with_reducible rfl
    simp only [Act.put,sTI,sT0,sT1]
    refine wpAnyH_ready (rs:=[13]) (by kernel_rfl) (by simp) ?_
    refine AllReadyH.cons rfl (fun K hK => ?_) AllReadyH.nil
    go_simp
    go_wp2_with fail
    refine (HC.out _).mono ?_
    rintro en w3 ⟨rfl,hbw3⟩
    have HBw3:=aa (HBw1.out.trans (hbw3.mono (by have h:=HBw1.out.size;simp at h;omega)))
    clear hbw3
    refine hK.out _ _ (⟨HCX.out _ HBw3.out,HPX.out _ HBw3.out⟩) (fun hHeld => ?_)
    clear hK K
    refine wpAnyH_ready (rs:=[20]) (by kernel_rfl) (by simp) ?_
    refine AllReadyH.cons rfl (fun K hK => ?_) AllReadyH.nil
    go_simp
    go_wp2_with fail
    refine (HCP.out _).mono ?_
    rintro en w4 ⟨rfl,hbw4⟩
    have HBw4:=aa (HBw3.out.trans (hbw4.mono (by have h:=HBw3.out.size;simp at h;omega)))
    clear hbw4
    refine hK.out _ _ (⟨HCX.out _ HBw4.out,HPX.out _ HBw4.out⟩) (fun hHeld => ?_)
    clear hK K
    refine tkY 21 39 ?v56 rfl ?hy56 (by assumption) ?rest56
    case hy56=>intro w hSw;(try dsimp only at hSw);go_simp <;> with_reducible rfl
    simp only [Act.put,sTI,sT0,sT1]
    refine tkY 22 40 ?v57 rfl ?hy57 (by assumption) ?rest57
    case hy57=>intro w hSw;(try dsimp only at hSw);go_simp <;> with_reducible rfl
    simp only [Act.put,sTI,sT0,sT1]
    refine tkY 23 41 ?v58 rfl ?hy58 (by assumption) ?rest58
    case hy58=>intro w hSw;(try dsimp only at hSw);go_simp <;> with_reducible rfl
    simp only [Act.put,sTI,sT0,sT1]
    refine wpAnyH_done (by kernel_rfl) ?_ _
    go_wp2_with fail
    go_roundw
    case rel=>exact ⟨k+1+1,by omega,by go_num,HJ2,HFIN.out _ HBw4.out⟩
    case measure=>simp [intOf];omega


theorem mH (fn:Nat) (lo hi:Int) (s:Sl (MrkM)) (B:Nat) (w:World) (hs:gb w B s) (hB:B<=w.heap.size)
  (he:∀args w,(callFunc fn args).run Tryz.prog w = .ok (.enter fn args) w) (hf:∀(x:MrkM) wr,x∈s.l->Calls Tryz.prog fn #[mrkV x] wr fun e w'=>e = .returned (.int .u64 x.1)/\Below wr.heap.size wr w') :
  Calls Tryz.prog 300 #[s.v, .int .u64 lo, .int .u64 hi, .func (.func fn) #[] #[]] w fun e w'=>e = .returned (.bool (risB (s.l.map (fun x=>x.1)) lo hi))/\Below B w w':=by
 obtain ⟨A,c,l⟩:=s
 obtain ⟨h1,h2,h3,h4⟩:=hs
 obtain ⟨n,hn⟩:∃n,l.length=n:=⟨_,rfl⟩
 have HS:=aa h3
 have HF:=aa hf
 have HN:=aa hn
 simp only [Sl.v,hn] at h1 h2 ⊢
 have hnm:n<=9223372036854775807:=by unfold maxLen at h2;omega
 clear h3 hf hn h4 h1 h2
 go_enter Tryz.func300,Tryz.ntmps300
 go_wp2
 go_loopw [13] (fun i wr=>∃k:Nat,k<=n/\i = .int .i64 k/\Hid (∀j,j<k->risX (l.map (fun x=>x.1)) lo hi j=false)/\Below B w wr) (fun i _=>n - (intOf i).toNat)
 case atStart=>exact ⟨0,Nat.zero_le _,rfl,(fun j hj=>absurd hj (by omega)),Below.refl _ _⟩
 case round =>
  obtain ⟨k,hk,rfl,HJ,hb⟩:=hrel
  by_cases hlt:k<n
  case neg =>
   obtain rfl:k=n:=by omega
   have HP:=aa (show risB (l.map (fun x=>x.1)) lo hi=true from mE (by rw [List.length_map,HN.out]) HJ.out)
   go_wp2
   go_ret
   exact ⟨ae HP.out.symm,hb⟩
  obtain ⟨x,hx⟩:∃x,l[k]?=some x:=⟨_,List.getElem?_eq_getElem (by rw [HN.out];exact hlt)⟩
  have hs1:=HS.out.below hb
  have hxm:x∈l:=List.mem_of_getElem? hx
  have hzw:w.heap.size<=wr.heap.size:=hb.size
  obtain ⟨tb,ot,hAe,hab,e0,e1,e2⟩:=hs1.mrk hx
  have hwz:tb<wr.heap.size:=by omega
  subst hAe
  have hat:=gQ (f:=(fun x=>x.1)) hx
  have HC:=aa (fun u=>HF.out x u hxm)
  obtain ⟨cl,b,c'⟩:=x
  simp only at e0 e1 e2 hat HC
  have HRX:=aa (fk (lo:=lo) (hi:=hi) hat)
  have HAT:=aa hat
  have HBW:=aa (show Below B w (wr.alloc (.cells #[.int .u8 cl, .int .u64 b, .int .u64 c'] 110)) from hb.alloc (by omega) _)
  have HB0:=aa (show Below (wr.heap.size+1) (wr.alloc (.cells #[.int .u8 cl, .int .u64 b, .int .u64 c'] 110)) (wr.alloc (.cells #[.int .u8 cl, .int .u64 b, .int .u64 c'] 110)).drew from (Below.refl _ _).drew)
  have HCX:=aa (fun (u:World) (hu:Below (wr.heap.size+1) (wr.alloc (.cells #[.int .u8 cl, .int .u64 b, .int .u64 c'] 110)) u)=>show ∀i:Nat,u.cell? ⟨wr.heap.size,i,none⟩=(#[.int .u8 cl, .int .u64 b, .int .u64 c'] : Array Value)[i]? from (BoxAt.below (BoxAt.new wr #[.int .u8 cl, .int .u64 b, .int .u64 c'] 110) (hu.mono (by simp))).cell)
  have HFIN:=aa (fun (u:World) (hu:Below (wr.heap.size+1) (wr.alloc (.cells #[.int .u8 cl, .int .u64 b, .int .u64 c'] 110)) u)=>show Below B w u from HBW.out.trans (hu.mono (by omega)))
  have HHS:=aa hs1
  have HHX:=aa hx
  clear hat hs1 hx hxm hb
  cases hin:inB cl lo hi with
  | false =>
   have HP:=aa (show risB (l.map (fun x=>x.1)) lo hi=false from iC (by rw [List.length_map,HN.out]) hlt (by rw [HRX.out,hin];rfl))
   have HIN:=aa hin
   clear hin
   go_upto_region 4 with fail
   refine wp_region_held_drew (S:=(fun w'=>(∀i:Nat,w'.cell? ⟨wr.heap.size,i,none⟩=(#[.int .u8 cl, .int .u64 b, .int .u64 c'] : Array Value)[i]?))) (by kernel_rfl) (HCX.out _ HB0.out) (fun hHeld => ?_)
   refine tkY 0 18 ?v1 rfl ?hy1 (by assumption) ?rest1
   case hy1=>intro w hSw;(try dsimp only at hSw);go_simp <;> with_reducible rfl
   simp only [Act.put,sTI,sT0,sT1]
   refine tkY 1 19 ?v2 rfl ?hy2 (by assumption) ?rest2
   case hy2=>intro w hSw;(try dsimp only at hSw);go_simp <;> with_reducible rfl
   simp only [Act.put,sTI,sT0,sT1]
   refine tkY 3 21 ?v3 rfl ?hy3 (by assumption) ?rest3
   case hy3=>intro w hSw;(try dsimp only at hSw);go_simp <;> with_reducible rfl
   simp only [Act.put,sTI,sT0,sT1]
   refine tkY 4 22 ?v4 rfl ?hy4 (by assumption) ?rest4
   case hy4=>intro w hSw;(try dsimp only at hSw);go_simp <;> with_reducible rfl
   simp only [Act.put,sTI,sT0,sT1]
   refine wpAnyH_ready (rs:=[2]) (by kernel_rfl) (by simp) ?_
   refine AllReadyH.cons rfl (fun K hK => ?_) AllReadyH.nil
   go_simp
   go_wp2_with fail
   refine (HC.out _).mono ?_
   rintro en w1 ⟨rfl,hbw1⟩
   have HBw1:=aa (HB0.out.trans (hbw1.mono (by simp)))
   clear hbw1
   refine hK.out _ _ (HCX.out _ HBw1.out) (fun hHeld => ?_)
   clear hK K
   refine wpAnyH_ready (rs:=[5]) (by kernel_rfl) (by simp) ?_
   refine AllReadyH.cons rfl (fun K hK => ?_) AllReadyH.nil
   go_simp
   go_wp2_with (first|(go_at_call 328;refine (aR _ _ _ _).mono ?_;rw [HIN.out];rintro en w2 ⟨rfl,rfl⟩))
   refine hK.out _ _ (HCX.out _ HBw1.out) (fun hHeld => ?_)
   clear hK K
   refine tkY 6 24 ?v5 rfl ?hy5 (by assumption) ?rest5
   case hy5=>intro w hSw;(try dsimp only at hSw);go_simp <;> with_reducible rfl
   simp only [Act.put,sTI,sT0,sT1]
   refine tkY 7 25 ?v6 rfl ?hy6 (by assumption) ?rest6
   case hy6=>intro w hSw;(try dsimp only at hSw);go_simp <;> with_reducible rfl
   simp only [Act.put,sTI,sT0,sT1]
   refine tkU 8 26 rfl (by assumption) ?_
   simp only [Act.put,sTI,sT0,sT1]
   refine tkU 9 27 rfl (by assumption) ?_
   simp only [Act.put,sTI,sT0,sT1]
   refine tkU 10 28 rfl (by assumption) ?_
   simp only [Act.put,sTI,sT0,sT1]
   refine tkU 11 29 rfl (by assumption) ?_
   simp only [Act.put,sTI,sT0,sT1]
   refine tkU 12 30 rfl (by assumption) ?_
   simp only [Act.put,sTI,sT0,sT1]
   refine tkU 13 31 rfl (by assumption) ?_
   simp only [Act.put,sTI,sT0,sT1]
   refine tkU 14 32 rfl (by assumption) ?_
   simp only [Act.put,sTI,sT0,sT1]
   refine tkU 15 33 rfl (by assumption) ?_
   simp only [Act.put,sTI,sT0,sT1]
   refine tkU 16 34 rfl (by assumption) ?_
   simp only [Act.put,sTI,sT0,sT1]
   refine tkU 17 35 rfl (by assumption) ?_
   simp only [Act.put,sTI,sT0,sT1]
   refine tkU 18 36 rfl (by assumption) ?_
   simp only [Act.put,sTI,sT0,sT1]
   refine tkU 19 37 rfl (by assumption) ?_
   simp only [Act.put,sTI,sT0,sT1]
   refine tkU 20 38 rfl (by assumption) ?_
   simp only [Act.put,sTI,sT0,sT1]
   refine tkU 21 39 rfl (by assumption) ?_
   simp only [Act.put,sTI,sT0,sT1]
   refine tkU 22 40 rfl (by assumption) ?_
   simp only [Act.put,sTI,sT0,sT1]
   refine tkY 23 41 ?v7 rfl ?hy7 (by assumption) ?rest7
   case hy7=>intro w hSw;(try dsimp only at hSw);go_simp <;> with_reducible rfl
   simp only [Act.put,sTI,sT0,sT1]
   refine wpAnyH_done (by kernel_rfl) ?_ _
   go_wp2_with fail
   go_ret
   exact ⟨ae HP.out.symm,HFIN.out _ HBw1.out⟩
  | true =>
  rcases k with _|k
  ·simp only [Nat.zero_mul,Nat.add_zero] at e0 e1 e2
   have HJ2:=aa (show ∀j,j<0+1->risX (l.map (fun x=>x.1)) lo hi j=false from fun j hj=>by
    obtain rfl:j=0:=by omega
    rw [HRX.out,hin];rfl)
   have HIN:=aa hin
   clear hin
   go_upto_region 4 with fail
   refine wp_region_held_drew (S:=(fun w'=>(∀i:Nat,w'.cell? ⟨wr.heap.size,i,none⟩=(#[.int .u8 cl, .int .u64 b, .int .u64 c'] : Array Value)[i]?))) (by kernel_rfl) (HCX.out _ HB0.out) (fun hHeld => ?_)
   refine tkY 0 18 ?v8 rfl ?hy8 (by assumption) ?rest8
   case hy8=>intro w hSw;(try dsimp only at hSw);go_simp <;> with_reducible rfl
   simp only [Act.put,sTI,sT0,sT1]
   refine tkY 1 19 ?v9 rfl ?hy9 (by assumption) ?rest9
   case hy9=>intro w hSw;(try dsimp only at hSw);go_simp <;> with_reducible rfl
   simp only [Act.put,sTI,sT0,sT1]
   refine tkY 3 21 ?v10 rfl ?hy10 (by assumption) ?rest10
   case hy10=>intro w hSw;(try dsimp only at hSw);go_simp <;> with_reducible rfl
   simp only [Act.put,sTI,sT0,sT1]
   refine tkY 4 22 ?v11 rfl ?hy11 (by assumption) ?rest11
   case hy11=>intro w hSw;(try dsimp only at hSw);go_simp <;> with_reducible rfl
   simp only [Act.put,sTI,sT0,sT1]
   refine wpAnyH_ready (rs:=[2]) (by kernel_rfl) (by simp) ?_
   refine AllReadyH.cons rfl (fun K hK => ?_) AllReadyH.nil
   go_simp
   go_wp2_with fail
   refine (HC.out _).mono ?_
   rintro en w1 ⟨rfl,hbw1⟩
   have HBw1:=aa (HB0.out.trans (hbw1.mono (by simp)))
   clear hbw1
   refine hK.out _ _ (HCX.out _ HBw1.out) (fun hHeld => ?_)
   clear hK K
   refine wpAnyH_ready (rs:=[5]) (by kernel_rfl) (by simp) ?_
   refine AllReadyH.cons rfl (fun K hK => ?_) AllReadyH.nil
   go_simp
   go_wp2_with (first|(go_at_call 328;refine (aR _ _ _ _).mono ?_;rw [HIN.out];rintro en w2 ⟨rfl,rfl⟩))
   refine hK.out _ _ (HCX.out _ HBw1.out) (fun hHeld => ?_)
   clear hK K
   refine tkY 6 24 ?v12 rfl ?hy12 (by assumption) ?rest12
   case hy12=>intro w hSw;(try dsimp only at hSw);go_simp <;> with_reducible rfl
   simp only [Act.put,sTI,sT0,sT1]
   refine tkY 7 25 ?v13 rfl ?hy13 (by assumption) ?rest13
   case hy13=>intro w hSw;(try dsimp only at hSw);go_simp <;> with_reducible rfl
   simp only [Act.put,sTI,sT0,sT1]
   refine tkY 8 26 ?v14 rfl ?hy14 (by assumption) ?rest14
   case hy14=>intro w hSw;(try dsimp only at hSw);go_simp <;> with_reducible rfl
   simp only [Act.put,sTI,sT0,sT1]
   refine tkY 9 27 ?v15 rfl ?hy15 (by assumption) ?rest15
   case hy15=>intro w hSw;(try dsimp only at hSw);go_simp <;> with_reducible rfl
   simp only [Act.put,sTI,sT0,sT1]
   refine tkY 10 28 ?v16 rfl ?hy16 (by assumption) ?rest16
   case hy16=>intro w hSw;(try dsimp only at hSw);go_simp <;> with_reducible rfl
   simp only [Act.put,sTI,sT0,sT1]
   refine tkU 11 29 rfl (by assumption) ?_
   simp only [Act.put,sTI,sT0,sT1]
   refine tkU 12 30 rfl (by assumption) ?_
   simp only [Act.put,sTI,sT0,sT1]
   refine tkU 13 31 rfl (by assumption) ?_
   simp only [Act.put,sTI,sT0,sT1]
   refine tkU 14 32 rfl (by assumption) ?_
   simp only [Act.put,sTI,sT0,sT1]
   refine tkU 15 33 rfl (by assumption) ?_
   simp only [Act.put,sTI,sT0,sT1]
   refine tkU 16 34 rfl (by assumption) ?_
   simp only [Act.put,sTI,sT0,sT1]
   refine tkU 17 35 rfl (by assumption) ?_
   simp only [Act.put,sTI,sT0,sT1]
   refine tkU 18 36 rfl (by assumption) ?_
   simp only [Act.put,sTI,sT0,sT1]
   refine tkU 19 37 rfl (by assumption) ?_
   simp only [Act.put,sTI,sT0,sT1]
   refine tkU 20 38 rfl (by assumption) ?_
   simp only [Act.put,sTI,sT0,sT1]
   refine tkU 21 39 rfl (by assumption) ?_
   simp only [Act.put,sTI,sT0,sT1]
   refine tkY 22 40 ?v17 rfl ?hy17 (by assumption) ?rest17
   case hy17=>intro w hSw;(try dsimp only at hSw);go_simp <;> with_reducible rfl
   simp only [Act.put,sTI,sT0,sT1]
   refine tkY 23 41 ?v18 rfl ?hy18 (by assumption) ?rest18
   case hy18=>intro w hSw;(try dsimp only at hSw);go_simp <;> with_reducible rfl
   simp only [Act.put,sTI,sT0,sT1]
   refine wpAnyH_done (by kernel_rfl) ?_ _
   go_wp2_with fail
   go_roundw
   case rel=>exact ⟨1,by omega,by go_num,HJ2,HFIN.out _ HBw1.out⟩
   case measure=>simp [intOf];omega
  ·obtain ⟨y,hy⟩:∃y,l[k]?=some y:=⟨_,List.getElem?_eq_getElem (by rw [HN.out];omega)⟩
   have hym:y∈l:=List.mem_of_getElem? hy
   have hpt:=gQ (f:=(fun x=>x.1)) hy
   obtain ⟨tb2,ot2,hAe2,hab2,g0,g1,g2⟩:=HHS.out.mrk hy
   injection hAe2 with hAe2
   injection hAe2 with ht1 ht2
   subst ht1 ht2
   have HCP:=aa (fun u=>HF.out y u hym)
   obtain ⟨pcl,pb,pc⟩:=y
   simp only at g0 g1 g2 hpt HCP
   have hgd:(l.map (fun x=>x.1)).getD (k+1 - 1) 0=pcl:=by rw [Nat.add_sub_cancel,List.getD_eq_getElem?_getD,hpt];rfl
   have HPX:=aa (fun (u:World) (hu:Below (wr.heap.size+1) (wr.alloc (.cells #[.int .u8 cl, .int .u64 b, .int .u64 c'] 110)) u)=>show u.cell? ⟨tb,ot+k * 3,none⟩=some (.int .u8 pcl)/\u.cell? ⟨tb,ot+k * 3+1,none⟩=some (.int .u64 pb)/\u.cell? ⟨tb,ot+k * 3+2,none⟩=some (.int .u64 pc) from ⟨(((((Below.refl _ _).alloc (Nat.le_refl _) (.cells #[.int .u8 cl, .int .u64 b, .int .u64 c'] 110)).trans (hu.mono (Nat.le_succ _))).cell (p:=⟨tb,ot+k * 3,none⟩) hwz).trans g0),(((((Below.refl _ _).alloc (Nat.le_refl _) (.cells #[.int .u8 cl, .int .u64 b, .int .u64 c'] 110)).trans (hu.mono (Nat.le_succ _))).cell (p:=⟨tb,ot+k * 3+1,none⟩) hwz).trans g1),(((((Below.refl _ _).alloc (Nat.le_refl _) (.cells #[.int .u8 cl, .int .u64 b, .int .u64 c'] 110)).trans (hu.mono (Nat.le_succ _))).cell (p:=⟨tb,ot+k * 3+2,none⟩) hwz).trans g2)⟩)
   have i1:IntKind.i64.wrap (k:Int)=k:=IntWalk.i64_in _ (by omega)
   have i5:(k:Int)<(n:Int):=by omega
   have i2:(0:Int)<=(k:Int)+1:=by omega
   have i3:(k:Int)+1<(n:Int):=by omega
   have i4:k<n:=by omega
   clear hpt hy hym g0 g1 g2
   by_cases hle:cl<=pcl
   ·have HP:=aa (show risB (l.map (fun x=>x.1)) lo hi=false from iC (by rw [List.length_map,HN.out]) hlt (by rw [HRX.out,hin,hgd];simp [hle]))
    have HIN:=aa hin
    have hd:=decide_eq_true hle
    clear hin hgd hle
    go_upto_region 4 with fail
    refine wp_region_held_drew (S:=(fun w'=>(∀i:Nat,w'.cell? ⟨wr.heap.size,i,none⟩=(#[.int .u8 cl, .int .u64 b, .int .u64 c'] : Array Value)[i]?)/\w'.cell? ⟨tb,ot+k * 3,none⟩=some (.int .u8 pcl)/\w'.cell? ⟨tb,ot+k * 3+1,none⟩=some (.int .u64 pb)/\w'.cell? ⟨tb,ot+k * 3+2,none⟩=some (.int .u64 pc))) (by kernel_rfl) (⟨HCX.out _ HB0.out,HPX.out _ HB0.out⟩) (fun hHeld => ?_)
    refine tkY 0 18 ?v19 rfl ?hy19 (by assumption) ?rest19
    case hy19=>intro w hSw;(try dsimp only at hSw);go_simp <;> with_reducible rfl
    simp only [Act.put,sTI,sT0,sT1]
    refine tkY 1 19 ?v20 rfl ?hy20 (by assumption) ?rest20
    case hy20=>intro w hSw;(try dsimp only at hSw);go_simp <;> with_reducible rfl
    simp only [Act.put,sTI,sT0,sT1]
    refine tkY 3 21 ?v21 rfl ?hy21 (by assumption) ?rest21
    case hy21=>intro w hSw;(try dsimp only at hSw);go_simp <;> with_reducible rfl
    simp only [Act.put,sTI,sT0,sT1]
    refine tkY 4 22 ?v22 rfl ?hy22 (by assumption) ?rest22
    case hy22=>intro w hSw;(try dsimp only at hSw);go_simp <;> with_reducible rfl
    simp only [Act.put,sTI,sT0,sT1]
    refine wpAnyH_ready (rs:=[2]) (by kernel_rfl) (by simp) ?_
    refine AllReadyH.cons rfl (fun K hK => ?_) AllReadyH.nil
    go_simp
    go_wp2_with fail
    refine (HC.out _).mono ?_
    rintro en w1 ⟨rfl,hbw1⟩
    have HBw1:=aa (HB0.out.trans (hbw1.mono (by simp)))
    clear hbw1
    refine hK.out _ _ (⟨HCX.out _ HBw1.out,HPX.out _ HBw1.out⟩) (fun hHeld => ?_)
    clear hK K
    refine wpAnyH_ready (rs:=[5]) (by kernel_rfl) (by simp) ?_
    refine AllReadyH.cons rfl (fun K hK => ?_) AllReadyH.nil
    go_simp
    go_wp2_with (first|(go_at_call 328;refine (aR _ _ _ _).mono ?_;rw [HIN.out];rintro en w2 ⟨rfl,rfl⟩))
    refine hK.out _ _ (⟨HCX.out _ HBw1.out,HPX.out _ HBw1.out⟩) (fun hHeld => ?_)
    clear hK K
    refine tkY 6 24 ?v23 rfl ?hy23 (by assumption) ?rest23
    case hy23=>intro w hSw;(try dsimp only at hSw);go_simp <;> with_reducible rfl
    simp only [Act.put,sTI,sT0,sT1]
    refine tkY 7 25 ?v24 rfl ?hy24 (by assumption) ?rest24
    case hy24=>intro w hSw;(try dsimp only at hSw);go_simp <;> with_reducible rfl
    simp only [Act.put,sTI,sT0,sT1]
    refine tkY 8 26 ?v25 rfl ?hy25 (by assumption) ?rest25
    case hy25=>intro w hSw;(try dsimp only at hSw);go_simp <;> with_reducible rfl
    simp only [Act.put,sTI,sT0,sT1]
    refine tkY 9 27 ?v26 rfl ?hy26 (by assumption) ?rest26
    case hy26=>intro w hSw;(try dsimp only at hSw);go_simp <;> with_reducible rfl
    simp only [Act.put,sTI,sT0,sT1]
    refine tkY 10 28 ?v27 rfl ?hy27 (by assumption) ?rest27
    case hy27=>intro w hSw;(try dsimp only at hSw);go_simp <;> with_reducible rfl
    simp only [Act.put,sTI,sT0,sT1]
    refine tkY 11 29 ?v28 rfl ?hy28 (by assumption) ?rest28
    case hy28=>intro w hSw;(try dsimp only at hSw);go_simp <;> with_reducible rfl
    simp only [Act.put,sTI,sT0,sT1]
    refine tkY 12 30 ?v29 rfl ?hy29 (by assumption) ?rest29
    case hy29=>intro w hSw;(try dsimp only at hSw);go_simp <;> with_reducible rfl
    simp only [Act.put,sTI,sT0,sT1]
    refine tkY 14 32 ?v30 rfl ?hy30 (by assumption) ?rest30
    case hy30=>intro w hSw;(try dsimp only at hSw);go_simp <;> with_reducible rfl
    simp only [Act.put,sTI,sT0,sT1]
    refine tkY 15 33 ?v31 rfl ?hy31 (by assumption) ?rest31
    case hy31=>intro w hSw;(try dsimp only at hSw);go_simp <;> with_reducible rfl
    simp only [Act.put,sTI,sT0,sT1]
    refine tkY 16 34 ?v32 rfl ?hy32 (by assumption) ?rest32
    case hy32=>intro w hSw;(try dsimp only at hSw);go_simp <;> with_reducible rfl
    simp only [Act.put,sTI,sT0,sT1]
    refine tkY 17 35 ?v33 rfl ?hy33 (by assumption) ?rest33
    case hy33=>intro w hSw;(try dsimp only at hSw);go_simp <;> with_reducible rfl
    simp only [Act.put,sTI,sT0,sT1]
    refine tkY 18 36 ?v34 rfl ?hy34 (by assumption) ?rest34
    case hy34=>intro w hSw;(try dsimp only at hSw);go_simp <;> with_reducible rfl
    simp only [Act.put,sTI,sT0,sT1]
    refine tkY 19 37 ?v35 rfl ?hy35 (by assumption) ?rest35
    case hy35=>intro w hSw;(try dsimp only at hSw);go_simp <;> with_reducible rfl
    simp only [Act.put,sTI,sT0,sT1]
    refine wpAnyH_ready (rs:=[13]) (by kernel_rfl) (by simp) ?_
    refine AllReadyH.cons rfl (fun K hK => ?_) AllReadyH.nil
    go_simp
    go_wp2_with fail
    refine (HC.out _).mono ?_
    rintro en w3 ⟨rfl,hbw3⟩
    have HBw3:=aa (HBw1.out.trans (hbw3.mono (by have h:=HBw1.out.size;simp at h;omega)))
    clear hbw3
    refine hK.out _ _ (⟨HCX.out _ HBw3.out,HPX.out _ HBw3.out⟩) (fun hHeld => ?_)
    clear hK K
    refine wpAnyH_ready (rs:=[20]) (by kernel_rfl) (by simp) ?_
    refine AllReadyH.cons rfl (fun K hK => ?_) AllReadyH.nil
    go_simp
    go_wp2_with fail
    refine (HCP.out _).mono ?_
    rintro en w4 ⟨rfl,hbw4⟩
    have HBw4:=aa (HBw3.out.trans (hbw4.mono (by have h:=HBw3.out.size;simp at h;omega)))
    clear hbw4
    refine hK.out _ _ (⟨HCX.out _ HBw4.out,HPX.out _ HBw4.out⟩) (fun hHeld => ?_)
    clear hK K
    refine tkY 21 39 ?v36 rfl ?hy36 (by assumption) ?rest36
    case hy36=>intro w hSw;(try dsimp only at hSw);go_simp <;> with_reducible rfl
    simp only [Act.put,sTI,sT0,sT1]
    refine tkY 22 40 ?v37 rfl ?hy37 (by assumption) ?rest37
    case hy37=>intro w hSw;(try dsimp only at hSw);go_simp <;> with_reducible rfl
    simp only [Act.put,sTI,sT0,sT1]
    refine tkY 23 41 ?v38 rfl ?hy38 (by assumption) ?rest38
    case hy38=>intro w hSw;(try dsimp only at hSw);go_simp <;> with_reducible rfl
    simp only [Act.put,sTI,sT0,sT1]
    refine wpAnyH_done (by kernel_rfl) ?_ _
    go_wp2_with fail
    go_ret
    exact ⟨ae HP.out.symm,HFIN.out _ HBw4.out⟩
   ·have HJ2:=aa (show ∀j,j<k+1+1->risX (l.map (fun x=>x.1)) lo hi j=false from fun j hj=>by
     by_cases h:j=k+1
     ·rw [h,HRX.out,hin,hgd];simp [hle]
     ·exact HJ.out j (by omega))
    have HIN:=aa hin
    have hd:=decide_eq_false hle
    clear hin hgd hle
    go_upto_region 4 with fail
    refine wp_region_held_drew (S:=(fun w'=>(∀i:Nat,w'.cell? ⟨wr.heap.size,i,none⟩=(#[.int .u8 cl, .int .u64 b, .int .u64 c'] : Array Value)[i]?)/\w'.cell? ⟨tb,ot+k * 3,none⟩=some (.int .u8 pcl)/\w'.cell? ⟨tb,ot+k * 3+1,none⟩=some (.int .u64 pb)/\w'.cell? ⟨tb,ot+k * 3+2,none⟩=some (.int .u64 pc))) (by kernel_rfl) (⟨HCX.out _ HB0.out,HPX.out _ HB0.out⟩) (fun hHeld => ?_)
    refine tkY 0 18 ?v39 rfl ?hy39 (by assumption) ?rest39
    case hy39=>intro w hSw;(try dsimp only at hSw);go_simp <;> with_reducible rfl
    simp only [Act.put,sTI,sT0,sT1]
    refine tkY 1 19 ?v40 rfl ?hy40 (by assumption) ?rest40
    case hy40=>intro w hSw;(try dsimp only at hSw);go_simp <;> with_reducible rfl
    simp only [Act.put,sTI,sT0,sT1]
    refine tkY 3 21 ?v41 rfl ?hy41 (by assumption) ?rest41
    case hy41=>intro w hSw;(try dsimp only at hSw);go_simp <;> with_reducible rfl
    simp only [Act.put,sTI,sT0,sT1]
    refine tkY 4 22 ?v42 rfl ?hy42 (by assumption) ?rest42
    case hy42=>intro w hSw;(try dsimp only at hSw);go_simp <;> with_reducible rfl
    simp only [Act.put,sTI,sT0,sT1]
    refine wpAnyH_ready (rs:=[2]) (by kernel_rfl) (by simp) ?_
    refine AllReadyH.cons rfl (fun K hK => ?_) AllReadyH.nil
    go_simp
    go_wp2_with fail
    refine (HC.out _).mono ?_
    rintro en w1 ⟨rfl,hbw1⟩
    have HBw1:=aa (HB0.out.trans (hbw1.mono (by simp)))
    clear hbw1
    refine hK.out _ _ (⟨HCX.out _ HBw1.out,HPX.out _ HBw1.out⟩) (fun hHeld => ?_)
    clear hK K
    refine wpAnyH_ready (rs:=[5]) (by kernel_rfl) (by simp) ?_
    refine AllReadyH.cons rfl (fun K hK => ?_) AllReadyH.nil
    go_simp
    go_wp2_with (first|(go_at_call 328;refine (aR _ _ _ _).mono ?_;rw [HIN.out];rintro en w2 ⟨rfl,rfl⟩))
    refine hK.out _ _ (⟨HCX.out _ HBw1.out,HPX.out _ HBw1.out⟩) (fun hHeld => ?_)
    clear hK K
    refine tkY 6 24 ?v43 rfl ?hy43 (by assumption) ?rest43
    case hy43=>intro w hSw;(try dsimp only at hSw);go_simp <;> with_reducible rfl
    simp only [Act.put,sTI,sT0,sT1]
    refine tkY 7 25 ?v44 rfl ?hy44 (by assumption) ?rest44
    case hy44=>intro w hSw;(try dsimp only at hSw);go_simp <;> with_reducible rfl
    simp only [Act.put,sTI,sT0,sT1]
    refine tkY 8 26 ?v45 rfl ?hy45 (by assumption) ?rest45
    case hy45=>intro w hSw;(try dsimp only at hSw);go_simp <;> with_reducible rfl
    simp only [Act.put,sTI,sT0,sT1]
    refine tkY 9 27 ?v46 rfl ?hy46 (by assumption) ?rest46
    case hy46=>intro w hSw;(try dsimp only at hSw);go_simp <;> with_reducible rfl
    simp only [Act.put,sTI,sT0,sT1]
    refine tkY 10 28 ?v47 rfl ?hy47 (by assumption) ?rest47
    case hy47=>intro w hSw;(try dsimp only at hSw);go_simp <;> with_reducible rfl
    simp only [Act.put,sTI,sT0,sT1]
    refine tkY 11 29 ?v48 rfl ?hy48 (by assumption) ?rest48
    case hy48=>intro w hSw;(try dsimp only at hSw);go_simp <;> with_reducible rfl
    simp only [Act.put,sTI,sT0,sT1]
    refine tkY 12 30 ?v49 rfl ?hy49 (by assumption) ?rest49
    case hy49=>intro w hSw;(try dsimp only at hSw);go_simp <;> with_reducible rfl
    simp only [Act.put,sTI,sT0,sT1]
    refine tkY 14 32 ?v50 rfl ?hy50 (by assumption) ?rest50
    case hy50=>intro w hSw;(try dsimp only at hSw);go_simp <;> with_reducible rfl
    simp only [Act.put,sTI,sT0,sT1]
    refine tkY 15 33 ?v51 rfl ?hy51 (by assumption) ?rest51
    case hy51=>intro w hSw;(try dsimp only at hSw);go_simp <;> with_reducible rfl
    simp only [Act.put,sTI,sT0,sT1]
    refine tkY 16 34 ?v52 rfl ?hy52 (by assumption) ?rest52
    case hy52=>intro w hSw;(try dsimp only at hSw);go_simp <;> with_reducible rfl
    simp only [Act.put,sTI,sT0,sT1]
    refine tkY 17 35 ?v53 rfl ?hy53 (by assumption) ?rest53
    case hy53=>intro w hSw;(try dsimp only at hSw);go_simp <;> with_reducible rfl
    simp only [Act.put,sTI,sT0,sT1]
    refine tkY 18 36 ?v54 rfl ?hy54 (by assumption) ?rest54
    case hy54=>intro w hSw;(try dsimp only at hSw);go_simp <;> with_reducible rfl
    simp only [Act.put,sTI,sT0,sT1]
    refine tkY 19 37 ?v55 rfl ?hy55 (by assumption) ?rest55
    case hy55=>intro w hSw;(try dsimp only at hSw);go_simp <;> with_reducible rfl
    simp only [Act.put,sTI,sT0,sT1]
    refine wpAnyH_ready (rs:=[13]) (by kernel_rfl) (by simp) ?_
    refine AllReadyH.cons rfl (fun K hK => ?_) AllReadyH.nil
    go_simp
    go_wp2_with fail
    refine (HC.out _).mono ?_
    rintro en w3 ⟨rfl,hbw3⟩
    have HBw3:=aa (HBw1.out.trans (hbw3.mono (by have h:=HBw1.out.size;simp at h;omega)))
    clear hbw3
    refine hK.out _ _ (⟨HCX.out _ HBw3.out,HPX.out _ HBw3.out⟩) (fun hHeld => ?_)
    clear hK K
    refine wpAnyH_ready (rs:=[20]) (by kernel_rfl) (by simp) ?_
    refine AllReadyH.cons rfl (fun K hK => ?_) AllReadyH.nil
    go_simp
    go_wp2_with fail
    refine (HCP.out _).mono ?_
    rintro en w4 ⟨rfl,hbw4⟩
    have HBw4:=aa (HBw3.out.trans (hbw4.mono (by have h:=HBw3.out.size;simp at h;omega)))
    clear hbw4
    refine hK.out _ _ (⟨HCX.out _ HBw4.out,HPX.out _ HBw4.out⟩) (fun hHeld => ?_)
    clear hK K
    refine tkY 21 39 ?v56 rfl ?hy56 (by assumption) ?rest56
    case hy56=>intro w hSw;(try dsimp only at hSw);go_simp <;> with_reducible rfl
    simp only [Act.put,sTI,sT0,sT1]
    refine tkY 22 40 ?v57 rfl ?hy57 (by assumption) ?rest57
    case hy57=>intro w hSw;(try dsimp only at hSw);go_simp <;> with_reducible rfl
    simp only [Act.put,sTI,sT0,sT1]
    refine tkY 23 41 ?v58 rfl ?hy58 (by assumption) ?rest58
    case hy58=>intro w hSw;(try dsimp only at hSw);go_simp <;> with_reducible rfl
    simp only [Act.put,sTI,sT0,sT1]
    refine wpAnyH_done (by kernel_rfl) ?_ _
    go_wp2_with fail
    go_roundw
    case rel=>exact ⟨k+1+1,by omega,by go_num,HJ2,HFIN.out _ HBw4.out⟩
    case measure=>simp [intOf];omega

end Go.Proofs.YtnkjdijbfnmnhaaGreat
