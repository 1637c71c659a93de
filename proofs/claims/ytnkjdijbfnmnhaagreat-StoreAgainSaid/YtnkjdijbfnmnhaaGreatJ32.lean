/-
  Texts of this claim put together: Fresh, Aside14.
-/
import Derived.Test.YtnkjdijbfnmnhaaGreatJ30
import Derived.Below
import Derived.OneCell
import Derived.Test.YtnkjdijbfnmnhaaGreatJ04

namespace Go.Proofs.YtnkjdijbfnmnhaaGreat
set_option maxRecDepth 100000
set_option maxHeartbeats 12800000
open Go.RowKit

theorem zw {w:World} {base n c size:Nat} {e:TypeId} {A:Option Addr} {xs:List Value} (h:w.ownsRow base e size (.slice A n c) n xs) (hn:0<n):∃g,A=some ⟨g,0,none⟩/\base<=g/\g<w.heap.size/\∃cur,w.heap[g]?=some (.cells cur e (0,0)):=by
 rcases h.2 with ⟨_,h0⟩ | ⟨g,cap,cur,hv,hb,hg,_⟩
 ·omega
 ·injection hv with hA
  exact ⟨g,hA,hb,(Array.getElem?_eq_some_iff.1 hg).1,cur,hg⟩

theorem ww {w:World} {b1 b2 s1 s2 n1 n2:Nat} {e1 e2:TypeId} {v1 v2:Value} {x1 x2:List Value} (h1:w.ownsRow b1 e1 s1 v1 n1 x1) (h2:w.ownsRow b2 e2 s2 v2 n2 x2) (he:e1≠e2) {k:Nat} (hk:v2.ownBlock=some k):v1.ownBlock≠some k:=by
 intro h
 rcases h1.2 with ⟨rfl,_⟩ | ⟨g,cap,cur,rfl,_,hg,_⟩
 ·simp [Value.ownBlock] at h
 ·rcases h2.2 with ⟨rfl,_⟩ | ⟨g2,cap2,cur2,rfl,_,hg2,_⟩
  ·simp [Value.ownBlock] at hk
  ·simp only [Value.ownBlock,Option.some.injEq] at h hk
   subst h hk
   rw [hg] at hg2
   injection hg2 with hg2
   injection hg2 with _ hg2
   exact he hg2
theorem kl {w:World} {b s n k:Nat} {e:TypeId} {v:Value} {x:List Value} (h:w.ownsRow b e s v n x) (hk:k<b):v.ownBlock≠some k:=fun e=>by
 have:=(h.lt k e).1
 omega
theorem BoxAt.apart {w:World} {g b i:Nat} {cs:Array Value} {t:TypeId} {u:Value} (h:BoxAt w g cs t) (hne:g≠b):BoxAt (w.setCell ⟨b,i,none⟩ u) g cs t:=(Below.heap_setCell w ⟨b,i,none⟩ u g hne).trans h
theorem zx {α:Type} {cs:α->List Value} {q:Nat} (hcs:∀x,(cs x).length=q):∀(l:List α) (k j:Nat) (x x':α) (u:Value),l[k]?=some x->j<q->cs x'=(cs x).set j u->(l.flatMap cs).set (k * q+j) u=(l.set k x').flatMap cs:=by
 intro l
 induction l with
 | nil=>intro k j x x' u h;simp at h
 | cons y l ih =>
  intro k j x x' u h hj hx
  match k,h with
  | 0,h =>
   simp at h
   subst h
   rw [Nat.zero_mul,Nat.zero_add,List.flatMap_cons,List.set_append_left _ _ (by rw [hcs];exact hj),List.set_cons_zero,List.flatMap_cons,hx]
  | k+1,h =>
   rw [List.flatMap_cons,List.set_append_right _ _ (by rw [hcs,Nat.succ_mul];omega),List.set_cons_succ,List.flatMap_cons,hcs,show (k+1) * q+j - q=k * q+j by rw [Nat.succ_mul];omega,ih k j x x' u (by simpa using h) hj hx]

def OwnVars (w:World) (lo:Nat) (s:IntS):Prop:=w.ownsRow lo 2 1 (.slice s.A s.l.length s.c) s.l.length (iv s.l)/\∀y∈s.l,I64 y

structure Fresh (w:World) (lo:Nat) (x:RegM):Prop where
 num:U8 x.ki/\U64 x.inc/\I64 x.st/\U64 x.la
 va:OwnVars w lo x.va
 dn:w.ownsRow lo 106 6 (.slice x.dn.A x.dn.l.length x.dn.c) x.dn.l.length (x.dn.l.flatMap DoneM.cs)
 di:∀d∈x.dn.l,(U8 d.cl/\U64 d.sq/\I64 d.er/\U64 d.inc/\I64 d.st)/\OwnVars w lo d.va
 ou:w.ownsRow lo 108 4 (.slice x.ou.A x.ou.l.length x.ou.c) x.ou.l.length (x.ou.l.flatMap celC)
 oi:∀c∈x.ou.l,jm c
 ma:w.ownsRow lo 110 3 (.slice x.ma.A x.ma.l.length x.ma.c) x.ma.l.length (x.ma.l.flatMap mrkC)
 mi:∀m∈x.ma.l,gP m
theorem OwnVars.ok {w:World} {lo:Nat} {s:IntS} (h:OwnVars w lo s):intsOk w w.heap.size s :=
 ⟨(bP h.1).1,(bP h.1).2,by have:=Sees.ownRow h.1;rw [<- vR] at this;exact this,h.2⟩
theorem OwnVars.below {w w':World} {lo:Nat} {s:IntS} (h:OwnVars w lo s) (hb:Below w.heap.size w w'):OwnVars w' lo s:=⟨ao h.1 hb,h.2⟩
theorem OwnVars.far {w:World} {lo b i:Nat} {s:IntS} {u:Value} (h:OwnVars w lo s) (hb:b<lo):OwnVars (w.setCell ⟨b,i,none⟩ u) lo s:=⟨ownsRow_setCell_below h.1 hb u,h.2⟩
theorem OwnVars.less {w:World} {lo lo':Nat} {s:IntS} (h:OwnVars w lo s) (hb:lo'<=lo):OwnVars w lo' s:=⟨az h.1 hb,h.2⟩
theorem OwnVars.apart {w:World} {lo i b2 s2 n2 k:Nat} {s:IntS} {u v2:Value} {e2:TypeId} {x2:List Value} (h:OwnVars w lo s) (h2:w.ownsRow b2 e2 s2 v2 n2 x2) (he:2≠e2) (hk:v2.ownBlock=some k):OwnVars (w.setCell ⟨k,i,none⟩ u) lo s :=
 ⟨ownsRow_setCell_other h.1 (ww h.1 h2 he hk) u,h.2⟩
theorem Fresh.ok {w:World} {lo:Nat} {x:RegM} (h:Fresh w lo x):RegM.ok w w.heap.size x :=
 ⟨h.num,h.va.ok,⟨(bP h.dn).1,(bP h.dn).2,Sees.ownRow h.dn,fun d hd=>⟨(h.di d hd).1,(h.di d hd).2.ok⟩⟩,
  ⟨(bP h.ou).1,(bP h.ou).2,Sees.ownRow h.ou,h.oi⟩,⟨(bP h.ma).1,(bP h.ma).2,Sees.ownRow h.ma,h.mi⟩⟩
theorem Fresh.below {w w':World} {lo:Nat} {x:RegM} (h:Fresh w lo x) (hb:Below w.heap.size w w'):Fresh w' lo x :=
 ⟨h.num,h.va.below hb,ao h.dn hb,fun d hd=>⟨(h.di d hd).1,(h.di d hd).2.below hb⟩,ao h.ou hb,h.oi,ao h.ma hb,h.mi⟩
theorem Fresh.far {w:World} {lo b i:Nat} {x:RegM} {u:Value} (h:Fresh w lo x) (hb:b<lo):Fresh (w.setCell ⟨b,i,none⟩ u) lo x :=
 ⟨h.num,h.va.far hb,ownsRow_setCell_below h.dn hb u,fun d hd=>⟨(h.di d hd).1,(h.di d hd).2.far hb⟩,ownsRow_setCell_below h.ou hb u,h.oi,ownsRow_setCell_below h.ma hb u,h.mi⟩

theorem BE (l:List DoneM):∀u∈l.flatMap DoneM.cs,u.oneCell'=true:=by
 intro u hu
 obtain ⟨x,_,hx⟩:=List.mem_flatMap.1 hu
 simp [DoneM.cs,Sl.v] at hx
 rcases hx with rfl|rfl|rfl|rfl|rfl|rfl <;> rfl
theorem BF (l:List CelM):∀u∈l.flatMap celC,u.oneCell'=true:=by
 intro u hu
 obtain ⟨x,_,hx⟩:=List.mem_flatMap.1 hu
 simp [celC] at hx
 rcases hx with rfl|rfl|rfl|rfl <;> rfl
theorem BG (l:List MrkM):∀u∈l.flatMap mrkC,u.oneCell'=true:=by
 intro u hu
 obtain ⟨x,_,hx⟩:=List.mem_flatMap.1 hu
 simp [mrkC] at hx
 rcases hx with rfl|rfl|rfl <;> rfl

theorem mZ (l:List DoneM) (V:Option Addr) (m k:Nat) (B:Nat) (w:World) (hm:l.length=m) (hm2:m<=100000) (hs:Sees w B V (l.flatMap DoneM.cs)) (hB:B<=w.heap.size) :
  Calls Tryz.prog 99 #[.slice V m k] w fun e w'=>∃A c,e = .returned (.slice A m c)/\w'.ownsRow w.heap.size 106 6 (.slice A m c) m (l.flatMap DoneM.cs)/\Below w.heap.size w w':=by
 have q22:∀(w:World) (a:Option Addr) (n c n' c':Nat),(binOp .eql 27 (.slice a n c) (.slice none n' c')).run Tryz.prog w = .ok (.bool a.isNone) w:=fun w a n c n' c'=>Lib.run_eql_slice_nil w _ _ a n c n' c' Tryz.underlying27
 rcases V with _|ad
 ·have h0:l=[]:=by
   rcases l with _ | ⟨x,l⟩
   ·rfl
   ·obtain ⟨ad,h',_⟩:=hs (by rw [List.flatMap_cons,List.length_append,show (DoneM.cs x).length=6 from rfl];omega)
    cases h'
  subst h0
  simp at hm
  subst hm
  go_enter Tryz.func99,Tryz.ntmps99
  go_wp2
  go_ret
  exact ⟨_,_,rfl,World.ownsRow_nil _ _ _ _,Below.refl _ _⟩
 ·have HS:=aa hs
  have HM:=aa hm
  clear hs hm
  go_enter Tryz.func99,Tryz.ntmps99
  have H1:=aa (World.ownsRow_lit (base:=w.heap.size) (e:=106) (size:=6) w #[] 0 (Nat.le_refl _) (by simp [maxLen]) (by simp))
  have H2:=aa (show (l.flatMap DoneM.cs).length=m * 6 by rw [eC (q:=6) (fun _=>rfl),HM.out])
  have H3:=aa (HS.out.below ((Below.refl _ _).alloc hB (.cells #[] 106)))
  go_wp2_with (at_builtin;refine aF _ rfl _ _ 27 rfl w.heap.size 106 (.agg #[.int .u8 0, .int .u64 0, .int .i64 0, .int .u64 0, .int .i64 0, .slice none 0 0]) 6 64 oo rfl (by omega) Tryz.underlying27 _ 0 [] rfl H1.out B (some ad) m k (l.flatMap DoneM.cs) rfl H2.out H3.out (BE l) (by omega) (by omega) (by simp) m (by omega) (l.flatMap DoneM.cs) rfl ?_;intro A c w1 hown hb)
  go_ret
  exact ⟨_,_,rfl,by assumption,(((Below.refl _ _).alloc (Nat.le_refl _) _).trans (by assumption))⟩

theorem m9 (l:List CelM) (V:Option Addr) (m k:Nat) (B:Nat) (w:World) (hm:l.length=m) (hm2:m<=100000) (hs:Sees w B V (l.flatMap celC)) (hB:B<=w.heap.size) :
  Calls Tryz.prog 100 #[.slice V m k] w fun e w'=>∃A c,e = .returned (.slice A m c)/\w'.ownsRow w.heap.size 108 4 (.slice A m c) m (l.flatMap celC)/\Below w.heap.size w w':=by
 have q22:∀(w:World) (a:Option Addr) (n c n' c':Nat),(binOp .eql 28 (.slice a n c) (.slice none n' c')).run Tryz.prog w = .ok (.bool a.isNone) w:=fun w a n c n' c'=>Lib.run_eql_slice_nil w _ _ a n c n' c' Tryz.underlying28
 rcases V with _|ad
 ·have h0:l=[]:=by
   rcases l with _ | ⟨x,l⟩
   ·rfl
   ·obtain ⟨ad,h',_⟩:=hs (by rw [List.flatMap_cons,List.length_append,show (celC x).length=4 from rfl];omega)
    cases h'
  subst h0
  simp at hm
  subst hm
  go_enter Tryz.func100,Tryz.ntmps100
  go_wp2
  go_ret
  exact ⟨_,_,rfl,World.ownsRow_nil _ _ _ _,Below.refl _ _⟩
 ·have HS:=aa hs
  have HM:=aa hm
  clear hs hm
  go_enter Tryz.func100,Tryz.ntmps100
  have H1:=aa (World.ownsRow_lit (base:=w.heap.size) (e:=108) (size:=4) w #[] 0 (Nat.le_refl _) (by simp [maxLen]) (by simp))
  have H2:=aa (show (l.flatMap celC).length=m * 4 by rw [eC (q:=4) (fun _=>rfl),HM.out])
  have H3:=aa (HS.out.below ((Below.refl _ _).alloc hB (.cells #[] 108)))
  go_wp2_with (at_builtin;refine aF _ rfl _ _ 28 rfl w.heap.size 108 (.agg #[.int .u64 0, .int .u8 0, .int .i64 0, .int .i64 0]) 4 32 nZ rfl (by omega) Tryz.underlying28 _ 0 [] rfl H1.out B (some ad) m k (l.flatMap celC) rfl H2.out H3.out (BF l) (by omega) (by omega) (by simp) m (by omega) (l.flatMap celC) rfl ?_;intro A c w1 hown hb)
  go_ret
  exact ⟨_,_,rfl,by assumption,(((Below.refl _ _).alloc (Nat.le_refl _) _).trans (by assumption))⟩

theorem nb (l:List MrkM) (V:Option Addr) (m k:Nat) (B:Nat) (w:World) (hm:l.length=m) (hm2:m<=100000) (hs:Sees w B V (l.flatMap mrkC)) (hB:B<=w.heap.size) :
  Calls Tryz.prog 101 #[.slice V m k] w fun e w'=>∃A c,e = .returned (.slice A m c)/\w'.ownsRow w.heap.size 110 3 (.slice A m c) m (l.flatMap mrkC)/\Below w.heap.size w w':=by
 have q22:∀(w:World) (a:Option Addr) (n c n' c':Nat),(binOp .eql 29 (.slice a n c) (.slice none n' c')).run Tryz.prog w = .ok (.bool a.isNone) w:=fun w a n c n' c'=>Lib.run_eql_slice_nil w _ _ a n c n' c' Tryz.underlying29
 rcases V with _|ad
 ·have h0:l=[]:=by
   rcases l with _ | ⟨x,l⟩
   ·rfl
   ·obtain ⟨ad,h',_⟩:=hs (by rw [List.flatMap_cons,List.length_append,show (mrkC x).length=3 from rfl];omega)
    cases h'
  subst h0
  simp at hm
  subst hm
  go_enter Tryz.func101,Tryz.ntmps101
  go_wp2
  go_ret
  exact ⟨_,_,rfl,World.ownsRow_nil _ _ _ _,Below.refl _ _⟩
 ·have HS:=aa hs
  have HM:=aa hm
  clear hs hm
  go_enter Tryz.func101,Tryz.ntmps101
  have H1:=aa (World.ownsRow_lit (base:=w.heap.size) (e:=110) (size:=3) w #[] 0 (Nat.le_refl _) (by simp [maxLen]) (by simp))
  have H2:=aa (show (l.flatMap mrkC).length=m * 3 by rw [eC (q:=3) (fun _=>rfl),HM.out])
  have H3:=aa (HS.out.below ((Below.refl _ _).alloc hB (.cells #[] 110)))
  go_wp2_with (at_builtin;refine aF _ rfl _ _ 29 rfl w.heap.size 110 (.agg #[.int .u8 0, .int .u64 0, .int .u64 0]) 3 24 oq rfl (by omega) Tryz.underlying29 _ 0 [] rfl H1.out B (some ad) m k (l.flatMap mrkC) rfl H2.out H3.out (BG l) (by omega) (by omega) (by simp) m (by omega) (l.flatMap mrkC) rfl ?_;intro A c w1 hown hb)
  go_ret
  exact ⟨_,_,rfl,by assumption,(((Below.refl _ _).alloc (Nat.le_refl _) _).trans (by assumption))⟩

def DG (r:RegM) (w:World) (e:Ending) (w':World):Prop:=∃x:RegM,e = .returned x.v/\x.p=r.p/\Fresh w' (w.heap.size+2) x/\Below w.heap.size w w'
theorem qj {α β:Type} {f:α->β} {l:List α} {k:Nat} {x y:α} (h:l[k]?=some x) (e:f y=f x):(l.set k y).map f=l.map f:=by
 rw [List.map_set,e]
 apply List.ext_getElem?
 intro i
 rw [List.getElem?_set]
 by_cases hi:k=i
 ·subst hi
  rw [if_pos rfl,List.getElem?_map,h]
  split
  ·rfl
  ·rename_i hn
   exact absurd (by rw [List.length_map];exact (List.getElem?_eq_some_iff.1 h).1) hn
 ·rw [if_neg hi]

theorem iG (r:RegM) (B:Nat) (w:World) (hr:RegM.ok w B r) (hB:B<=w.heap.size) (h1:r.va.l.length<=50) (h2:r.dn.l.length<=50) (h3:r.ou.l.length<=50) (h4:r.ma.l.length<=50) (h5:∀d∈r.dn.l,d.va.l.length<=50) :
  Calls Tryz.prog 41 #[r.v] w (DG r w):=by
 have HV:=aa (fun (u:World) (hb:Below w.heap.size w u)=>(ints_stable.below hr.2.1 (hb.mono hB)).sees)
 have HVI:=aa hr.2.1.2.2.2
 have HD:=aa (fun (u:World) (hb:Below w.heap.size w u)=>dns_stable.below hr.2.2.1 (hb.mono hB))
 have HO:=aa (fun (u:World) (hb:Below w.heap.size w u)=>(cels_stable.below hr.2.2.2.1 (hb.mono hB)).2.2.1)
 have HOI:=aa hr.2.2.2.1.2.2.2
 have HM:=aa (fun (u:World) (hb:Below w.heap.size w u)=>(mrks_stable.below hr.2.2.2.2 (hb.mono hB)).2.2.1)
 have HMI:=aa hr.2.2.2.2.2.2.2
 have HNUM:=aa hr.1
 have H5:=aa h5
 clear hr h5
 obtain ⟨ki,inc,st,⟨vA,vc,vl⟩,⟨dA,dc,dl⟩,⟨oA,oc,ol⟩,la,⟨mA,mc,ml⟩⟩:=r
 obtain ⟨nv,hnv⟩:∃n,vl.length=n:=⟨_,rfl⟩
 obtain ⟨nd,hnd⟩:∃n,dl.length=n:=⟨_,rfl⟩
 obtain ⟨no,hno⟩:∃n,ol.length=n:=⟨_,rfl⟩
 obtain ⟨nm,hnm⟩:∃n,ml.length=n:=⟨_,rfl⟩
 simp only [RegM.v,Sl.v,hnv,hnd,hno,hnm] at HNUM h1 h2 h3 h4 ⊢
 simp only at HV HVI HD HO HOI HM HMI H5
 have HNV:=aa hnv
 have HND:=aa hnd
 have HNO:=aa hno
 have HNM:=aa hnm
 clear hnv hnd hno hnm
 obtain ⟨W0,hW0⟩:∃W0,(w.alloc (.cells #[.int .u8 ki, .int .u64 inc, .int .i64 st, .slice vA nv vc, .slice dA nd dc, .slice oA no oc, .int .u64 la, .slice mA nm mc] 31)).alloc (.cells #[.int .u8 0, .int .u64 0, .int .i64 0, .slice none 0 0, .slice none 0 0, .slice none 0 0, .int .u64 0, .slice none 0 0] 31)=W0:=⟨_,rfl⟩
 have HX0:=aa (show BoxAt W0 w.heap.size #[.int .u8 ki, .int .u64 inc, .int .i64 st, .slice vA nv vc, .slice dA nd dc, .slice oA no oc, .int .u64 la, .slice mA nm mc] 31 from hW0 ▸ (BoxAt.new w #[.int .u8 ki, .int .u64 inc, .int .i64 st, .slice vA nv vc, .slice dA nd dc, .slice oA no oc, .int .u64 la, .slice mA nm mc] 31).alloc _)
 have HZ0:=aa (show BoxAt W0 (w.heap.size+1) #[.int .u8 0, .int .u64 0, .int .i64 0, .slice none 0 0, .slice none 0 0, .slice none 0 0, .int .u64 0, .slice none 0 0] 31 from by
  have h:=BoxAt.new (w.alloc (.cells #[.int .u8 ki, .int .u64 inc, .int .i64 st, .slice vA nv vc, .slice dA nd dc, .slice oA no oc, .int .u64 la, .slice mA nm mc] 31)) #[.int .u8 0, .int .u64 0, .int .i64 0, .slice none 0 0, .slice none 0 0, .slice none 0 0, .int .u64 0, .slice none 0 0] 31
  rw [hW0] at h
  simpa using h)
 have HB0:=aa (show Below w.heap.size w W0 from hW0 ▸ ((Below.refl _ _).alloc (Nat.le_refl _) _).alloc (by simp) _)
 have HS0:=aa (show w.heap.size+2=W0.heap.size from by rw [<- hW0];simp)
 have HW0:=aa hW0
 clear hW0
 go_enter Tryz.func41,Tryz.ntmps41
 go_wp2_with fail
 rw [HW0.out]
 refine (n6 vl vA nv vc B _ HNV.out (by omega) (HV.out _ HB0.out) (Nat.le_trans hB HB0.out.size)).mono ?_
 rintro en w1 ⟨A1,c1,rfl,ho1,hb1⟩
 have HV1:=aa (az (base':=w.heap.size+2) ho1 (by have:=HS0.out;omega))
 have HX1:=aa (HX0.out.below hb1)
 have HZ1:=aa (HZ0.out.below hb1)
 have HB1:=aa (HB0.out.trans (hb1.mono HB0.out.size))
 have hcx:=HX1.out.cell
 have hfx:=HX1.out.frozen
 have hz1:w.heap.size<w1.heap.size:=HX1.out.lt
 obtain ⟨u1,hu1⟩:∃u1,w1.setCell ⟨w.heap.size,3,none⟩ (.slice A1 nv c1)=u1:=⟨_,rfl⟩
 have HU1:=aa hu1
 have HXu1:=aa (show BoxAt u1 w.heap.size #[.int .u8 ki, .int .u64 inc, .int .i64 st, .slice A1 nv c1, .slice dA nd dc, .slice oA no oc, .int .u64 la, .slice mA nm mc] 31 from hu1 ▸ aU 3 _ HX1.out)
 have HZu1:=aa (show BoxAt u1 (w.heap.size+1) #[.int .u8 0, .int .u64 0, .int .i64 0, .slice none 0 0, .slice none 0 0, .slice none 0 0, .int .u64 0, .slice none 0 0] 31 from hu1 ▸ HZ1.out.apart (by omega))
 have HBu1:=aa (show Below w.heap.size w u1 from hu1 ▸ HB1.out.setCell (p:=⟨w.heap.size,3,none⟩) (Nat.le_refl _) _)
 have HVu1:=aa (show u1.ownsRow (w.heap.size+2) 2 1 (.slice A1 nv c1) nv (iv vl) from hu1 ▸ ownsRow_setCell_below HV1.out (by show w.heap.size<_;omega) _)
 have hs1:w.heap.size+2<=w1.heap.size:=by have:=hb1.size;have:=HS0.out;omega
 have HS1:=aa (show w.heap.size+2<=u1.heap.size by rw [<- hu1];simpa [World.setCell] using hs1)
 clear ho1 hb1 hs1 hu1
 go_wp2_with fail
 rw [HU1.out]
 clear hcx hfx
 refine (mZ dl dA nd dc B _ HND.out (by omega) ((HD.out _ HBu1.out).2.2.1) (Nat.le_trans hB HBu1.out.size)).mono ?_
 rintro en w2 ⟨A2,c2,rfl,ho2,hb2⟩
 have HD2:=aa (az (base':=w.heap.size+2) ho2 HS1.out)
 have HV2:=aa (ao HVu1.out hb2)
 have HX2:=aa (HXu1.out.below hb2)
 have HZ2:=aa (HZu1.out.below hb2)
 have HB2:=aa (HBu1.out.trans (hb2.mono HBu1.out.size))
 have hcx:=HX2.out.cell
 have hfx:=HX2.out.frozen
 have hz2:w.heap.size<w2.heap.size:=HX2.out.lt
 obtain ⟨u2,hu2⟩:∃u2,w2.setCell ⟨w.heap.size,4,none⟩ (.slice A2 nd c2)=u2:=⟨_,rfl⟩
 have HU2:=aa hu2
 have HXu2:=aa (show BoxAt u2 w.heap.size #[.int .u8 ki, .int .u64 inc, .int .i64 st, .slice A1 nv c1, .slice A2 nd c2, .slice oA no oc, .int .u64 la, .slice mA nm mc] 31 from hu2 ▸ aU 4 _ HX2.out)
 have HZu2:=aa (show BoxAt u2 (w.heap.size+1) #[.int .u8 0, .int .u64 0, .int .i64 0, .slice none 0 0, .slice none 0 0, .slice none 0 0, .int .u64 0, .slice none 0 0] 31 from hu2 ▸ HZ2.out.apart (by omega))
 have HBu2:=aa (show Below w.heap.size w u2 from hu2 ▸ HB2.out.setCell (p:=⟨w.heap.size,4,none⟩) (Nat.le_refl _) _)
 have HVu2:=aa (show u2.ownsRow (w.heap.size+2) 2 1 (.slice A1 nv c1) nv (iv vl) from hu2 ▸ ownsRow_setCell_below HV2.out (by show w.heap.size<_;omega) _)
 have HDu2:=aa (show u2.ownsRow (w.heap.size+2) 106 6 (.slice A2 nd c2) nd (dl.flatMap DoneM.cs) from hu2 ▸ ownsRow_setCell_below HD2.out (by show w.heap.size<_;omega) _)
 have HS2:=aa (show w.heap.size+2<=u2.heap.size by rw [<- hu2];have:=hb2.size;have:=HS1.out;simp [World.setCell];omega)
 have hzu2:w.heap.size<u2.heap.size:=by have:=HS2.out;omega
 have hcu:=HXu2.out.cell
 clear ho2 hb2 hu2
 go_wp2
 rw [HU2.out]
 clear hcx hfx hcu
 go_loopw [16] (fun i wr=>∃k:Nat,k<=nd/\i = .int .i64 k/\Hid (∃dk:List DoneM,dk.length=nd/\dk.map DoneM.p=dl.map DoneM.p/\(∀j d,j<k->dk[j]?=some d->OwnVars wr (w.heap.size+2) d.va)/\(∀j,k<=j->dk[j]?=dl[j]?)/\(∀d∈dk,U8 d.cl/\U64 d.sq/\I64 d.er/\U64 d.inc/\I64 d.st)/\wr.ownsRow (w.heap.size+2) 106 6 (.slice A2 nd c2) nd (dk.flatMap DoneM.cs))/\Hid (OwnVars wr (w.heap.size+2) ⟨A1,c1,vl⟩)/\Hid (BoxAt wr w.heap.size #[.int .u8 ki, .int .u64 inc, .int .i64 st, .slice A1 nv c1, .slice A2 nd c2, .slice oA no oc, .int .u64 la, .slice mA nm mc] 31)/\Hid (BoxAt wr (w.heap.size+1) #[.int .u8 0, .int .u64 0, .int .i64 0, .slice none 0 0, .slice none 0 0, .slice none 0 0, .int .u64 0, .slice none 0 0] 31)/\Hid (Below w.heap.size w wr/\w.heap.size+2<=wr.heap.size)) (fun i _=>nd - (intOf i).toNat)
 case atStart=>exact ⟨0,Nat.zero_le _,rfl,⟨dl,HND.out,rfl,fun j d hj=>absurd hj (by omega),fun j _=>rfl,fun d hd=>((HD.out _ HBu2.out).2.2.2 d hd).1,HDu2.out⟩,⟨by simp only [HNV.out];exact HVu2.out,HVI.out⟩,HXu2.out,HZu2.out,HBu2.out,HS2.out⟩
 case round =>
  obtain ⟨k,hk,rfl,HK,HVR,HXR,HZR,HBR⟩:=hrel
  have hz:w.heap.size<wr.heap.size:=HXR.out.lt
  have hcx:=HXR.out.cell
  by_cases hlt:k<nd
  case pos =>
   obtain ⟨dk,hdk1,hdk2,hdk3,hdk4,hdk5,hdk6⟩:=HK.out
   obtain ⟨x,hx⟩:∃x,dl[k]?=some x:=⟨_,List.getElem?_eq_getElem (by rw [HND.out];exact hlt)⟩
   have hxd:dk[k]?=some x:=by rw [hdk4 k (Nat.le_refl _)];exact hx
   obtain ⟨g,hAe,hg1,hg2,cur,hgc⟩:=zw hdk6 (by omega)
   have hx50:=H5.out x (List.mem_of_getElem? hx)
   have hxo:=((HD.out _ HBR.out.1).2.2.2 x (List.mem_of_getElem? hx)).2
   have e5:wr.cell? ⟨g,k * 6+5,none⟩=some x.va.v:=by
    subst hAe
    rw [hdk6.cellAt (k * 6+5) (by omega),me (cs:=DoneM.cs) (q:=6) (fun _=>rfl) dk k 5 x hxd (by omega)]
    rfl
   have f5:wr.frozen? ⟨g,k * 6+5,none⟩=false:=by
    subst hAe
    exact hdk6.frozenAt _
   have HHX:=aa hx
   have HHD:=aa hxd
   have HO6:=aa hdk6
   have HAE:=aa hAe
   have HG1:=aa hg1
   have HDK:=aa (show dk.length=nd/\dk.map DoneM.p=dl.map DoneM.p/\(∀j d,j<k->dk[j]?=some d->OwnVars wr (w.heap.size+2) d.va)/\(∀j,k<=j->dk[j]?=dl[j]?)/\(∀d∈dk,U8 d.cl/\U64 d.sq/\I64 d.er/\U64 d.inc/\I64 d.st) from ⟨hdk1,hdk2,hdk3,hdk4,hdk5⟩)
   subst hAe
   clear hdk1 hdk2 hdk3 hdk4 hdk5 hdk6 hx hxd hgc HK
   obtain ⟨cl,sq,er,in3,st3,⟨A,c,va⟩⟩:=x
   simp only [Sl.v] at e5 hx50 hxo
   obtain ⟨na,hna⟩:∃n,va.length=n:=⟨_,rfl⟩
   rw [hna] at e5 hx50
   have HNA:=aa hna
   have HSV:=aa hxo.sees
   have HVX:=aa hxo.2.2.2
   clear hna hxo
   go_wp2_with fail
   refine (n6 va A na c B _ HNA.out (by omega) HSV.out (Nat.le_trans hB HBR.out.1.size)).mono ?_
   rintro en w5 ⟨A5,c5,rfl,ho5,hb5⟩
   have HO5:=aa (az (base':=w.heap.size+2) ho5 HBR.out.2)
   have HD5:=aa (ao HO6.out hb5)
   have HX5:=aa (HXR.out.below hb5)
   have HZ5:=aa (HZR.out.below hb5)
   have HV5:=aa (HVR.out.below hb5)
   have HB5:=aa (HBR.out.1.trans (hb5.mono HBR.out.1.size))
   have HOK:=aa (fun j d (hj:j<k) hd=>(HDK.out.2.2.1 j d hj hd).below hb5)
   have hs5:wr.heap.size<=w5.heap.size:=hb5.size
   have e6:w5.cell? ⟨g,k * 6+5,none⟩=some (.slice A na c):=(hb5.cell (p:=⟨g,k * 6+5,none⟩) hg2).trans e5
   have f6:w5.frozen? ⟨g,k * 6+5,none⟩=false:=(hb5.frozen (p:=⟨g,k * 6+5,none⟩) hg2).trans f5
   obtain ⟨u5,hu5⟩:∃u5,w5.setCell ⟨g,k * 6+5,none⟩ (.slice A5 na c5)=u5:=⟨_,rfl⟩
   have HU5:=aa hu5
   have HRD:=aa (show u5.ownsRow (w.heap.size+2) 106 6 (.slice (some ⟨g,0,none⟩) nd c2) nd ((dk.set k ⟨cl,sq,er,in3,st3,⟨A5,c5,va⟩⟩).flatMap DoneM.cs) from by
    have h:=(HD5.out.stored (k * 6+5) (.slice A5 na c5)).1
    rw [hu5,zx (cs:=DoneM.cs) (q:=6) (fun _=>rfl) dk k 5 _ ⟨cl,sq,er,in3,st3,⟨A5,c5,va⟩⟩ _ HHD.out (by omega) (by simp [DoneM.cs,Sl.v,HNA.out])] at h
    exact h)
   have HRX:=aa (show BoxAt u5 w.heap.size _ _ from hu5 ▸ HX5.out.apart (by have:=HG1.out;omega))
   have HRZ:=aa (show BoxAt u5 (w.heap.size+1) _ _ from hu5 ▸ HZ5.out.apart (by have:=HG1.out;omega))
   have HRB:=aa (show Below w.heap.size w u5/\w.heap.size+2<=u5.heap.size from hu5 ▸ ⟨HB5.out.setCell (p:=⟨g,k * 6+5,none⟩) (by show w.heap.size<=g;have:=HG1.out;omega) _,by have:=HBR.out.2;simp [World.setCell];omega⟩)
   have HRV:=aa (show OwnVars u5 (w.heap.size+2) ⟨A1,c1,vl⟩ from hu5 ▸ HV5.out.apart HD5.out (by decide) rfl)
   have HRO:=aa (show OwnVars u5 (w.heap.size+2) ⟨A5,c5,va⟩ from hu5 ▸ OwnVars.apart (s:=⟨A5,c5,va⟩) ⟨by simp only [HNA.out];exact HO5.out,HVX.out⟩ HD5.out (by decide) rfl)
   have HROK:=aa (show ∀j d,j<k->dk[j]?=some d->OwnVars u5 (w.heap.size+2) d.va from fun j d hj hd=>hu5 ▸ (HOK.out j d hj hd).apart HD5.out (by decide) rfl)
   clear ho5 hb5 hu5 e5 f5
   have HNEW:=aa (show ∃dk:List DoneM,dk.length=nd/\dk.map DoneM.p=dl.map DoneM.p/\(∀j d,j<k+1->dk[j]?=some d->OwnVars u5 (w.heap.size+2) d.va)/\(∀j,k+1<=j->dk[j]?=dl[j]?)/\(∀d∈dk,U8 d.cl/\U64 d.sq/\I64 d.er/\U64 d.inc/\I64 d.st)/\u5.ownsRow (w.heap.size+2) 106 6 (.slice (some ⟨g,0,none⟩) nd c2) nd (dk.flatMap DoneM.cs) from by
    refine ⟨_,by rw [List.length_set];exact HDK.out.1,?_,fun j d hj hd => ?_,fun j hj => ?_,fun d hd => ?_,HRD.out⟩
    ·rw [qj (f:=DoneM.p) (y:=⟨cl,sq,er,in3,st3,⟨A5,c5,va⟩⟩) HHD.out rfl]
     exact HDK.out.2.1
    ·rw [List.getElem?_set] at hd
     by_cases h:k=j
     ·rw [if_pos h,if_pos (by rw [HDK.out.1];omega)] at hd
      injection hd with hd
      subst hd
      exact HRO.out
     ·rw [if_neg h] at hd
      exact HROK.out j d (by omega) hd
    ·rw [List.getElem?_set,if_neg (by omega)]
     exact HDK.out.2.2.2.1 j (by omega)
    ·rcases List.mem_or_eq_of_mem_set hd with hd|rfl
     ·exact HDK.out.2.2.2.2 d hd
     ·exact HDK.out.2.2.2.2 ⟨cl,sq,er,in3,st3,⟨A,c,va⟩⟩ (List.mem_of_getElem? HHD.out))
   go_wp2
   rw [HU5.out]
   go_roundw
   case rel=>exact ⟨k+1,by omega,by go_num,HNEW,HRV,HRX,HRZ,HRB⟩
   case measure=>simp [intOf];omega
  have hkn:nd=k:=by omega
  subst hkn
  obtain ⟨dk,hdk1,hdk2,hdk3,hdk4,hdk5,hdk6⟩:=HK.out
  have HKL:=aa hdk1
  have HKP:=aa hdk2
  have HKO:=aa (show ∀d∈dk,(U8 d.cl/\U64 d.sq/\I64 d.er/\U64 d.inc/\I64 d.st)/\OwnVars wr (w.heap.size+2) d.va from fun d hd=>⟨hdk5 d hd,by
   obtain ⟨j,hj,rfl⟩:=List.getElem_of_mem hd
   exact hdk3 j _ (by omega) (List.getElem?_eq_getElem hj)⟩)
  have HKD:=aa hdk6
  clear hdk1 hdk2 hdk3 hdk4 hdk5 hdk6 HK
  go_wp2_with fail
  refine (m9 ol oA no oc B _ HNO.out (by omega) (HO.out _ HBR.out.1) (Nat.le_trans hB HBR.out.1.size)).mono ?_
  rintro en w6 ⟨A6,c6,rfl,ho6,hb6⟩
  have HO6:=aa (az (base':=w.heap.size+2) ho6 HBR.out.2)
  have HX6:=aa (HXR.out.below hb6)
  have HZ6:=aa (HZR.out.below hb6)
  have HV6:=aa (HVR.out.below hb6)
  have HD6:=aa (ao HKD.out hb6)
  have HK6:=aa (fun d hd=>show _/\OwnVars w6 (w.heap.size+2) d.va from ⟨(HKO.out d hd).1,(HKO.out d hd).2.below hb6⟩)
  have HB6:=aa (HBR.out.1.trans (hb6.mono HBR.out.1.size))
  have hs6:w.heap.size+2<=w6.heap.size:=Nat.le_trans HBR.out.2 hb6.size
  clear ho6 hb6 hcx
  have hcx:=HX6.out.cell
  have hfx:=HX6.out.frozen
  have hz6:w.heap.size<w6.heap.size:=HX6.out.lt
  obtain ⟨u6,hu6⟩:∃u6,w6.setCell ⟨w.heap.size,5,none⟩ (.slice A6 no c6)=u6:=⟨_,rfl⟩
  have HU6:=aa hu6
  have HXu6:=aa (show BoxAt u6 w.heap.size #[.int .u8 ki, .int .u64 inc, .int .i64 st, .slice A1 nv c1, .slice A2 nd c2, .slice A6 no c6, .int .u64 la, .slice mA nm mc] 31 from hu6 ▸ aU 5 _ HX6.out)
  have HZu6:=aa (show BoxAt u6 (w.heap.size+1) #[.int .u8 0, .int .u64 0, .int .i64 0, .slice none 0 0, .slice none 0 0, .slice none 0 0, .int .u64 0, .slice none 0 0] 31 from hu6 ▸ HZ6.out.apart (by omega))
  have HBu6:=aa (show Below w.heap.size w u6 from hu6 ▸ HB6.out.setCell (p:=⟨w.heap.size,5,none⟩) (Nat.le_refl _) _)
  have HVu6:=aa (show OwnVars u6 (w.heap.size+2) ⟨A1,c1,vl⟩ from hu6 ▸ HV6.out.far (by omega))
  have HDu6:=aa (show u6.ownsRow (w.heap.size+2) 106 6 (.slice A2 nd c2) nd (dk.flatMap DoneM.cs) from hu6 ▸ ownsRow_setCell_below HD6.out (by show w.heap.size<_;omega) _)
  have HKu6:=aa (fun d hd=>show _/\OwnVars u6 (w.heap.size+2) d.va from ⟨(HK6.out d hd).1,hu6 ▸ (HK6.out d hd).2.far (by omega)⟩)
  have HOu6:=aa (show u6.ownsRow (w.heap.size+2) 108 4 (.slice A6 no c6) no (ol.flatMap celC) from hu6 ▸ ownsRow_setCell_below HO6.out (by show w.heap.size<_;omega) _)
  have HS6:=aa (show w.heap.size+2<=u6.heap.size by rw [<- hu6];simpa [World.setCell] using hs6)
  clear hu6
  go_wp2_with fail
  rw [HU6.out]
  clear hcx hfx
  refine (nb ml mA nm mc B _ HNM.out (by omega) (HM.out _ HBu6.out) (Nat.le_trans hB HBu6.out.size)).mono ?_
  rintro en w7 ⟨A7,c7,rfl,ho7,hb7⟩
  have HM7:=aa (az (base':=w.heap.size+2) ho7 HS6.out)
  have HX7:=aa (HXu6.out.below hb7)
  have HZ7:=aa (HZu6.out.below hb7)
  have HB7:=aa (HBu6.out.trans (hb7.mono HBu6.out.size))
  have HFR:=aa (show Fresh w7 (w.heap.size+2) ⟨ki,inc,st,⟨A1,c1,vl⟩,⟨A2,c2,dk⟩,⟨A6,c6,ol⟩,la,⟨A7,c7,ml⟩⟩ from
   ⟨HNUM.out,HVu6.out.below hb7,by simp only [HKL.out];exact ao HDu6.out hb7,fun d hd=>⟨(HKu6.out d hd).1,(HKu6.out d hd).2.below hb7⟩,by simp only [HNO.out];exact ao HOu6.out hb7,HOI.out,by simp only [HNM.out];exact HM7.out,HMI.out⟩)
  clear ho7 hb7
  have hcx:=HX7.out.cell
  have hfx:=HX7.out.frozen
  have hz7:w.heap.size<w7.heap.size:=HX7.out.lt
  have hz8:w.heap.size+1<w7.heap.size:=HZ7.out.lt
  have hcz:=HZ7.out.cell
  have hfz:=HZ7.out.frozen
  have r0:=(HZ7.out.cell 0).trans (show _=some (.int .u8 0:Value) from rfl)
  have g0:=HZ7.out.frozen 0
  have r1:=(HZ7.out.cell 1).trans (show _=some (.int .u64 0:Value) from rfl)
  have g1:=HZ7.out.frozen 1
  have r2:=(HZ7.out.cell 2).trans (show _=some (.int .i64 0:Value) from rfl)
  have g2:=HZ7.out.frozen 2
  have r3:=(HZ7.out.cell 3).trans (show _=some (.slice none 0 0:Value) from rfl)
  have g3:=HZ7.out.frozen 3
  have r4:=(HZ7.out.cell 4).trans (show _=some (.slice none 0 0:Value) from rfl)
  have g4:=HZ7.out.frozen 4
  have r5:=(HZ7.out.cell 5).trans (show _=some (.slice none 0 0:Value) from rfl)
  have g5:=HZ7.out.frozen 5
  have r6:=(HZ7.out.cell 6).trans (show _=some (.int .u64 0:Value) from rfl)
  have g6:=HZ7.out.frozen 6
  have r7:=(HZ7.out.cell 7).trans (show _=some (.slice none 0 0:Value) from rfl)
  have g7:=HZ7.out.frozen 7
  clear hcz hfz
  go_wp2
  refine bodyPost_ret (v := .agg #[.int .u8 ki, .int .u64 inc, .int .i64 st, .slice A1 nv c1, .slice A2 nd c2, .slice A6 no c6, .int .u64 la, .slice A7 nm c7]) (by simp [results,Tryz.results41,go_sem,r0,r1,r2,r3,r4,r5,r6,r7]) rfl ?_
  clear r0 g0 r1 g1 r2 g2 r3 g3 r4 g4 r5 g5 r6 g6 r7 g7 hcx hfx
  refine ⟨⟨ki,inc,st,⟨A1,c1,vl⟩,⟨A2,c2,dk⟩,⟨A6,c6,ol⟩,la,⟨A7,c7,ml⟩⟩,?_,?_,?_,?_⟩
  ·simp only [RegM.v,Sl.v,HNV.out,HKL.out,HNO.out,HNM.out]
  ·simp only [RegM.p,HKP.out]
  ·iterate 9 refine Fresh.far ?_ (by omega)
   exact HFR.out
  ·iterate 9 refine Below.setCell ?_ (by simp) _
   exact HB7.out


theorem Fresh.other14 {w w':World} {lo g:Nat} {x:RegM} (h:Fresh w lo x) (hg:w.grownBy w' (some g)) (hz:g<lo):Fresh w' lo x:=by
 have far:∀ {e:TypeId} {s n:Nat} {v:Value} {xs:List Value},w.ownsRow lo e s v n xs->w'.ownsRow lo e s v n xs:=fun ho=>aM ho (fun e=>kl ho hz e.symm) hg
 exact ⟨h.num,⟨far h.va.1,h.va.2⟩,far h.dn,fun d hq=>⟨(h.di d hq).1,far (h.di d hq).2.1,(h.di d hq).2.2⟩,far h.ou,h.oi,far h.ma,h.mi⟩
theorem Aside14.fresh {w:World} {lo z:Nat} {x:RegM} (h:Fresh w lo x) (hz:z<lo):∀u,w.grownBy u (some z)->RegM.ok u u.heap.size x:=fun _ hu=>(h.other14 hu hz).ok
theorem Aside14.fresh' {w u:World} {lo z:Nat} {x:RegM} (h:Fresh w lo x) (hz:z<lo) (hu:w.grownBy u (some z)):Fresh u lo x:=h.other14 hu hz
theorem Aside14.less {w:World} {lo lo':Nat} {x:RegM} (h:Fresh w lo x) (hl:lo'<=lo):Fresh w lo' x :=
 ⟨h.num,h.va.less hl,az h.dn hl,fun d hd=>⟨(h.di d hd).1,(h.di d hd).2.less hl⟩,az h.ou hl,h.oi,az h.ma hl,h.mi⟩
end Go.Proofs.YtnkjdijbfnmnhaaGreat
