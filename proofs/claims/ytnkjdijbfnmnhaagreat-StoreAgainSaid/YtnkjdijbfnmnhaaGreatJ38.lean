/-
  Texts of this claim put together: Back.
-/
import Derived.Test.YtnkjdijbfnmnhaaGreatJ09
import Derived.RangeFuncNested
import Derived.RangeFuncBound
import Derived.RangeFuncCalls
import Derived.RangeFuncLeaves
import Derived.Shelf.Abstract
import Derived.WalkKit
import Derived.OwnWalkIn
import Derived.TacticsInMore
import Derived.LoopNIn
import Derived.LoopIn

namespace Go.Proofs.YtnkjdijbfnmnhaaGreat
set_option maxRecDepth 100000
set_option maxHeartbeats 12800000
open Go.RowKit Go.Shelf

attribute [local go_sem] Oper.semAt_some

structure El12 where
 s:Int
 g:Nat
 l:Nat
 c:Nat

def de (len:Nat) (f:Nat->El12) (k:Nat):List (Nat × El12):=(List.range k).map fun j=>(len - 1 - j,f (len - 1 - j))
theorem gz (len:Nat) (f:Nat->El12) (k:Nat):de len f (k+1)=de len f k++[(len - 1 - k,f (len - 1 - k))]:=by simp [de,List.range_succ]
theorem nr (len:Nat) (f:Nat->El12) (k:Nat):(de len f k).length=k:=by simp [de]

def rZ (x:Nat × El12):Array Value := #[.int .i64 (x.1:Int), .agg #[.int .i64 x.2.s, .slice (some ⟨x.2.g,0,none⟩) x.2.l x.2.c]]

theorem zP (F:Fence) (n:Nat) (h7:F.fn 280) (hro:F.round=none) (hn:1<=n) (l Bs n₀ b off len cap:Nat) (f:Nat->El12) (hreach:len<=1000000) (hb:b<n₀)
  (J Jx:List (Nat × El12)->World->Prop)
  (hY:∀pre x W,J pre W->pre.length<len->YieldAt F (n - 1) Tryz.prog l (rZ x) W fun e W' =>
   (e = .returned (.bool true)/\J (pre++[x]) W'/\Below n₀ W W')∨(e = .returned (.bool false)/\Jx (pre++[x]) W'))
  (W:World) (hBs:W.cell? ⟨Bs,0,none⟩=some (.slice (some ⟨b,off,none⟩) len cap)) (hBn:Bs<n₀) (hc:∀j,j<len->W.cell? ⟨b,off+j * 2,none⟩=some (.int .i64 (f j).s)/\W.cell? ⟨b,off+j * 2+1,none⟩=some (.slice (some ⟨(f j).g,0,none⟩) (f j).l (f j).c)) (h0:J [] W) :
  CallsIn F n Tryz.prog 280 #[.func (.yield l) #[] #[], .pointer (some ⟨Bs,0,none⟩)] W fun e W'=>(∃v,e = .returned v) /\
   ((∃ys,ys=de len f len/\J ys W')∨(∃pre,(∃k,k<=len/\pre=de len f k)/\Jx pre W')):=by
 refine callsIn_of_wp Tryz.func280 rfl h7 ?_ hro
 simp only [Tryz.ntmps280,List.size_toArray,List.length_cons,List.length_nil,Nat.reduceAdd,Nat.reduceSub,Array.replicate_succ,Array.replicate_zero,List.push_toArray,List.append_toArray,List.nil_append,List.cons_append]
 have hw0:IntKind.i64.wrap ((len:Int) - 1)=(len:Int) - 1:=by rw [IntKind.wrap_i64];omega
 gi_wp2
 gi_loopw [3] (fun i wr=>∃k:Nat,k<=len/\i = .int .i64 ((len:Int) - 1 - k)/\J (de len f k) wr/\Below n₀ W wr)
  (fun i _=>(intOf i+1).toNat)
 case atStart=>exact ⟨0,Nat.zero_le _,by simp,h0,Below.refl _ _⟩
 case round =>
  obtain ⟨k,hk,rfl,hJs,hnx⟩:=hrel
  have hBs':=(hnx.cell (p:=⟨Bs,0,none⟩) hBn).trans hBs
  by_cases hlt:k<len
  ·obtain ⟨q,hq⟩:∃q,len=k+1+q:=⟨len - (k+1),by omega⟩
   have hq1:len - 1 - k=q:=by omega
   have hq2:(len:Int) - 1 - k=(q:Int):=by omega
   obtain ⟨c1,c2⟩:=hc q (by omega)
   have c1':=(hnx.cell (p:=⟨b,off+q * 2,none⟩) hb).trans c1
   have c2':=(hnx.cell (p:=⟨b,off+q * 2+1,none⟩) hb).trans c2
   obtain ⟨fn,tmps,assign,body,hy,hR⟩:=hY _ (q,f q) wr hJs (by rw [nr];exact hlt)
   simp only [rZ] at hy
   rw [hq2]
   have hql:q<len:=by omega
   have hw1:IntKind.i64.wrap ((q:Int) - 1)=(q:Int) - 1:=by rw [IntKind.wrap_i64];omega
   have HQ1:=aa hq1
   have HQ2:=aa hq2
   have HQ:=aa hq
   obtain ⟨u,hu⟩:∃u,f q=u:=⟨_,rfl⟩
   rw [hu] at c1' c2' hy
   obtain ⟨us,ug,ul,uc⟩:=u
   simp only at c1' c2' hy
   have HU:=aa hu
   clear hq hq1 hq2 hu c1 c2
   gi_wp2
   refine hR.mono ?_
   rintro e W3 (⟨rfl,hJ3,hk3⟩ | ⟨rfl,hJx3⟩)
   ·gi_wp2
    go_roundw
    case rel =>
     have e1:=HQ.out
     refine ⟨k+1,by omega,?_,by rw [gz,HQ1.out];exact hJ3,hnx.trans hk3⟩
     congr 1
     omega
    case measure=>simp [intOf]
   ·gi_wp2
    refine bodyPost_ret (results_none rfl _ _ _) rfl ?_
    exact ⟨⟨_,rfl⟩, .inr ⟨_,⟨k+1,by omega,by rw [gz,HQ1.out]⟩,hJx3⟩⟩
  ·obtain rfl:k=len:=by omega
   have e1:(k:Int) - 1 - k = -1:=by omega
   rw [e1]
   clear e1
   gi_wp2
   go_end0
   exact ⟨⟨_,rfl⟩, .inl ⟨_,rfl,hJs⟩⟩


theorem oV (F:Fence) (n:Nat) (h7:F.fn 280) (hro:F.round=none) (l Bs cap:Nat) (A:Option Addr) (J:List (Nat × El12)->World->Prop)
  (W:World) (hBs:W.cell? ⟨Bs,0,none⟩=some (.slice A 0 cap)) (h0:J [] W) :
  CallsIn F n Tryz.prog 280 #[.func (.yield l) #[] #[], .pointer (some ⟨Bs,0,none⟩)] W fun e W'=>(∃v,e = .returned v)/\J [] W':=by
 refine callsIn_of_wp Tryz.func280 rfl h7 ?_ hro
 simp only [Tryz.ntmps280,List.size_toArray,List.length_cons,List.length_nil,Nat.reduceAdd,Nat.reduceSub,Array.replicate_succ,Array.replicate_zero,List.push_toArray,List.append_toArray,List.nil_append,List.cons_append]
 gi_wp2
 gi_loopw [3] (fun i wr=>i = .int .i64 (-1)/\J [] wr) (fun _ _=>0)
 case atStart=>exact ⟨rfl,h0⟩
 case round =>
  obtain ⟨rfl,hJs⟩:=hrel
  gi_wp2
  go_end0
  exact ⟨⟨_,rfl⟩,hJs⟩

theorem qG (F:Fence) (n:Nat) (h5:F.fn 220) (hro:F.round=none) (a:Option Addr) (len cap:Nat) (w:World) :
  CallsIn F n Tryz.prog 220 #[.slice a len cap] w fun e w'=>e = .returned (.func (.func 280) #[] #[.pointer (some ⟨w.heap.size,0,none⟩)])/\w'=w.alloc (.cells #[.slice a len cap] 133):=by
 refine callsIn_of_wp Tryz.func220 rfl h5 ?_ hro
 simp only [Tryz.ntmps220,List.size_toArray,List.length_cons,List.length_nil,Nat.reduceAdd,Nat.reduceSub,Array.replicate_succ,Array.replicate_zero,List.push_toArray,List.append_toArray,List.nil_append,List.cons_append]
 gi_wp2
 go_ret
 exact ⟨rfl,rfl⟩

theorem tJ (F:Fence) (n:Nat) (h7:F.fn 280) (hro:F.round=none) (hn:1<=n) (Bs n₀ len cap:Nat) (A:Option Addr) (f:Nat->El12) (hreach:len<=1000000) (w:World) (hBs:Bs<n₀) (hn₀:n₀<=w.heap.size)
  (hc:w.cell? ⟨Bs,0,none⟩=some (.slice A len cap))
  (hI:0<len->∃b off,A=some ⟨b,off,none⟩/\b<n₀/\∀j,j<len->w.cell? ⟨b,off+j * 2,none⟩=some (.int .i64 (f j).s)/\w.cell? ⟨b,off+j * 2+1,none⟩=some (.slice (some ⟨(f j).g,0,none⟩) (f j).l (f j).c)) :
  SeqStopsK F n Tryz.prog 280 #[.pointer (some ⟨Bs,0,none⟩)] rZ (Below n₀) (fun ys=>ys=de len f len) (fun pre=>∃k,k<=len/\pre=de len f k) len w:=fun l J Jx W hW _ _ hY h0=>by
 have hc':=(hW.cell (p:=⟨Bs,0,none⟩) (by show Bs<_;omega)).trans hc
 rcases Nat.eq_zero_or_pos len with rfl|hlen
 ·exact (oV F n h7 hro l Bs cap A J W hc' h0).mono fun e W' ⟨he,hj⟩=>⟨he, .inl ⟨_,rfl,hj⟩⟩
 ·obtain ⟨b,off,rfl,hb,hcs⟩:=hI hlen
  exact zP F n h7 hro hn l Bs n₀ b off len cap f hreach hb J Jx hY W hc' hBs (fun j hj=>⟨(hW.cell (p:=⟨b,off+j * 2,none⟩) (by show b<_;omega)).trans (hcs j hj).1,(hW.cell (p:=⟨b,off+j * 2+1,none⟩) (by show b<_;omega)).trans (hcs j hj).2⟩) h0
end Go.Proofs.YtnkjdijbfnmnhaaGreat
