/-
  Texts of this claim put together: Sum.
-/
import Derived.Test.YtnkjdijbfnmnhaaGreatRows
import Derived.Test.YtnkjdijbfnmnhaaGreatJ04
import Derived.Test.YtnkjdijbfnmnhaaGreatJ00
import Derived.WalkKit

namespace Go.Proofs.YtnkjdijbfnmnhaaGreat
open Go.RowKit

theorem uG {a b:Int} (h:a=b):Ending.returned (.int .u32 a) = .returned (.int .u32 b):=by rw [h]
theorem uH {a b:Int} (h:a=b):Value.int .u32 a = .int .u32 b:=by rw [h]

theorem uJ (x:Nat) (w:World) (hx:x<4294967296) :
  Calls Tryz.prog 354 #[.int .u32 x] w fun e w'=>e = .returned (.int .u32 (bit1 x:Nat))/\w=w':=by
 by_cases h:x % 2=1
 ·have H:=aa h
  have h1:(x:Int) % 2=1:=by omega
  go_enter Tryz.func354,Tryz.ntmps354
  go_wp2
  go_ret
  refine ⟨uG ?_,rfl⟩
  have e:=u32_xor ((x:Int) / 2) 3988292384 (by omega) (by omega) (by omega) (by omega)
  have e2:((x:Int) / 2).toNat=x / 2:=by omega
  rw [e,e2]
  unfold bit1
  rw [if_pos H.out]
  rfl
 ·have h1:(x:Int) % 2=0:=by omega
  go_enter Tryz.func354,Tryz.ntmps354
  go_wp2
  go_ret
  exact ⟨uG (by unfold bit1;rw [if_neg h];omega),rfl⟩

def tabL (k:Nat):List Value:=(List.range 16).map fun j=>if j<k then .int .u32 (bitsN 4 j:Nat) else .int .u32 0
theorem gm (k:Nat):(tabL k).length=16:=by simp [tabL]
theorem nQ (k:Nat):(tabL k).toArray.size=16:=by simp [tabL]
theorem lW (k j:Nat) (h:j<16):(tabL k)[j]?=some (if j<k then .int .u32 (bitsN 4 j:Nat) else .int .u32 0):=by simp [tabL,h]
theorem uK (k:Nat):(tabL k).toArray.setIfInBounds k (.int .u32 (bitsN 4 k:Nat))=(tabL (k+1)).toArray:=by
 apply Array.ext_getElem?
 intro j
 rw [Array.getElem?_setIfInBounds]
 simp only [List.getElem?_toArray,List.size_toArray,gm]
 by_cases hj:j<16
 ·rw [lW k j hj,lW (k+1) j hj]
  by_cases hk:k=j
  ·subst hk
   rw [if_pos rfl,if_pos hj,if_pos (by omega)]
  ·rw [if_neg hk]
   by_cases h2:j<k
   ·rw [if_pos h2,if_pos (by omega)]
   ·rw [if_neg h2,if_neg (by omega)]
 ·have e1:(tabL k)[j]?=none:=List.getElem?_eq_none (by rw [gm];omega)
  have e2:(tabL (k+1))[j]?=none:=List.getElem?_eq_none (by rw [gm];omega)
  rw [e1,e2]
  split
  ·rw [if_neg (by omega)]
  ·rfl
theorem rf (k:Nat):(tabL k).toArray.all (·.oneCell')=true:=by
 rw [Array.all_eq_true]
 intro i hi
 simp [tabL] at hi ⊢
 split <;> rfl

def tab:Array Value:=(tabL 16).toArray
theorem fD:tab.size=16:=nQ 16

theorem jO:Tryz.prog.underlying 421=some (.array 16 47):=by kernel_rfl
theorem fE:(Tryz.prog.info? 421).map (·.size)=some 16:=by kernel_rfl

theorem lX (w:World) :
  Calls Tryz.prog 352 #[] w fun e w'=>e = .returned (.agg tab)/\Below w.heap.size w w':=by
 go_enter Tryz.func352,Tryz.ntmps352
 go_wp2
 go_loopw [4] (fun i wr=>∃k:Nat,k<=16/\i = .int .i64 k/\Hid (wr.heap[w.heap.size]?=some (.cells (tabL 0).toArray 421 (0,0)))/\Hid (wr.heap[w.heap.size+1]?=some (.cells (tabL k).toArray 421 (0,0)))/\Below w.heap.size w wr) (fun i _=>16 - (intOf i).toNat)
 case atStart=>exact ⟨0,by omega,rfl,heap_alloc2_old w _ _,heap_alloc2_new w _ _,((Below.refl _ _).alloc (Nat.le_refl _) _).alloc (by simp) _⟩
 case round =>
  obtain ⟨k,hk,rfl,H0,H1,hb⟩:=hrel
  have hz:=hb.size
  by_cases hlt:k<16
  ·have hd:decide ((k:Int)<16)=true:=decide_eq_true (by omega)
   have h0:(0:Int)<=k:=by omega
   have h16:(k:Int)<16:=by omega
   go_wp2
   go_loop [3,9] (fun r i=>∃j:Nat,j<=4/\i = .int .i64 j/\r = .int .u32 (bitsN j k:Nat)) (fun _ i=>4 - (intOf i).toNat)
   case atStart=>exact ⟨0,by omega,rfl,rfl⟩
   case round =>
    obtain ⟨j,hj,rfl,rfl⟩:=hrel
    by_cases hjl:j<4
    ·go_wp2_with fail
     refine (uJ (bitsN j k) _ (fw j k (by omega))).mono ?_
     rintro e w1 ⟨rfl,rfl⟩
     go_wp2
     go_round
     case rel=>exact ⟨j+1,by omega,by go_num,rfl⟩
     case measure=>simp [intOf];omega
    ·obtain rfl:j=4:=by omega
     have hcell:=cell_of_row wr (w.heap.size+1) k _ _ _ H1.out
     have hs:(tabL k).toArray[k]?=some (.int .u32 0):=by simp [tabL,hlt]
     rw [hs] at hcell
     have hfr:wr.frozen? ⟨w.heap.size+1,k,none⟩=false:=by simp [World.frozen?,H1.out]
     have H2:=aU k (.int .u32 (bitsN 4 k:Nat)) H1.out
     rw [uK] at H2
     have H3:Hid ((wr.setCell ⟨w.heap.size+1,k,none⟩ (.int .u32 (bitsN 4 k:Nat))).heap[w.heap.size]?=some (.cells (tabL 0).toArray 421 (0,0))):=(Below.heap_setCell wr _ _ _ (by simp)).trans H0.out
     have H4:=aa H2
     clear H2 hs
     go_wp2
     go_roundw
     case rel=>exact ⟨k+1,by omega,by go_num,H3,H4,hb.setCell (by simp) _⟩
     case measure=>simp [intOf];omega
  ·obtain rfl:k=16:=by omega
   go_wp2_with (first|(refine wpList_load_row rfl 421 (.tmp 1) rfl (w.heap.size+1) rfl 421 tab (0,0) _ H1.out jO rfl (by rw [fD];exact fE) ?_)|(refine wpList_store_row rfl 421 (.tmp 0) (.tmp 18) rfl w.heap.size tab rfl rfl 421 (tabL 0).toArray H0.out (by rw [fD];exact fE) (by rw [nQ,fD]) (rf 16) ?_))
   have hr:=results_cell_row (P:=Tryz.prog) (fn:=Tryz.f352) rfl
   refine bodyPost_ret (v := .agg tab) (hr _ _ w.heap.size 421 tab (0,0) _ rfl (setRow_heap wr w.heap.size _ _ 421 _ H0.out) jO rfl (by rw [fD];exact fE)) rfl ⟨rfl,below_setRow hb (Nat.le_refl _) _⟩

theorem EE (s:Nat) (h:s<4294967296):bits .xor .u32 4294967295 (s:Int)=((4294967295 - s:Nat):Int):=by
 have:=u32_xor_nat 4294967295 s (by omega) h
 rw [t9 h] at this
 exact this
theorem Ae (s:Nat) (h:s<4294967296):bits .xor .u32 IntKind.u32.max (s:Int)=((4294967295 - s:Nat):Int):=EE s h

theorem yt (j:Nat) (h:j<16):tab[j]?=some (.int .u32 (bitsN 4 j:Nat)):=by
 unfold tab
 rw [List.getElem?_toArray,lW 16 j h,if_pos h]
theorem sI (l:List UInt8) (k:Nat) (h:k<l.length):l.take (k+1)=l.take k++[l[k]]:=by
 rw [List.take_succ_eq_append_getElem h]

theorem yu (s:Nat) (l:List UInt8) (B:Nat) (A:Option Addr) (n c:Nat) (w:World) (hn:l.length=n) (hs:s<4294967296) (hm:n<=maxLen) (h:Sees w B A (bv l)) (hB:B<=w.heap.size) :
  Calls Tryz.prog 342 #[.int .u32 s, .slice A n c] w fun e w'=>e = .returned (.int .u32 (4294967295 - crcR (4294967295 - s) l:Nat))/\Below w.heap.size w w':=by
 unfold maxLen at hm
 subst hn
 have HS:=aa hs
 have hnot:=Ae s hs
 have hsg:IntKind.u32.signed=false:=rfl
 clear hs
 go_enter Tryz.func342,Tryz.ntmps342
 go_wp2_with fail
 refine (lX _).mono ?_
 rintro e w1 ⟨rfl,hb1⟩
 have hz1:=hb1.size
 go_wp2_with (refine wpList_store_row rfl 421 (.tmp 5) (.tmp 9) rfl w1.heap.size tab rfl rfl 421 _ (heap_alloc_new w1 _) (by rw [fD];exact fE) (by rw [fD];rfl) (rf 16) ?_)
 have hbW:=below_setRow ((Below.refl w1.heap.size w1).alloc (Nat.le_refl _) (.cells #[.int .u32 0, .int .u32 0, .int .u32 0, .int .u32 0, .int .u32 0, .int .u32 0, .int .u32 0, .int .u32 0, .int .u32 0, .int .u32 0, .int .u32 0, .int .u32 0, .int .u32 0, .int .u32 0, .int .u32 0, .int .u32 0] 421)) (Nat.le_refl _) tab
 have hgW:=setRow_heap _ _ _ tab _ _ (heap_alloc_new w1 (.cells #[.int .u32 0, .int .u32 0, .int .u32 0, .int .u32 0, .int .u32 0, .int .u32 0, .int .u32 0, .int .u32 0, .int .u32 0, .int .u32 0, .int .u32 0, .int .u32 0, .int .u32 0, .int .u32 0, .int .u32 0, .int .u32 0] 421))
 generalize World.setRow _ w1.heap.size tab=W at hbW hgW ⊢
 have hb:Below w.heap.size w W:=hb1.trans (hbW.mono hz1)
 have h2:=h.below (hb.mono hB)
 have HG:=aa hgW
 clear hgW hbW h
 go_loop [6,14] (fun r i=>∃k:Nat,k<=l.length/\i = .int .i64 k/\r = .int .u32 (crcR (4294967295 - s) (l.take k):Nat)) (fun _ i=>l.length - (intOf i).toNat)
 case atStart=>exact ⟨0,by omega,rfl,rfl⟩
 case round =>
  obtain ⟨k,hk,rfl,rfl⟩:=hrel
  by_cases hlt:k<l.length
  ·have hj:(bv l)[k]?=some (.int .u8 (l[k].toNat:Int)):=by rw [bv_getElem?,List.getElem?_eq_getElem hlt];rfl
   obtain ⟨ad,rfl,hab,hcell⟩:=h2 (by rw [bv_length];omega)
   have hck:=hcell k _ hj
   clear hj hcell
   have hbt:=l[k].toNat_lt
   go_wp2
   have hR:=ie (l.take k) (4294967295 - s) (by omega)
   go_loop [6,22] (fun r i=>∃j:Nat,j<=2/\i = .int .i64 j/\r = .int .u32 (bitsN (4 * j) (crcR (4294967295 - s) (l.take k) ^^^ l[k].toNat):Nat)) (fun _ i=>2 - (intOf i).toNat)
   case atStart =>
    exact ⟨0,by omega,rfl,uH (u32_xor_nat _ _ hR (by omega))⟩
   case round =>
    obtain ⟨j,hj,rfl,rfl⟩:=hrel
    have hx:=fw (4 * j) _ (k6 hR (show l[k].toNat<4294967296 by omega))
    by_cases hj2:j<2
    ·have hm:=yt (bitsN (4 * j) (crcR (4294967295 - s) (l.take k) ^^^ l[k].toNat) % 16) (by omega)
     have h4:=Ez (bitsN (4 * j) (crcR (4294967295 - s) (l.take k) ^^^ l[k].toNat))
     rw [bitsN_add,show 4+4 * j=4 * (j+1) by omega] at h4
     have H4:=aa h4
     clear h4
     generalize bitsN (4 * j) (crcR (4294967295 - s) (l.take k) ^^^ l[k].toNat)=x at hm H4 hx ⊢
     have hcx:=cell_of_row W w1.heap.size (x % 16) _ _ _ HG.out
     rw [hm] at hcx
     clear hm
     have i0:(0:Int)<=((x % 16:Nat):Int):=by omega
     have i1:((x % 16:Nat):Int)<16:=by omega
     go_wp2
     go_round
     case rel =>
      refine ⟨j+1,by omega,by go_num,uH ?_⟩
      rw [H4.out]
      exact u32_xor_nat (x / 16) _ (by omega) (fw 4 _ (by omega))
     case measure=>simp [intOf];omega
    ·obtain rfl:j=2:=by omega
     go_wp2
     go_round
     case rel=>exact ⟨k+1,by omega,by go_num,by rw [sI l k hlt,t6];rfl⟩
     case measure=>simp [intOf];omega
  ·obtain rfl:k=l.length:=by omega
   have hR:=ie l (4294967295 - s) (by omega)
   have hn2:=Ae _ hR
   have ht:l.take l.length=l:=List.take_length
   rw [ht]
   clear ht
   go_wp2
   go_ret
   exact ⟨rfl,hb⟩

theorem CY (l:List UInt8) (B:Nat) (A:Option Addr) (n c:Nat) (w:World) (hn:l.length=n) (hm:n<=maxLen) (h:Sees w B A (bv l)) (hB:B<=w.heap.size) :
  Calls Tryz.prog 326 #[.slice A n c] w fun e w'=>e = .returned (.int .u32 (crc l:Nat))/\Below w.heap.size w w':=by
 go_enter Tryz.func326,Tryz.ntmps326
 go_wp2_with fail
 refine (yu 0 l B A n c _ hn (by omega) hm h hB).mono ?_
 rintro e w1 ⟨rfl,hb1⟩
 go_wp2
 go_ret
 exact ⟨rfl,hb1⟩

end Go.Proofs.YtnkjdijbfnmnhaaGreat
