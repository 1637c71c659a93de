/-
  Texts of this claim put together: Bal.
-/
import Derived.Test.YtnkjdijbfnmnhaaGreatJ04
import Derived.Deep.RegionHeld

namespace Go.Proofs.YtnkjdijbfnmnhaaGreat
open Go.RowKit

def cmpN (a b:Nat):Int:=if a<b then -1 else if b<a then 1 else 0
theorem AM {a b:Nat} (h:a<b):cmpN a b = -1:=by rw [cmpN,if_pos h]
theorem AN {a b:Nat} (h:b<a):cmpN a b=1:=by rw [cmpN,if_neg (by omega),if_pos h]
theorem AO (a:Nat):cmpN a a=0:=by rw [cmpN,if_neg (by omega),if_neg (by omega)]
theorem im (a b:Nat):(a<b/\cmpN a b = -1)∨(b<a/\cmpN a b=1)∨(a=b/\cmpN a b=0):=by
 rcases Nat.lt_trichotomy a b with h|rfl|h
 ·exact .inl ⟨h,AM h⟩
 ·exact .inr (.inr ⟨rfl,AO a⟩)
 ·exact .inr (.inl ⟨h,AN h⟩)

def cmpB (c n l c' n' l':Nat):Int:=if cmpN c c'≠0 then cmpN c c' else if cmpN n n'≠0 then cmpN n n' else cmpN l l'

def orL:List Int->Int
 | []=>0
 | x::xs=>if x=0 then orL xs else x
theorem AP (c n l c' n' l':Nat):orL [cmpN c c',cmpN n n',cmpN l l']=cmpB c n l c' n' l':=by
 simp only [orL,cmpB]
 by_cases h1:cmpN c c'=0 <;> by_cases h2:cmpN n n'=0 <;> by_cases h3:cmpN l l'=0 <;> simp [h1,h2,h3]

theorem uM (x:Int) (w:World):Calls Tryz.prog 318 #[.int .u64 x] w fun e w'=>e = .returned (.bool false)/\w=w':=by
 go_enter Tryz.func318,Tryz.ntmps318
 go_wp2
 go_ret
 exact ⟨rfl,rfl⟩

theorem yv (x:Int) (w:World):Calls Tryz.prog 252 #[.int .u8 x] w fun e w'=>e = .returned (.bool false)/\w=w':=by
 go_enter Tryz.func252,Tryz.ntmps252
 go_wp2
 go_ret
 exact ⟨rfl,rfl⟩

theorem uN (x:Int) (w:World):Calls Tryz.prog 319 #[.int .u32 x] w fun e w'=>e = .returned (.bool false)/\w=w':=by
 go_enter Tryz.func319,Tryz.ntmps319
 go_wp2
 go_ret
 exact ⟨rfl,rfl⟩

theorem lY {a b:Int} (h:a=b):Ending.returned (.int .i64 a) = .returned (.int .i64 b):=by rw [h]

theorem uO (a b:Nat) (w:World):Calls Tryz.prog 261 #[.int .u64 a, .int .u64 b] w fun e w'=>e = .returned (.int .i64 (cmpN a b))/\w=w':=by
 rcases im a b with ⟨h,e⟩ | ⟨h,e⟩ | ⟨rfl,e⟩
 all_goals
  rw [e]
  clear e
  go_enter Tryz.func261,Tryz.ntmps261
  go_wp2_with (refine (uM _ _).mono ?_;rintro e w1 ⟨rfl,rfl⟩)
  go_ret
  exact ⟨rfl,rfl⟩

theorem yw (a b:Nat) (w:World):Calls Tryz.prog 185 #[.int .u8 a, .int .u8 b] w fun e w'=>e = .returned (.int .i64 (cmpN a b))/\w=w':=by
 rcases im a b with ⟨h,e⟩ | ⟨h,e⟩ | ⟨rfl,e⟩
 all_goals
  rw [e]
  clear e
  go_enter Tryz.func185,Tryz.ntmps185
  go_wp2_with (refine (yv _ _).mono ?_;rintro e w1 ⟨rfl,rfl⟩)
  go_ret
  exact ⟨rfl,rfl⟩

theorem uP (a b:Nat) (w:World):Calls Tryz.prog 262 #[.int .u32 a, .int .u32 b] w fun e w'=>e = .returned (.int .i64 (cmpN a b))/\w=w':=by
 rcases im a b with ⟨h,e⟩ | ⟨h,e⟩ | ⟨rfl,e⟩
 all_goals
  rw [e]
  clear e
  go_enter Tryz.func262,Tryz.ntmps262
  go_wp2_with (refine (uN _ _).mono ?_;rintro e w1 ⟨rfl,rfl⟩)
  go_ret
  exact ⟨rfl,rfl⟩

def ivb (l:List Int):List Value:=l.map (Value.int .i64)
theorem Af (l:List Int) (j:Nat):(ivb l)[j]?=(l[j]?).map (Value.int .i64):=by simp [ivb]
theorem yx {l:List Int} {k:Nat} (hk:k<l.length):orL (l.drop k)=if l.getD k 0=0 then orL (l.drop (k+1)) else l.getD k 0:=by
 rw [List.drop_eq_getElem_cons hk,orL,List.getD_eq_getElem?_getD,List.getElem?_eq_getElem hk]
 rfl

theorem CZ (l:List Int) (n c g:Nat) (w:World) (hn:l.length=n) (hm:n<=1000) (hs:∀j:Nat,j<n->w.cell? ⟨g,j,none⟩=some (.int .i64 (l.getD j 0))) :
  Calls Tryz.prog 260 #[.slice (some ⟨g,0,none⟩) n c] w fun e w'=>e = .returned (.int .i64 (orL l))/\w=w':=by
 have HS:=aa hs
 have HN:=aa hn
 clear hs hn
 go_enter Tryz.func260,Tryz.ntmps260
 go_wp2
 go_loop [8] (fun i=>∃k:Nat,k<=n/\i = .int .i64 k/\Hid (orL (l.drop k)=orL l)) (fun i=>n - (intOf i).toNat)
 case atStart=>exact ⟨0,Nat.zero_le _,rfl,rfl⟩
 case round =>
  obtain ⟨k,hk,rfl,HE⟩:=hrel
  by_cases hlt:k<n
  ·have hc:=HS.out k hlt
   have hd:=yx (l:=l) (k:=k) (by rw [HN.out];exact hlt)
   obtain ⟨x,hx⟩:∃x,l.getD k 0=x:=⟨_,rfl⟩
   rw [hx] at hc hd
   by_cases h0:x=0
   ·subst h0
    rw [if_pos rfl] at hd
    have HD:=aa hd
    clear hd hx
    go_wp2
    go_round
    case rel=>exact ⟨k+1,by omega,by go_num,by show _=_;rw [<- HD.out];exact HE.out⟩
    case measure=>simp [intOf];omega
   ·rw [if_neg h0] at hd
    have HD:=aa hd
    have hb:(x == 0)=false:=beq_eq_false_iff_ne.2 h0
    have hb':(x != 0)=true:=by rw [bne_iff_ne];exact h0
    clear hd hx h0
    go_wp2
    go_ret
    exact ⟨lY (HD.out.symm.trans HE.out),rfl⟩
  ·go_wp2
   go_ret
   refine ⟨lY ?_,rfl⟩
   rw [<- HE.out,List.drop_of_length_le (by rw [HN.out];omega)]
   rfl

theorem yy (x y z:Int) (g:Nat) (w:World) (hg:w.heap.size=g) :
  Calls Tryz.prog 260 #[.slice (some ⟨g,0,none⟩) 3 3] (w.alloc (.cells #[.int .i64 x, .int .i64 y, .int .i64 z] 3)).drew fun e w' =>
   e = .returned (.int .i64 (orL [x,y,z]))/\(w.alloc (.cells #[.int .i64 x, .int .i64 y, .int .i64 z] 3)).drew=w':=by
 refine CZ [x,y,z] 3 3 g _ rfl (by omega) fun j hj => ?_
 rw [World.cell?_drew,cell_of_row _ g j _ _ _ (by rw [<- hg];exact heap_alloc_new w _)]
 match j,hj with
 | 0,_=>rfl
 | 1,_=>rfl
 | 2,_=>rfl

theorem pJ (c n l c' n' l':Nat) (w:World):Calls Tryz.prog 202 #[.agg #[.int .u64 c, .int .u8 n, .int .u32 l], .agg #[.int .u64 c', .int .u8 n', .int .u32 l']] w fun e w' =>
  e = .returned (.int .i64 (cmpB c n l c' n' l'))/\Below w.heap.size w w':=by
 have HO:=aa (AP c n l c' n' l')
 go_enter Tryz.func202,Tryz.ntmps202
 go_wp2
 go_region_held (fun w'=>w'.cell? ⟨w.heap.size,0,none⟩=some (.int .u64 c)/\w'.cell? ⟨w.heap.size,1,none⟩=some (.int .u8 n)/\w'.cell? ⟨w.heap.size,2,none⟩=some (.int .u32 l) /\
  w'.cell? ⟨w.heap.size+1,0,none⟩=some (.int .u64 c')/\w'.cell? ⟨w.heap.size+1,1,none⟩=some (.int .u8 n')/\w'.cell? ⟨w.heap.size+1,2,none⟩=some (.int .u32 l')) (go_keep)
  (first|(go_at_call 261;refine (uO _ _ _).mono ?_;rintro e w1 ⟨rfl,rfl⟩)|(go_at_call 185;refine (yw _ _ _).mono ?_;rintro e w1 ⟨rfl,rfl⟩)|(go_at_call 262;refine (uP _ _ _).mono ?_;rintro e w1 ⟨rfl,rfl⟩) |
   (go_at_call 260;refine (yy _ _ _ _ _ (by simp)).mono ?_;rintro e w1 ⟨rfl,rfl⟩))
 all_goals
  go_wp2
  go_ret
  exact ⟨lY HO.out,((((Below.refl _ _).alloc (Nat.le_refl _) _).alloc (by simp) _).alloc (by simp;omega) _).drew⟩

end Go.Proofs.YtnkjdijbfnmnhaaGreat
