/-
  Texts of this claim put together: App2.
-/
import Derived.Test.YtnkjdijbfnmnhaaGreatJ14
import Derived.Test.YtnkjdijbfnmnhaaGreatJ15
import Derived.WalkSpells

namespace Go.Proofs.YtnkjdijbfnmnhaaGreat
open Go.RowKit

theorem rq:(Tryz.prog.info? 2).map (fun i=>(i.zero,i.size,i.bytes))=some (some (.int .i64 0),1,8):=by kernel_rfl
theorem Dc (l:List Int):∀u∈iv l,u.oneCell'=true:=by
 intro u hu
 simp only [iv,List.mem_map] at hu
 obtain ⟨x,_,rfl⟩:=hu
 rfl
theorem De (l m:List Int):iv (l++m)=iv l++iv m:=by simp [iv]

def AY (t:Int × Int × Int):List Value:=[.int .u64 0, .int .u8 t.1, .int .i64 t.2.1, .int .i64 t.2.2]
def cv (l:List (Int × Int × Int)):List Value:=l.flatMap AY
theorem Df (l m:List (Int × Int × Int)):cv (l++m)=cv l++cv m:=by simp [cv]
theorem Dg (l:List (Int × Int × Int)):(cv l).length=l.length * 4:=eC (cs:=AY) (q:=4) (fun _=>rfl) l
theorem nZ:(Tryz.prog.info? 108).map (fun i=>(i.zero,i.size,i.bytes))=some (some (.agg #[.int .u64 0, .int .u8 0, .int .i64 0, .int .i64 0]),4,32):=by kernel_rfl

set_option maxRecDepth 100000 in
theorem n6 (vars:List Int) (V:Option Addr) (m k:Nat) (B:Nat) (w:World) (hm:vars.length=m) (hm2:m<=100000) (hs:Sees w B V (iv vars)) (hB:B<=w.heap.size) :
  Calls Tryz.prog 98 #[.slice V m k] w fun e w'=>∃A c,e = .returned (.slice A m c)/\w'.ownsRow w.heap.size 2 1 (.slice A m c) m (iv vars)/\Below w.heap.size w w':=by
 have q22:∀(w:World) (a:Option Addr) (n c n' c':Nat),(binOp .eql 26 (.slice a n c) (.slice none n' c')).run Tryz.prog w = .ok (.bool a.isNone) w:=fun w a n c n' c'=>Lib.run_eql_slice_nil w _ _ a n c n' c' Tryz.underlying26
 rcases V with _|ad
 ·have h0:vars=[]:=by
   rcases vars with _ | ⟨x,l⟩
   ·rfl
   ·obtain ⟨ad,h',_⟩:=hs (by simp [iv])
    cases h'
  subst h0
  simp at hm
  subst hm
  go_enter Tryz.func98,Tryz.ntmps98
  go_wp2
  go_ret
  exact ⟨_,_,rfl,World.ownsRow_nil _ _ _ _,Below.refl _ _⟩
 ·have HS:=aa hs
  have HM:=aa hm
  clear hs hm
  go_enter Tryz.func98,Tryz.ntmps98
  have H1:=aa (World.ownsRow_lit (base:=w.heap.size) (e:=2) (size:=1) w #[] 0 (Nat.le_refl _) (by simp [maxLen]) (by simp))
  have H2:=aa (show (iv vars).length=m * 1 by rw [nX,HM.out];omega)
  have H3:=aa (HS.out.below ((Below.refl _ _).alloc hB (.cells #[] 2)))
  go_wp2_with (at_builtin;refine aF _ rfl _ _ 26 rfl w.heap.size 2 (.int .i64 0) 1 8 rq rfl (by omega) Tryz.underlying26 _ 0 [] rfl H1.out B (some ad) m k (iv vars) rfl H2.out H3.out (Dc vars) (by omega) (by omega) (by simp) m (by omega) (iv vars) rfl ?_;intro A c w1 hown hb)
  go_ret
  exact ⟨_,_,rfl,by assumption,(((Below.refl _ _).alloc (Nat.le_refl _) _).trans (by assumption))⟩
end Go.Proofs.YtnkjdijbfnmnhaaGreat
