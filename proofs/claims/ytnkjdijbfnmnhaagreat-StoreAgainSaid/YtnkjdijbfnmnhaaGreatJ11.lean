/-
  Texts of this claim put together: Clone8.
-/
import Derived.Test.YtnkjdijbfnmnhaaGreatJ04
import Derived.Laws.OwnMore
import Derived.WalkSpells

namespace Go.Proofs.YtnkjdijbfnmnhaaGreat
open Go.RowKit

set_option maxRecDepth 100000 in
theorem fF (l:List UInt8) (B:Nat) (A:Option Addr) (n c:Nat) (w:World) (hn:l.length=n) (hm:n<=100000) (hs:Sees w B A (bv l)) (hB:B<=w.heap.size) :
  Calls Tryz.prog 165 #[.slice A n c] w fun e w'=>∃A' c',e = .returned (.slice A' n c')/\w'.ownsRow w.heap.size 5 1 (.slice A' n c') n (bv l)/\Below w.heap.size w w':=by
 have q22:∀(w:World) (a:Option Addr) (n c n' c':Nat),(binOp .eql 50 (.slice a n c) (.slice none n' c')).run Tryz.prog w = .ok (.bool a.isNone) w:=fun w a n c n' c'=>Lib.run_eql_slice_nil w _ _ a n c n' c' Tryz.underlying50
 rcases A with _|ad
 ·have h0:l=[]:=by
   rcases l with _ | ⟨x,l⟩
   ·rfl
   ·obtain ⟨ad,h',_⟩:=hs (by simp [bv])
    cases h'
  subst h0
  simp at hn
  subst hn
  go_enter Tryz.func165,Tryz.ntmps165
  go_wp2
  go_ret
  exact ⟨_,_,rfl,World.ownsRow_nil _ _ _ _,Below.refl _ _⟩
 ·have HS:=aa hs
  have HM:=aa hn
  clear hs hn
  have H1:=aa (World.ownsRow_lit (base:=w.heap.size) (e:=5) (size:=1) w #[] 0 (Nat.le_refl _) (by simp [maxLen]) (by simp))
  have H2:=aa (show (bv l).length=n * 1 by rw [bv_length,HM.out];omega)
  have H3:=aa (HS.out.below ((Below.refl _ _).alloc hB (.cells #[] 5)))
  have HB1:=aa ((Below.refl w.heap.size w).alloc (Nat.le_refl _) (.cells #[] 5))
  go_enter Tryz.func165,Tryz.ntmps165
  go_wp2_with (at_builtin;refine aF _ rfl _ _ 50 rfl w.heap.size 5 (.int .u8 0) 1 1 bT rfl (by omega) Tryz.underlying50 _ 0 [] rfl H1.out B (some ad) n c (bv l) rfl H2.out H3.out (bD l) (by omega) (by omega) (by simp) n (by omega) (bv l) rfl ?_;intro A' c' w1 hown hb)
  go_ret
  exact ⟨_,_,rfl,by assumption,HB1.out.trans (by assumption)⟩
end Go.Proofs.YtnkjdijbfnmnhaaGreat
