/-
  Texts of this claim put together: Short, JfStoreAgain.
-/
import Derived.WalkKit
import Derived.Deep.RegionHeld
import Derived.Test.YtnkjdijbfnmnhaaGreatRows
import Derived.Test.YtnkjdijbfnmnhaaGreatChecked
import Derived.JoinedOf

namespace Go.Proofs.YtnkjdijbfnmnhaaGreat
open Go.RowKit

theorem sT0 {α:Type} (a b:α) (l:List α):(a::l).set 0 b=b::l:=rfl
theorem sT1 {α:Type} (a b:α) (l:List α) (n:Nat):(a::l).set (n+1) b=a::l.set n b:=rfl
theorem sTI {α:Type} (l:List α) (i:Nat) (b:α):l.toArray.setIfInBounds i b=(l.set i b).toArray:=by simp

theorem tkU {P:Program} {ops:Array Oper} {Q:Exit->Act->World->Prop} {md:Region.Mode} {S:World->Prop} {fuel:Nat} {listed:Array Bool} {a:Act} {w:World} (i n:Nat) {p1 p2 p3 p4 p5}
  (hi:ops[i]?=some ⟨some n,p1,p2,p3,p4,p5⟩) (hS:S w) (h:wpAnyH P md ops Q S fuel (listed.setIfInBounds i true) (a.put (some n) undef) w)
  (hs:Region.noSelect ops=true:=by kernel_rfl) (hf:Region.free md ops listed i=true:=by kernel_rfl) (hr:(Region.ready md ops listed).contains i=true:=by kernel_rfl)
  (hQ:∀c a w,Q (.panic c) (a.put (some n) undef) w->Q (.panic c) a w:=by exact fun _ _ _ h=>h)
  (hy:Region.wanted ⟨some n,p1,p2,p3,p4,p5⟩ (yielded ops a.tmps)=false:=by rfl):wpAnyH P md ops Q S (fuel+1) listed a w :=
 wpAnyH_take (v:=undef) hi hs hf hr hQ (Or.inr ⟨hy,rfl⟩) hS h

theorem tkY {P:Program} {ops:Array Oper} {Q:Exit->Act->World->Prop} {md:Region.Mode} {S:World->Prop} {fuel:Nat} {listed:Array Bool} {a:Act} {w:World} (i n:Nat) (v:Value) {p1 p2 p3 p4 p5}
  (hi:ops[i]?=some ⟨some n,p1,p2,p3,p4,p5⟩) (hy:∀w,S w->(execOp a.eval ⟨some n,p1,p2,p3,p4,p5⟩).run P w = .ok (.value v) w) (hS:S w) (h:wpAnyH P md ops Q S fuel (listed.setIfInBounds i true) (a.put (some n) v) w)
  (hs:Region.noSelect ops=true:=by kernel_rfl) (hf:Region.free md ops listed i=true:=by kernel_rfl) (hr:(Region.ready md ops listed).contains i=true:=by kernel_rfl)
  (hQ:∀c a w,Q (.panic c) (a.put (some n) v) w->Q (.panic c) a w:=by exact fun _ _ _ h=>h)
  (hg:Region.wanted ⟨some n,p1,p2,p3,p4,p5⟩ (yielded ops a.tmps)=true:=by rfl):wpAnyH P md ops Q S (fuel+1) listed a w :=
 wpAnyH_take (v:=v) hi hs hf hr hQ (Or.inl ⟨hg,hy⟩) hS h

end Go.Proofs.YtnkjdijbfnmnhaaGreat

namespace Go.Proofs.YtnkjdijbfnmnhaaGreat.storeAgain
open Go.ChangeShapes Go.WideShapes Go.RowKit

theorem jf_laid:laidOutB Tryz.checked.prog=true:=by kernel_rfl

theorem jf_maps:mapsRowed Tryz.checked.prog=true:=by kernel_rfl

theorem jf_inpl:(Rows.storeAgainRow.inPlace == Tryz.checked.prog.inPlace 7)=true:=by kernel_rfl

theorem jf_unf:(Rows.storeAgainRow.unfollowed == Tryz.checked.prog.unfollowed 7)=true:=by kernel_rfl

theorem jf_rec:(Rows.storeAgainRow.recurses == Tryz.checked.prog.recurses 7)=true:=by kernel_rfl

theorem jf_named:(Rows.storeAgainRow.named == Tryz.checked.prog.varsNamed 7)=true:=by kernel_rfl

theorem jf_plain:(Rows.storeAgainRow.plainKeys == Tryz.checked.prog.plainKeys)=true:=by kernel_rfl

theorem jf_heard:Tryz.checked.prog.stopsHeard=true:=by kernel_rfl

theorem jf_enter:Tryz.checked.prog.mayEnter=true:=by kernel_rfl

theorem jf_lifts:(Rows.storeAgainRow.lifted == Tryz.checked.prog.liftsFinal)=true:=by kernel_rfl

theorem jf_mk:(Tryz.checked.prog.make == some Rows.storeAgainRow.make)=true:=by kernel_rfl

set_option maxRecDepth 100000 in
theorem closed:joinedFacts Tryz.checked.prog 7 Tryz.f7 Rows.storeAgainSpec Rows.storeAgainRow=true:=by
 unfold joinedFacts
 simp only [Bool.and_eq_true]
 repeat' apply And.intro
 all_goals first|with_reducible exact jf_laid|with_reducible exact jf_maps|with_reducible exact jf_inpl|with_reducible exact jf_unf|with_reducible exact jf_rec|with_reducible exact jf_named|with_reducible exact jf_plain|with_reducible exact jf_heard|with_reducible exact jf_enter|with_reducible exact jf_lifts|with_reducible exact jf_mk|kernel_rfl
end Go.Proofs.YtnkjdijbfnmnhaaGreat.storeAgain
