/-
  Texts of this claim put together: Ld, Whole, Bslice.
-/
import Derived.Test.YtnkjdijbfnmnhaaGreatJ04
import Derived.Deep.WholeRow
import Derived.Deep.MidRow
import Derived.Laws.Tables

namespace Go.Proofs.YtnkjdijbfnmnhaaGreat
open Go.RowKit

theorem BoxAt.range {w:World} {g:Nat} {cs:Array Value} {t:TypeId} (h:BoxAt w g cs t):w.rangeAt g 0 cs.toList:=fun j v hv=>by
 rw [Nat.zero_add,h.cell j]
 simpa using hv

theorem yZ {P:Program} {w:World} {ops:Array Oper} {rest:List Oper} {o:Oper} {a:Act} {Q:Exit->Act->World->Prop} (hgd:Region.wanted o (yielded ops a.tmps)=true) (ty:TypeId) (x:Operand)
  (ho:o.op = .load ty x) (d:TypeDesc) (hu:P.underlying ty=some d) (hd:d.isRow=true) (n:Nat) (hi:(P.info? ty).map (·.size)=some n) {g:Nat} {cs:Array Value} {t:TypeId} (hb:BoxAt w g cs t) (hn:cs.size=n) (hx:a.eval x = .pointer (some ⟨g,0,none⟩))
  (h:wpList P ops Q rest (a.put o.dst (.agg cs)) w):wpList P ops Q (o::rest) a w:=by
 refine wpList_step fun _ hK => ?_
 rw [if_pos hgd]
 refine wp_load_mid ty x ho g 0 hx cs.toList d hb.range hu hd (by rw [hi];simp [hn]) (hK _ _ ?_)
 simpa using h

theorem od (w:World) (g:Nat) (cs:Array Value):w.grownBy (w.setRow g cs) (some g)/\(w.setRow g cs).heap.size=w.heap.size:=by
 have hs:(w.setRow g cs).heap.size=w.heap.size:=by simp [World.setRow]
 refine ⟨⟨rfl,rfl,rfl,by rw [hs];exact Nat.le_refl _,fun k hk hne => ?_⟩,hs⟩
 have hne':¬g=k:=fun e=>hne (by rw [e])
 simp [World.setRow,Array.getElem?_modify,hne']

theorem j8:(Tryz.prog.info? 31).map (·.size)=some 8:=by kernel_rfl


def splice (cs:Array Value) (i:Nat) (v:List Value):Array Value:=(cs.toList.take i++v++cs.toList.drop (i+v.length)).toArray
theorem Bh {cs:Array Value} {i:Nat} {v:List Value} (h:i+v.length<=cs.size):(splice cs i v).size=cs.size:=by
 simp [splice]
 omega
theorem sV (cs:Array Value) (i:Nat):splice cs i []=cs:=by simp [splice]
theorem pX {α:Type} (l:List α) (i:Nat) (u:α) (v:List α) (h:i<l.length):(l.set i u).take (i+1)++v++(l.set i u).drop (i+1+v.length)=l.take i++u::v++l.drop (i+(u::v).length):=by
 have e1:(l.set i u).take (i+1)=l.take i++[u]:=by
  rw [List.take_succ_eq_append_getElem (by simpa using h),List.take_set_of_le (Nat.le_refl _),List.getElem_set_self]
 have e2:(l.set i u).drop (i+1+v.length)=l.drop (i+(u::v).length):=by
  rw [List.drop_set_of_lt (by omega),List.length_cons]
  congr 1
  omega
 rw [e1,e2]
 simp
theorem pY (cs:Array Value) (i:Nat) (u:Value) (v:List Value) (h:i<cs.size):splice (cs.setIfInBounds i u) (i+1) v=splice cs i (u::v):=by
 unfold splice
 rw [Array.toList_setIfInBounds,pX _ _ _ _ (by simpa using h)]

theorem BoxAt.splice {g:Nat} {t:TypeId}:∀(v:List Value) (i:Nat) (w:World) (cs:Array Value),BoxAt w g cs t->i+v.length<=cs.size ->
  BoxAt (w.setCells g i v) g (splice cs i v) t/\w.grownBy (w.setCells g i v) (some g)/\(w.setCells g i v).heap.size=w.heap.size
 | [],i,w,cs,h,_=>by
  rw [sV]
  exact ⟨h,World.grownBy.refl _ _,rfl⟩
 | u::v,i,w,cs,h,hl=>by
  have hi:i+1+v.length<=cs.size:=by simpa [Nat.add_assoc,Nat.add_comm 1] using hl
  obtain ⟨h1,h2,h3⟩:=BoxAt.splice v (i+1) (w.setCell ⟨g,i,none⟩ u) (cs.setIfInBounds i u) (h.set9 i u) (by simpa using hi)
  rw [pY cs i u v (by omega)] at h1
  exact ⟨h1,ag (aE w g i u) h2,h3.trans (by simp [World.setCell])⟩

section
variable {P : Program} {w : World} {ops : Array Oper} {rest : List Oper} {o : Oper} {a : Act} {Q : Exit -> Act -> World -> Prop}

theorem aw (ty:TypeId) (hgd:Region.wanted o (yielded ops a.tmps)=true) (x:Operand)
  (ho:o.op = .box ty x) {V:Value} (hx:a.eval x=V) {cs:Array Value} (hV:V = .agg cs)
  (h:∀W,Hid (BoxAt W w.heap.size cs ty)->Hid (Below w.heap.size w W)->Hid (W.heap.size=w.heap.size+1)->wpList P ops Q rest (a.put o.dst (.pointer (some ⟨w.heap.size,0,none⟩))) W):wpList P ops Q (o::rest) a w:=by
 refine wpList_step fun _ hK => ?_
 rw [if_pos hgd]
 have h1:=h (w.alloc (.cells cs ty)) (aa (BoxAt.new _ _ _)) (aa ((Below.refl _ _).alloc (Nat.le_refl _) _)) (aa (by simp))
 subst hV
 unfold Oper.wp execOp
 simp only [ho,hx,Instr.box,newVar,newRow,Sem.run_bind,run_newObj_alloc,Sem.run_pure,Result.andThen_ok,Value.cells]
 exact hK _ _ h1

theorem aq (ty:TypeId) (hgd:Region.wanted o (yielded ops a.tmps)=true) (ho:o.op = .alloc ty) {cs:Array Value} {n:Nat} (hz:(P.info? ty).map (fun i=>(i.zero,i.size))=some (some (.agg cs),n))
  (h:∀W,Hid (BoxAt W w.heap.size cs ty)->Hid (Below w.heap.size w W)->Hid (W.heap.size=w.heap.size+1)->wpList P ops Q rest (a.put o.dst (.pointer (some ⟨w.heap.size,0,none⟩))) W):wpList P ops Q (o::rest) a w:=by
 refine wpList_step fun _ hK => ?_
 rw [if_pos hgd]
 have h1:=h (w.alloc (.cells cs ty)) (aa (BoxAt.new _ _ _)) (aa ((Below.refl _ _).alloc (Nat.le_refl _) _)) (aa (by simp))
 unfold Oper.wp execOp
 simp only [ho,Instr.alloc,newVar,newRow,Sem.run_bind,(zero_of_info hz).1,run_newObj_alloc,Sem.run_pure,Result.andThen_ok,Value.cells]
 exact hK _ _ h1

theorem ak (ty:TypeId) (hgd:Region.wanted o (yielded ops a.tmps)=true) (x:Operand) (ho:o.op = .load ty x) {n:Nat} (hi:(P.info? ty).map (·.size)=some n) (hu:∃d,P.underlying ty=some d/\d.isRow=true)
  {g:Nat} {cs:Array Value} {t:TypeId} (hb:BoxAt w g cs t) (hx:a.eval x = .pointer (some ⟨g,0,none⟩)) (hn:cs.size=n)
  (h:wpList P ops Q rest (a.put o.dst (.agg cs)) w):wpList P ops Q (o::rest) a w:=by
 obtain ⟨d,hu1,hu2⟩:=hu
 exact yZ hgd ty x ho d hu1 hu2 n hi hb hn hx h

theorem bi (ty:TypeId) (hgd:Region.wanted o (yielded ops a.tmps)=true) (x:Operand) (ho:o.op = .load ty x) {n:Nat} (hi:(P.info? ty).map (·.size)=some n) (hu:∃d,P.underlying ty=some d/\d.isRow=true)
  {g i:Nat} {cs mid:Array Value} {t:TypeId} (hb:BoxAt w g cs t) (hx:a.eval x = .pointer (some ⟨g,i,none⟩)) (hm:cs.extract i (i+n)=mid) (hn:mid.size=n)
  (h:wpList P ops Q rest (a.put o.dst (.agg mid)) w):wpList P ops Q (o::rest) a w:=by
 refine wpList_step fun _ hK => ?_
 rw [if_pos hgd]
 obtain ⟨d,hu1,hu2⟩:=hu
 refine wp_load_mid ty x ho g i hx mid.toList d ?_ hu1 hu2 (by rw [hi];simp [hn]) (hK _ _ (by simpa using h))
 rw [<- hm]
 exact World.rangeAt_of_block hb i n

theorem bu (ty:TypeId) (hgd:Region.wanted o (yielded ops a.tmps)=true) (x y:Operand) (ho:o.op = .store ty x y) {n:Nat} (hi:(P.info? ty).map (·.size)=some n)
  {g i:Nat} {V:Value} {cells:Array Value} (hx:a.eval x = .pointer (some ⟨g,i,none⟩)) (hy:a.eval y=V) (hV:V = .agg cells) (hn:cells.size=n) (h1:cells.all (·.oneCell')=true)
  {cs:Array Value} {t:TypeId} (hb:BoxAt w g cs t) (hl:i+n<=cs.size)
  (h:∀W,Hid (BoxAt W g (splice cs i cells.toList) t)->Hid (w.grownBy W (some g))->Hid (W.heap.size=w.heap.size)->wpList P ops Q rest (a.put o.dst undef) W):wpList P ops Q (o::rest) a w:=by
 refine wpList_step fun _ hK => ?_
 rw [if_pos hgd]
 subst hV hn
 obtain ⟨b1,b2,b3⟩:=BoxAt.splice cells.toList i w cs hb (by simpa using hl)
 refine wp_store_mid _ x y ho g i cells hx hy (fun j hj=>⟨?_,hb.free9 _⟩) hi h1 (hK _ _ (h _ (aa b1) (aa b2) (aa b3)))
 rw [hb.cell (i+j),Array.getElem?_eq_getElem (by omega)]
 rfl

theorem ai (ty:TypeId) (hgd:Region.wanted o (yielded ops a.tmps)=true) (x y:Operand) (ho:o.op = .store ty x y) {n:Nat} (hi:(P.info? ty).map (·.size)=some n)
  {g:Nat} {V:Value} (hx:a.eval x = .pointer (some ⟨g,0,none⟩)) (hy:a.eval y=V) {cs:Array Value} (hV:V = .agg cs) (hn:cs.size=n) (h1:cs.all (·.oneCell')=true)
  {old:Array Value} {t:TypeId} (hb:BoxAt w g old t) (hold:old.size=n)
  (h:∀W,Hid (BoxAt W g cs t)->Hid (w.grownBy W (some g))->Hid (W.heap.size=w.heap.size)->wpList P ops Q rest (a.put o.dst undef) W):wpList P ops Q (o::rest) a w:=by
 refine wpList_step fun _ hK => ?_
 rw [if_pos hgd]
 obtain ⟨hg,hs⟩:=od w g cs
 have h2:=h (w.setRow g cs) (aa (setRow_heap w g old cs t (0,0) hb)) (aa hg) (aa hs)
 subst hV
 exact wp_store_row _ x y ho g cs hx hy t old hb (by rw [hi,hn]) (by rw [hold,hn]) h1 (hK _ _ h2)

theorem gK (hgd:Region.wanted o (yielded ops a.tmps)=true) {V:Value} (hr:(execOp a.eval o).run P w = .ok (.value V) w) (h:wpList P ops Q rest (a.put o.dst V) w):wpList P ops Q (o::rest) a w:=by
 refine wpList_step fun _ hK => ?_
 rw [if_pos hgd]
 unfold Oper.wp
 rw [hr]
 exact hK _ _ h

theorem br (ty:TypeId) (parts:Array (Nat × Operand)) (ho:o.op = .build ty parts) (hgd:Region.wanted o (yielded ops a.tmps)=true) {V:Value} (hr:(Instr.build ty (parts.map fun (i,x)=>(i,a.eval x))).run P w = .ok V w) (h:wpList P ops Q rest (a.put o.dst V) w):wpList P ops Q (o::rest) a w:=by
 refine gK hgd ?_ h
 unfold execOp
 simp only [ho,Sem.run_bind,hr,Result.andThen_ok,Sem.run_pure]

theorem oe {ty:TypeId} {n:Nat} (hi:(P.info? ty).map (·.size)=some n) (hu:∃d,P.underlying ty=some d/\d.isRow=true) {g:Nat} {cs:Array Value} {t:TypeId} (hb:BoxAt w g cs t) (hn:cs.size=n) :
  (loadVar ty ⟨g,0,none⟩).run P w = .ok (.agg cs) w:=by
 obtain ⟨d,hu1,hu2⟩:=hu
 cases d with
 | struct fs=>exact run_loadVar_row w g t ty cs (0,0) _ hb hu1 rfl (by rw [hi,hn])
 | array k e=>exact run_loadVar_row w g t ty cs (0,0) _ hb hu1 rfl (by rw [hi,hn])
 | _=>exact absurd hu2 (by simp [TypeDesc.isRow])
theorem aD {fn:Func} {j:Nat} {ty:TypeId} {n:Nat} (hi:(P.info? ty).map (·.size)=some n) (hu:∃d,P.underlying ty=some d/\d.isRow=true) (hr:fn.results = #[.cell j ty]) {tmps:Array Value} {g:Nat} (ht:tmps.getD j undef = .pointer (some ⟨g,0,none⟩)) {cs:Array Value} {t:TypeId} (hb:BoxAt w g cs t) (hn:cs.size=n) :
  (results fn tmps).run P w = .ok (.agg cs) w:=by
 have ht':tmps[j]?.getD undef = .pointer (some ⟨g,0,none⟩):=by simpa using ht
 unfold results
 rw [hr]
 simp [ht',asAddr,oe hi hu hb hn]
theorem lr {fn:Func} {j k:Nat} {ty:TypeId} {n:Nat} (hi:(P.info? ty).map (·.size)=some n) (hu:∃d,P.underlying ty=some d/\d.isRow=true) (hr:fn.results = #[.cell j ty, .tmp k]) {tmps:Array Value} {g:Nat} (ht:tmps.getD j undef = .pointer (some ⟨g,0,none⟩)) {v:Value} (hv:tmps.getD k undef=v) {cs:Array Value} {t:TypeId} (hb:BoxAt w g cs t) (hn:cs.size=n) :
  (results fn tmps).run P w = .ok (.tuple #[.agg cs,v]) w:=by
 have ht':tmps[j]?.getD undef = .pointer (some ⟨g,0,none⟩):=by simpa using ht
 have hv':tmps[k]?.getD undef=v:=by simpa using hv
 unfold results
 rw [hr]
 simp [ht',hv',asAddr,oe hi hu hb hn]

theorem gL {S:World->Prop} (ty:TypeId) (hw:Region.wanted o (yielded ops a.tmps)=true) (x:Operand) (ho:o.op = .load ty x) {n:Nat} (hi:(P.info? ty).map (·.size)=some n) (hu:∃d,P.underlying ty=some d/\d.isRow=true) {V:Value} {cs:Array Value} (hV:V = .agg cs) {g:Nat} {t:TypeId}
  (hS:∀w,S w->BoxAt w g cs t) (hn:cs.size=n) (hx:a.eval x = .pointer (some ⟨g,0,none⟩)):YieldsIf P ops S o V a:=by
 subst hV
 obtain ⟨d,hu1,hu2⟩:=hu
 have h:=yieldsIf_load_mid (P:=P) (S:=S) hw _ x ho g 0 hx cs.toList d (fun w hs=>(hS w hs).range) hu1 hu2 (by rw [hi];simp [hn])
 simpa using h

theorem pZ {S:World->Prop} (ty:TypeId) (hw:Region.wanted o (yielded ops a.tmps)=true) (x:Operand) (ho:o.op = .load ty x) {n:Nat} (hi:(P.info? ty).map (·.size)=some n) (hu:∃d,P.underlying ty=some d/\d.isRow=true) {V:Value} {cs mid:Array Value} (hV:V = .agg mid) {g i:Nat} {t:TypeId}
  (hS:∀w,S w->BoxAt w g cs t) (hm:cs.extract i (i+n)=mid) (hn:mid.size=n) (hx:a.eval x = .pointer (some ⟨g,i,none⟩)):YieldsIf P ops S o V a:=by
 subst hV
 obtain ⟨d,hu1,hu2⟩:=hu
 have h:=yieldsIf_load_mid (P:=P) (S:=S) hw _ x ho g i hx mid.toList d (fun w hs=>by rw [<- hm];exact World.rangeAt_of_block (hS w hs) i n) hu1 hu2 (by rw [hi];simp [hn])
 simpa using h

theorem vE {K:Act->World->Prop} {E:Prop} (ty:TypeId) (hgd:Region.wanted o (yielded ops a.tmps)=true) (x:Operand) (ho:o.op = .load ty x) {n:Nat} (hi:(P.info? ty).map (·.size)=some n) (hu:∃d,P.underlying ty=some d/\d.isRow=true)
  {g:Nat} {cs:Array Value} {t:TypeId} (hb:BoxAt w g cs t) (hx:a.eval x = .pointer (some ⟨g,0,none⟩)) (hn:cs.size=n) (hK:K (a.put o.dst (.agg cs)) w):if Region.wanted o (yielded ops a.tmps)=true then Oper.wp P o a w K Q else E:=by
 rw [if_pos hgd]
 obtain ⟨d,hu1,hu2⟩:=hu
 refine wp_load_mid ty x ho g 0 hx cs.toList d hb.range hu1 hu2 (by rw [hi];simp [hn]) ?_
 simpa using hK
theorem cC {K:Act->World->Prop} {E:Prop} (ty:TypeId) (hgd:Region.wanted o (yielded ops a.tmps)=true) (x y:Operand) (ho:o.op = .store ty x y) {n:Nat} (hi:(P.info? ty).map (·.size)=some n)
  {g:Nat} {V:Value} (hx:a.eval x = .pointer (some ⟨g,0,none⟩)) (hy:a.eval y=V) {cs:Array Value} (hV:V = .agg cs) (hn:cs.size=n) (h1:cs.all (·.oneCell')=true)
  {old:Array Value} {t:TypeId} (hb:BoxAt w g old t) (hold:old.size=n)
  (hK:∀W,Hid (BoxAt W g cs t)->Hid (w.grownBy W (some g))->Hid (W.heap.size=w.heap.size)->K a W) (hd:o.dst=none):if Region.wanted o (yielded ops a.tmps)=true then Oper.wp P o a w K Q else E:=by
 rw [if_pos hgd]
 obtain ⟨hg,hs⟩:=od w g cs
 have hK:=fun W h1 h2 h3=>show K (a.put o.dst undef) W from by rw [hd];exact hK W h1 h2 h3
 subst hV
 exact wp_store_row _ x y ho g cs hx hy t old hb (by rw [hi,hn]) (by rw [hold,hn]) h1 (hK (w.setRow g cs) (aa (setRow_heap w g old cs t (0,0) hb)) (aa hg) (aa hs))
theorem j9 {K:Act->World->Prop} {E:Prop} (ty:TypeId) (hgd:Region.wanted o (yielded ops a.tmps)=true) (x y:Operand) (ho:o.op = .store ty x y) {n:Nat} (hi:(P.info? ty).map (·.size)=some n)
  {g i:Nat} {V:Value} {cells:Array Value} (hx:a.eval x = .pointer (some ⟨g,i,none⟩)) (hy:a.eval y=V) (hV:V = .agg cells) (hn:cells.size=n) (h1:cells.all (·.oneCell')=true)
  {cs:Array Value} {t:TypeId} (hb:BoxAt w g cs t) (hl:i+n<=cs.size)
  (hK:∀W,Hid (BoxAt W g (splice cs i cells.toList) t)->Hid (w.grownBy W (some g))->Hid (W.heap.size=w.heap.size)->K a W) (hd:o.dst=none):if Region.wanted o (yielded ops a.tmps)=true then Oper.wp P o a w K Q else E:=by
 rw [if_pos hgd]
 have hK:=fun W h1 h2 h3=>show K (a.put o.dst undef) W from by rw [hd];exact hK W h1 h2 h3
 subst hV hn
 obtain ⟨b1,b2,b3⟩:=BoxAt.splice cells.toList i w cs hb (by simpa using hl)
 refine wp_store_mid _ x y ho g i cells hx hy (fun j hj=>⟨?_,hb.free9 _⟩) hi h1 (hK _ (aa b1) (aa b2) (aa b3))
 rw [hb.cell (i+j),Array.getElem?_eq_getElem (by omega)]
 rfl
end

section
variable {P : Program} {w : World} {ops : Array Oper} {rest : List Oper} {o : Oper} {a : Act} {Q : Exit -> Act -> World -> Prop}

theorem dP (ty:TypeId) (n:Nat) (parts:Array (Nat × Operand)) (ho:o.op = .buildSlice ty n parts) (hgd:Region.wanted o (yielded ops a.tmps)=true) (vals:Array (Nat × Value)) (hp:(parts.map fun (i,x)=>(i,a.eval x))=vals) {V:Value} {W:World} (hr:(Instr.buildSlice ty n vals).run P w = .ok V W) (h:wpList P ops Q rest (a.put o.dst V) W):wpList P ops Q (o::rest) a w:=by
 subst hp
 refine wpList_step fun _ hK => ?_
 rw [if_pos hgd]
 unfold Oper.wp execOp
 simp only [ho,Sem.run_bind,hr,Result.andThen_ok,Sem.run_pure]
 exact hK _ _ h
end
end Go.Proofs.YtnkjdijbfnmnhaaGreat
