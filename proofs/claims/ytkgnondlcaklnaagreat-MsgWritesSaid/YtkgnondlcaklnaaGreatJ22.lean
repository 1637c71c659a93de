/-
  Texts of this claim put together: Ld.
-/
import Derived.Test.YtkgnondlcaklnaaGreatJ03
import Derived.Deep.WholeRow
import Derived.Deep.MidRow
import Derived.Laws.Tables
/-
  A message in a block of its own is read and written as a whole: by one law each, whatever its cells.
-/
namespace Go.Proofs.YtkgnondlcaklnaaGreat
open Go.RowKit

theorem BoxAt.range {w : World} {g : Nat} {cs : Array Value} {t : TypeId} (h : BoxAt w g cs t) : w.rangeAt g 0 cs.toList := fun j v hv => by
  rw [Nat.zero_add, h.cell j]
  simpa using hv

theorem load_box {P : Program} {w : World} {ops : Array Oper} {rest : List Oper} {o : Oper} {a : Act} {Q : Exit → Act → World → Prop} (hgd : Region.wanted o (yielded ops a.tmps) = true) (ty : TypeId) (x : Operand)
    (ho : o.op = .load ty x) (d : TypeDesc) (hu : P.underlying ty = some d) (hd : d.isRow = true) (n : Nat) (hi : (P.info? ty).map (·.size) = some n) {g : Nat} {cs : Array Value} {t : TypeId} (hb : BoxAt w g cs t) (hn : cs.size = n) (hx : a.eval x = .pointer (some ⟨g, 0, none⟩))
    (h : wpList P ops Q rest (a.put o.dst (.agg cs)) w) : wpList P ops Q (o :: rest) a w := by
  refine wpList_step fun _ hK => ?_
  rw [if_pos hgd]
  refine wp_load_mid ty x ho g 0 hx cs.toList d hb.range hu hd (by rw [hi]; simp [hn]) (hK _ _ ?_)
  simpa using h

theorem msg_row : ∃ d, Tryz.prog.underlying 51 = some d ∧ d.isRow = true := ⟨_, Tryz.underlying51, rfl⟩
theorem msg_size : (Tryz.prog.info? 51).map (·.size) = some 24 := by kernel_rfl

/-- the walk's step: a message is read as a whole -/
theorem ld_msg {w : World} {ops : Array Oper} {rest : List Oper} {o : Oper} {a : Act} {Q : Exit → Act → World → Prop} (hgd : Region.wanted o (yielded ops a.tmps) = true) (x : Operand)
    (ho : o.op = .load 51 x) {g : Nat} {cs : Array Value} {t : TypeId} (hb : BoxAt w g cs t) (hn : cs.size = 24) (hx : a.eval x = .pointer (some ⟨g, 0, none⟩))
    (h : wpList Tryz.prog ops Q rest (a.put o.dst (.agg cs)) w) : wpList Tryz.prog ops Q (o :: rest) a w := by
  obtain ⟨d, hu, hd⟩ := msg_row
  exact load_box hgd _ x ho d hu hd 24 msg_size hb hn hx h

/-- the walk's step: a message is laid into a block of its own; the world behind it gets a name -/
theorem box_msg {w : World} {ops : Array Oper} {rest : List Oper} {o : Oper} {a : Act} {Q : Exit → Act → World → Prop} (hgd : Region.wanted o (yielded ops a.tmps) = true) (x : Operand)
    (ho : o.op = .box 51 x) {V : Value} (hx : a.eval x = V) {cs : Array Value} (hV : V = .agg cs)
    (h : ∀ W, Hid (BoxAt W w.heap.size cs 51) → Hid (Below w.heap.size w W) → Hid (W.heap.size = w.heap.size + 1) → wpList Tryz.prog ops Q rest (a.put o.dst (.pointer (some ⟨w.heap.size, 0, none⟩))) W) : wpList Tryz.prog ops Q (o :: rest) a w := by
  refine wpList_step fun _ hK => ?_
  rw [if_pos hgd]
  have h1 := h (w.alloc (.cells cs 51)) (hide_ (BoxAt.new _ _ _)) (hide_ ((Below.refl _ _).alloc (Nat.le_refl _) _)) (hide_ (by simp))
  subst hV
  unfold Oper.wp execOp
  simp only [ho, hx, Instr.box, newVar, newRow, Sem.run_bind, run_newObj_alloc, Sem.run_pure, Result.andThen_ok, Value.cells]
  exact hK _ _ h1

/-- a message in a block of its own, as a result -/
theorem run_ldmsg {w : World} {g : Nat} {cs : Array Value} {t : TypeId} (hb : BoxAt w g cs t) (hn : cs.size = 24) : (loadVar 51 ⟨g, 0, none⟩).run Tryz.prog w = .ok (.agg cs) w :=
  run_loadVar_row w g t _ cs (0, 0) _ hb Tryz.underlying51 rfl (by rw [msg_size, hn])

theorem row_grown (w : World) (g : Nat) (cs : Array Value) : w.grownBy (w.setRow g cs) (some g) ∧ (w.setRow g cs).heap.size = w.heap.size := by
  have hs : (w.setRow g cs).heap.size = w.heap.size := by simp [World.setRow]
  refine ⟨⟨rfl, rfl, rfl, by rw [hs]; exact Nat.le_refl _, fun k hk hne => ?_⟩, hs⟩
  have hne' : ¬ g = k := fun e => hne (by rw [e])
  simp [World.setRow, Array.getElem?_modify, hne']

/-- the walk's step: a message is written as a whole; the world behind it gets a name -/
theorem st_msg {w : World} {ops : Array Oper} {rest : List Oper} {o : Oper} {a : Act} {Q : Exit → Act → World → Prop} (hgd : Region.wanted o (yielded ops a.tmps) = true) (x y : Operand)
    (ho : o.op = .store 51 x y) {g : Nat} {V : Value} (hx : a.eval x = .pointer (some ⟨g, 0, none⟩)) (hy : a.eval y = V) {cs : Array Value} (hV : V = .agg cs) (hn : cs.size = 24) (h1 : cs.all (·.oneCell') = true)
    {old : Array Value} {t : TypeId} (hb : BoxAt w g old t) (hold : old.size = 24)
    (h : ∀ W, Hid (BoxAt W g cs t) → Hid (w.grownBy W (some g)) → Hid (W.heap.size = w.heap.size) → wpList Tryz.prog ops Q rest (a.put o.dst undef) W) : wpList Tryz.prog ops Q (o :: rest) a w := by
  refine wpList_step fun _ hK => ?_
  rw [if_pos hgd]
  obtain ⟨hg, hs⟩ := row_grown w g cs
  have h2 := h (w.setRow g cs) (hide_ (setRow_heap w g old cs t (0, 0) hb)) (hide_ hg) (hide_ hs)
  subst hV
  exact wp_store_row _ x y ho g cs hx hy t old hb (by rw [msg_size, hn]) (by rw [hold, hn]) h1 (hK _ _ h2)

theorem reg_size8 : (Tryz.prog.info? 31).map (·.size) = some 8 := by kernel_rfl

/-- the walk's step: a register is written into the middle of a block -/
theorem st_reg {w : World} {ops : Array Oper} {rest : List Oper} {o : Oper} {a : Act} {Q : Exit → Act → World → Prop} (hgd : Region.wanted o (yielded ops a.tmps) = true) (x y : Operand)
    (ho : o.op = .store 31 x y) {g i : Nat} {cells : Array Value} (hx : a.eval x = .pointer (some ⟨g, i, none⟩)) (hy : a.eval y = .agg cells) (hn : cells.size = 8) (h1 : cells.all (·.oneCell') = true)
    {cs : Array Value} {t : TypeId} (hb : BoxAt w g cs t) (hi : i + 8 ≤ cs.size)
    (h : ∀ W, Hid (w.setCells g i cells.toList = W) → wpList Tryz.prog ops Q rest (a.put o.dst undef) W) : wpList Tryz.prog ops Q (o :: rest) a w := by
  refine wpList_step fun _ hK => ?_
  rw [if_pos hgd]
  refine wp_store_mid _ x y ho g i cells hx hy (fun j hj => ⟨?_, hb.free9 _⟩) (by rw [reg_size8, hn]) h1 (hK _ _ (h _ (hide_ rfl)))
  rw [hb.cell (i + j), Array.getElem?_eq_getElem (by omega)]
  rfl

/-- a message in a block as the one result -/
theorem res_msg {fn : Func} {j : Nat} (hr : fn.results = #[.cell j 51]) {tmps : Array Value} {g : Nat} (ht : tmps.getD j undef = .pointer (some ⟨g, 0, none⟩)) {w : World} {cs : Array Value} {t : TypeId} (hb : BoxAt w g cs t) (hn : cs.size = 24) :
    (results fn tmps).run Tryz.prog w = .ok (.agg cs) w := by
  have ht' : tmps[j]?.getD undef = .pointer (some ⟨g, 0, none⟩) := by simpa using ht
  unfold results
  rw [hr]
  simp [ht', asAddr, run_ldmsg hb hn]
/-- a message in a block and a value as the two results -/
theorem res_msg2 {fn : Func} {j k : Nat} (hr : fn.results = #[.cell j 51, .tmp k]) {tmps : Array Value} {g : Nat} (ht : tmps.getD j undef = .pointer (some ⟨g, 0, none⟩)) {v : Value} (hv : tmps.getD k undef = v) {w : World} {cs : Array Value} {t : TypeId} (hb : BoxAt w g cs t) (hn : cs.size = 24) :
    (results fn tmps).run Tryz.prog w = .ok (.tuple #[.agg cs, v]) w := by
  have ht' : tmps[j]?.getD undef = .pointer (some ⟨g, 0, none⟩) := by simpa using ht
  have hv' : tmps[k]?.getD undef = v := by simpa using hv
  unfold results
  rw [hr]
  simp [ht', hv', asAddr, run_ldmsg hb hn]
end Go.Proofs.YtkgnondlcaklnaaGreat
