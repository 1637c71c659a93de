/-
  Walks of one goroutine that come to a send or a receive: the rules of control for ordinary calls, and the two communications on a channel with room, or closed. Nothing here speaks of a program.
-/
import Derived.WalkKit
import Derived.Conc.LoneCalls
namespace Go.Proofs.YtnkjdijbfnmnhaaGreat
open Go.RowKit Go.Conc

/-- what a piece of code comes to in a frame of an ordinary call -/
def wpN (P : Program) (c : Code) (Q : Exit → Act → World → Prop) (a : Act) (w : World) : Prop :=
  ∀ (b : Frame) (k : List Item) (cs : List Frame), b.kind ≠ .early → ∃ e a' w', Q e a' w' ∧ Arrives P (lone (b.at a (.code c :: k)) cs w) b k cs e a' w'

/-- the same inside a region -/
def wpNOps (P : Program) (ops : Array Oper) (Q : Exit → Act → World → Prop) (l : List Nat) (a : Act) (w : World) : Prop :=
  ∀ (b : Frame) (k : List Item) (cs : List Frame), b.kind ≠ .early → ∃ e a' w', Q e a' w' ∧ Arrives P (lone (b.at a (.inRegion ops l :: k)) cs w) b k cs e a' w'

section
variable {P : Program} {Q : Exit → Act → World → Prop} {a : Act} {w : World}

theorem wpN_of {c : Code} (h : c.wp P Q a w) : wpN P c Q a w := fun b k cs _ => h b k cs

theorem wpN_skip (h : Q .normal a w) : wpN P .skip Q a w := fun _ _ _ _ => ⟨.normal, a, w, h, .one step_skip⟩

theorem wpN_exit {id : Nat} (h : Q (.exit id) a w) : wpN P (.exit id) Q a w :=
  fun _ _ _ _ => ⟨.exit id, a, w, h, fun _ hk => .one (step_exit hk)⟩

theorem wpN_seq {x y : Code} (h : wpN P x (Exit.then (wpN P y Q) Q) a w) : wpN P (.seq x y) Q a w := by
  intro b k cs hb
  obtain ⟨e, a₁, w₁, hq, harr⟩ := h b (.code y :: k) cs hb
  cases e with
  | normal =>
    obtain ⟨e₂, a₂, w₂, hq₂, harr₂⟩ := hq b k cs hb
    exact ⟨e₂, a₂, w₂, hq₂, .of_steps (.head step_seq harr) harr₂⟩
  | exit id => exact ⟨_, a₁, w₁, hq, .of_steps (.one step_seq) (.pass (x := .code y) rfl (fun _ _ => .inl (by simp)) harr)⟩
  | goto l => exact ⟨_, a₁, w₁, hq, .of_steps (.one step_seq) (.pass (x := .code y) rfl (fun _ _ => .inl (by simp)) harr)⟩
  | ret => exact ⟨_, a₁, w₁, hq, .of_steps (.one step_seq) (.pass (x := .code y) rfl (fun _ _ => .inl (by simp)) harr)⟩
  | panic ch => exact ⟨_, a₁, w₁, hq, .of_steps (.one step_seq) (.pass (x := .code y) rfl (fun _ _ => .inl (by simp)) harr)⟩
  | outgrown => exact ⟨_, a₁, w₁, hq, .of_steps (.one step_seq) (.pass (x := .code y) rfl (fun _ _ => .inl (by simp)) harr)⟩

/-- what follows stands behind a letter -/
theorem wpN_seq_k {x y : Code} (h : ∀ K : Act → World → Prop, (∀ a w, wpN P y Q a w → K a w) → wpN P x (Exit.then K Q) a w) : wpN P (.seq x y) Q a w :=
  wpN_seq (h _ fun _ _ h => h)

/-- an ordinary piece ahead of the rest -/
theorem wpN_seq_o {x y : Code} (h : ∀ K : Act → World → Prop, (∀ a w, wpN P y Q a w → K a w) → x.wp P (Exit.then K Q) a w) : wpN P (.seq x y) Q a w :=
  wpN_seq_k fun K hK => wpN_of (h K hK)

theorem wpN_cond {c : Operand} {x y : Code} {t : Bool} (hc : a.eval c = .bool t) (h : wpN P (if t then x else y) Q a w) : wpN P (.cond c x y) Q a w :=
  fun b k cs hb => let ⟨e, a', w', q, r⟩ := h b k cs hb; ⟨e, a', w', q, .of_steps (.one (step_cond hc)) r⟩

/-- a loop's test: it goes on -/
theorem wpN_on {c : Operand} {id : Nat} {y : Code} (hc : a.eval c = .bool true) (h : wpN P y Q a w) : wpN P (.seq (.cond c .skip (.exit id)) y) Q a w :=
  wpN_seq (wpN_cond hc (wpN_skip h))
/-- a loop's test: it ends -/
theorem wpN_off {c : Operand} {id : Nat} {y : Code} (hc : a.eval c = .bool false) (h : Q (.exit id) a w) : wpN P (.seq (.cond c .skip (.exit id)) y) Q a w :=
  wpN_seq (wpN_cond hc (wpN_exit h))

theorem wpN_block {id : Nat} {c : Code} (h : wpN P c (Exit.inBlock id Q) a w) : wpN P (.block id c) Q a w := by
  intro b k cs hb
  obtain ⟨e, a₁, w₁, hq, harr⟩ := h b (.inBlock id :: k) cs hb
  cases e with
  | normal => exact ⟨.normal, a₁, w₁, hq, .head step_block (Steps.trans harr (.one step_inBlock))⟩
  | exit id' =>
    by_cases hid : id' = id
    · simp only [Exit.inBlock, hid, if_true] at hq
      exact ⟨.normal, a₁, w₁, hq, .head step_block (harr k (by simp [exitTo, hid]))⟩
    · simp only [Exit.inBlock, hid, if_false] at hq
      refine ⟨.exit id', a₁, w₁, hq, fun k' hk => .head step_block (harr k' ?_)⟩
      have : (id == id') = false := by simp; exact fun h => hid h.symm
      simp [exitTo, this, hk]
  | goto l => exact ⟨_, a₁, w₁, hq, fun k' hk => .head step_block (harr k' (by simp [gotoIn, hk]))⟩
  | ret => exact ⟨_, a₁, w₁, hq, .of_steps (.one step_block) harr⟩
  | panic ch => exact ⟨_, a₁, w₁, hq, .of_steps (.one step_block) harr⟩
  | outgrown => exact ⟨_, a₁, w₁, hq, .of_steps (b := b) (k := k) (cs := cs) (e := .outgrown) (.one step_block) harr⟩

/-- a loop of n rounds: what holds ahead of round j, and what the round at which it ends leaves -/
theorem wpN_loop {c : Code} (I : Nat → Act → World → Prop) (n : Nat) (h₀ : I 0 a w) (hlast : ∀ a w, I n a w → wpN P c (Exit.then (fun _ _ => False) Q) a w)
    (round : ∀ j a w, j < n → I j a w → wpN P c (Exit.then (I (j + 1)) Q) a w) : wpN P (.loop c) Q a w := by
  intro b k cs hb
  have key : ∀ m j a w, j + m = n → I j a w → ∃ e a' w', Q e a' w' ∧ Arrives P (lone (b.at a (.code c :: .inLoop c :: k)) cs w) b k cs e a' w' := by
    intro m
    induction m with
    | zero =>
      intro j a w hj hI
      obtain rfl : j = n := by omega
      obtain ⟨e, a₁, w₁, hq, harr⟩ := hlast a w hI b (.inLoop c :: k) cs hb
      cases e with
      | normal => exact hq.elim
      | exit id => exact ⟨_, a₁, w₁, hq, .pass (x := .inLoop c) rfl (fun _ _ => .inl (by simp)) harr⟩
      | goto l => exact ⟨_, a₁, w₁, hq, .pass (x := .inLoop c) rfl (fun _ _ => .inl (by simp)) harr⟩
      | ret => exact ⟨_, a₁, w₁, hq, .pass (x := .inLoop c) rfl (fun _ _ => .inl (by simp)) harr⟩
      | panic ch => exact ⟨_, a₁, w₁, hq, .pass (x := .inLoop c) rfl (fun _ _ => .inl (by simp)) harr⟩
      | outgrown => exact ⟨_, a₁, w₁, hq, .pass (x := .inLoop c) rfl (fun _ _ => .inl (by simp)) harr⟩
    | succ m ih =>
      intro j a w hj hI
      obtain ⟨e, a₁, w₁, hq, harr⟩ := round j a w (by omega) hI b (.inLoop c :: k) cs hb
      cases e with
      | normal =>
        obtain ⟨e₂, a₂, w₂, hq₂, harr₂⟩ := ih (j + 1) a₁ w₁ (by omega) hq
        exact ⟨e₂, a₂, w₂, hq₂, .of_steps (Steps.trans harr (.one step_inLoop)) harr₂⟩
      | exit id => exact ⟨_, a₁, w₁, hq, .pass (x := .inLoop c) rfl (fun _ _ => .inl (by simp)) harr⟩
      | goto l => exact ⟨_, a₁, w₁, hq, .pass (x := .inLoop c) rfl (fun _ _ => .inl (by simp)) harr⟩
      | ret => exact ⟨_, a₁, w₁, hq, .pass (x := .inLoop c) rfl (fun _ _ => .inl (by simp)) harr⟩
      | panic ch => exact ⟨_, a₁, w₁, hq, .pass (x := .inLoop c) rfl (fun _ _ => .inl (by simp)) harr⟩
      | outgrown => exact ⟨_, a₁, w₁, hq, .pass (x := .inLoop c) rfl (fun _ _ => .inl (by simp)) harr⟩
  obtain ⟨e, a', w', hq, harr⟩ := key n 0 a w (by omega) h₀
  exact ⟨e, a', w', hq, .of_steps (.one step_loop) harr⟩

theorem inb2 {id : Nat} {R : Act → World → Prop} (h : Q .normal a w) : Exit.then R (Exit.inBlock id Q) (.exit id) a w := by
  simpa [Exit.then, Exit.inBlock] using h

theorem wpN_region {id : Nat} {ops : Array Oper} (h : wpNOps P ops Q (List.range ops.size) a w) : wpN P (.region id ops false) Q a w :=
  fun b k cs hb => let ⟨e, a', w', q, r⟩ := h b k cs hb; ⟨e, a', w', q, .of_steps (.one step_region) r⟩

theorem wpNOps_nil {ops : Array Oper} (h : Q .normal a w) : wpNOps P ops Q [] a w := fun _ _ _ _ => ⟨.normal, a, w, h, .one step_region_end⟩

/-- an operation that yields a value -/
theorem wpNOps_value {ops : Array Oper} {i : Nat} {rest : List Nat} {o : Oper} (v : Value) (w' : World) (ho : ops[i]? = some o) (hw : Region.wanted o (yielded ops a.tmps) = true)
    (hr : (execOp a.eval o).run P w = .ok (.value v) w') (h : wpNOps P ops Q rest (a.put o.dst v) w') : wpNOps P ops Q (i :: rest) a w := by
  intro b k cs hb
  obtain ⟨e, a', w'', hq, harr⟩ := h b k cs hb
  refine ⟨e, a', w'', hq, .of_steps (.one (step_lone_go ?_)) harr⟩
  have hfin : (b.at a (.inRegion ops (i :: rest) :: k)).finish v = b.at (a.put o.dst v) (.inRegion ops rest :: k) := by
    rw [Frame.finish_at, ho]; rfl
  rw [stepG_op (P := P) (b := b) (k := k) (cs := cs) (w := w) (rest := rest) ho hw, ← hfin]
  simp [stepG.apply, hr]

/-- a send into a buffer with room -/
theorem wpNOps_send {ops : Array Oper} {i : Nat} {rest : List Nat} {o : Oper} (x y : Operand) (ho : ops[i]? = some o) (hop : o.op = .send x y) (hw : Region.wanted o (yielded ops a.tmps) = true)
    (c cap s r : Nat) (tm : Bool) (buf : Array Value) (v : Value) (hx : a.eval x = .chan (some c)) (hy : a.eval y = v) (hc : w.heap[c]? = some (.chan cap buf false s r tm)) (hroom : buf.size < cap)
    (h : wpNOps P ops Q rest (a.put o.dst undef) (w.setChan c cap (buf.push v) false (s + 1) r tm)) : wpNOps P ops Q (i :: rest) a w := by
  intro b k cs hb
  obtain ⟨e, a', w'', hq, harr⟩ := h b k cs hb
  have hrun : (execOp a.eval o).run P w = .ok (.comm #[scase c v (.tuple #[])] true .send) w := by
    unfold execOp
    rw [hop]
    simp [hx, hy, scase]
  have hst := step_lone_send_room (z' := .tuple #[]) (stepG_comm (main := true) (b := b) (k := k) (cs := cs) (rest := rest) ho hw hb hrun) hc hroom
  rw [Frame.finish_at, ho] at hst
  exact ⟨e, a', w'', hq, .of_steps (.one hst) harr⟩

/-- a receive, with comma-ok, from a buffer that holds something -/
theorem wpNOps_recv {ops : Array Oper} {i : Nat} {rest : List Nat} {o : Oper} (t : TypeId) (x : Operand) (ho : ops[i]? = some o) (hop : o.op = .recv t x true) (hw : Region.wanted o (yielded ops a.tmps) = true)
    (e0 : TypeId) (dir : ChanDir) (z : Value) (ht : P.underlying t = some (.chan dir e0)) (hz : (zeroValue e0).run P w = .ok z w)
    (c cap s r : Nat) (tm closed : Bool) (buf : Array Value) (hx : a.eval x = .chan (some c)) (hc : w.heap[c]? = some (.chan cap buf closed s r tm)) (hsome : 0 < buf.size)
    (h : wpNOps P ops Q rest (a.put o.dst (.tuple #[buf.getD 0 undef, .bool true])) (w.setChan c cap (buf.extract 1 buf.size) closed s (r + 1) tm)) : wpNOps P ops Q (i :: rest) a w := by
  intro b k cs hb
  obtain ⟨e, a', w'', hq, harr⟩ := h b k cs hb
  have hrun : (execOp a.eval o).run P w = .ok (.comm #[rcase c z] true (.recv true)) w := by
    unfold execOp
    rw [hop]
    simp [hx, rcase, run_underlying ht, hz, Result.andThen]
  have hst := step_lone_recv_buf true (stepG_comm (main := true) (b := b) (k := k) (cs := cs) (rest := rest) ho hw hb hrun) hc hsome
  rw [Frame.finish_at, ho] at hst
  exact ⟨e, a', w'', hq, .of_steps (.one hst) harr⟩

/-- a receive, with comma-ok, from a channel that is closed and empty -/
theorem wpNOps_shut {ops : Array Oper} {i : Nat} {rest : List Nat} {o : Oper} (t : TypeId) (x : Operand) (ho : ops[i]? = some o) (hop : o.op = .recv t x true) (hw : Region.wanted o (yielded ops a.tmps) = true)
    (e0 : TypeId) (dir : ChanDir) (z : Value) (ht : P.underlying t = some (.chan dir e0)) (hz : (zeroValue e0).run P w = .ok z w)
    (c cap s r : Nat) (tm : Bool) (hx : a.eval x = .chan (some c)) (hc : w.heap[c]? = some (.chan cap #[] true s r tm))
    (h : wpNOps P ops Q rest (a.put o.dst (.tuple #[z, .bool false])) w) : wpNOps P ops Q (i :: rest) a w := by
  intro b k cs hb
  obtain ⟨e, a', w'', hq, harr⟩ := h b k cs hb
  have hrun : (execOp a.eval o).run P w = .ok (.comm #[rcase c z] true (.recv true)) w := by
    unfold execOp
    rw [hop]
    simp [hx, rcase, run_underlying ht, hz, Result.andThen]
  have hst := step_lone_recv_shut true (stepG_comm (main := true) (b := b) (k := k) (cs := cs) (rest := rest) ho hw hb hrun) hc
  rw [Frame.finish_at, ho] at hst
  exact ⟨e, a', w'', hq, .of_steps (.one hst) harr⟩
end

theorem calls_of_wpN {P : Program} {f : FuncId} {fn : Func} {c : Code} {args : Array Value} {w : World} {R : Ending → World → Prop} (hf : P.funcs[f]? = some fn) (hb : fn.body = some c)
    (h : wpN P c (bodyPost P fn R) { tmps := args ++ Array.replicate (fn.ntmps - args.size) undef, defers := [] } w) : Calls P f args w R := by
  intro cs
  let b : Frame := { (default : Frame) with fn := f, kind := .normal }
  have henter : Frame.enter P f args .normal = b.at { tmps := args ++ Array.replicate (fn.ntmps - args.size) undef, defers := [] } [.code c] := by
    simp [Frame.enter, Frame.at, hf, hb, b]
  obtain ⟨e, a', w', hq, harr⟩ := h b [] cs (by simp [b])
  rw [← henter] at harr
  cases e with
  | normal =>
    obtain ⟨hd, v, hr, hR⟩ := hq
    exact ⟨.returned v, w', _, hR, Steps.trans harr (.one step_end), rfl, rfl, hd, rfl, fn, hf, hr⟩
  | ret =>
    obtain ⟨hd, v, hr, hR⟩ := hq
    obtain ⟨todo, hs⟩ := harr
    exact ⟨.returned v, w', _, hR, hs, rfl, rfl, hd, rfl, fn, hf, hr⟩
  | panic chain =>
    obtain ⟨hd, hR⟩ := hq
    obtain ⟨todo, hs⟩ := harr
    exact ⟨.panicked chain, w', _, hR, hs, rfl, rfl, hd, fn, hf⟩
  | exit id => exact hq.elim
  | goto l => exact hq.elim
  | outgrown => exact ⟨.outgrown, w', b, hq, harr.resolve_left (by simp [b]), rfl, trivial⟩

end Go.Proofs.YtnkjdijbfnmnhaaGreat
