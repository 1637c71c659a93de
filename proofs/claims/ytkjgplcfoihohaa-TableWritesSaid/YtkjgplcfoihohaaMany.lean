/-
  A part put behind those that have been collected: the walk's step.
-/
import Derived.Test.YtkjgplcfoihohaaFoot
namespace Go.Proofs.Ytkjgplcfoihohaa
open Go.RowKit

section
variable {P : Program}
theorem wpList_append_coll {α : Type} {T : TypeId} {q : Nat} {cs : α → List Value} {p : World → Nat → α → Prop} {f : α → Nat → Prop} {lo : Nat} {v : Value} {xs : List α} (w : World) {ops : Array Oper} {rest : List Oper} {o : Oper} {a : Act} {Q : Exit → Act → World → Prop}
    (hgd : Region.wanted o (yielded ops a.tmps) = true) (so xo : Operand) (t : TypeId) (ho : o.op = .call { callee := .builtin .append, args := #[so, xo], argTypes := #[t, t] })
    (z : Value) (bytes : Nat) (hinfo : (P.info? T).map (fun i => (i.zero, i.size, i.bytes)) = some (some z, q, bytes)) (hzs : z.cells.size = q) (hq : 0 < q) (hby : bytes ≤ 1000) (ht : P.underlying t = some (.slice T))
    (hC : Coll T q cs p f lo v xs w) (hp : Local p f) (x : α) (hx : p w w.heap.size x) (hfx : ∀ k, f x k → (lo ≤ k ∧ k < w.heap.size) ∧ v.ownBlock ≠ some k) (hlo : lo ≤ w.heap.size)
    (cells : Array Value) (hcells : cells.toList = cs x) (hlen : (cs x).length = q) (hone : ∀ u ∈ cs x, u.oneCell' = true) (hn : xs.length ≤ 100000)
    (hs : a.eval so = v) (hxo : a.eval xo = .slice (some ⟨w.heap.size, 0, none⟩) 1 1)
    (h : ∀ A' c' w', Coll T q cs p f lo (.slice A' (xs.length + 1) c') (xs ++ [x]) w' → w.grownBy w' v.ownBlock → wpList P ops Q rest (a.put o.dst (.slice A' (xs.length + 1) c')) w') : wpList P ops Q (o :: rest) a (w.alloc (.cells cells T)) := by
  refine wpList_step fun _ hK => ?_
  rw [if_pos hgd]
  obtain ⟨i0, hi, hz0, hz1, hz2⟩ := info_parts hinfo
  have hA : Below w.heap.size w (w.alloc (.cells cells T)) := (Below.refl _ _).alloc (Nat.le_refl _) _
  have hC2 := hC.below hp hA
  have hsz : (w.alloc (.cells cells T)).heap.size = w.heap.size + 1 := by simp
  obtain ⟨v', w', hrun, h2, h3, h4⟩ := run_append_rows (P := P) (w.alloc (.cells cells T)) lo t o.type T i0 z q bytes ht hi hz0 hz1 hz2 hzs hq v xs.length (xs.flatMap cs) hC2.own (w.heap.size + 1) (some ⟨w.heap.size, 0, none⟩) 1 1 (cs x) (by rw [hlen, Nat.one_mul]) (sees_box w cells T (cs x) hcells) hone (by unfold maxLen; omega)
    (Nat.le_trans (Nat.mul_le_mul (show xs.length + 1 ≤ 100001 by omega) hby) (by decide)) (by omega)
  have hv : ∃ A' c', v' = .slice A' (xs.length + 1) c' := by
    rcases h2.2 with ⟨rfl, h0⟩ | ⟨g, cap, cur, rfl, _⟩
    · exact ⟨none, 0, by rw [h0]⟩
    · exact ⟨_, _, rfl⟩
  obtain ⟨A', c', rfl⟩ := hv
  unfold Oper.wp execOp
  simp only [ho, resolve, invoke, builtin, Sem.run_bind, Sem.run_pure, Result.andThen_ok, List.map_toArray, List.map_cons, List.map_nil, hs, hxo, hrun]
  refine hK _ _ (h A' c' w' ?_ ?_)
  · refine hC2.snoc hp (hp.below hx hA) (fun k hk => ?_) h2 h3 fun k hk => ?_
    · have := hfx k hk
      exact ⟨by omega, this.2⟩
    · rcases h4 with h4 | h4
      · exact .inl (h4 ▸ hk)
      · rw [h4] at hk
        injection hk with hk
        exact .inr (by omega)
  · exact (World.grownBy_alloc w _ _).trans h3
end

/-- a part that a call has just made can be put behind those of before -/
theorem part_far {α : Type} {T : TypeId} {q : Nat} {cs : α → List Value} {p : World → Nat → α → Prop} {f : α → Nat → Prop} {lo : Nat} {v : Value} {xs : List α} {w w' : World} {x : α} (hC : Coll T q cs p f lo v xs w) (hlo : lo ≤ w.heap.size) (hx : Lies f x w.heap.size w'.heap.size) :
    ∀ k, f x k → (lo ≤ k ∧ k < w'.heap.size) ∧ v.ownBlock ≠ some k := fun k hk => by
  have h1 := hx k hk
  refine ⟨⟨by omega, h1.2⟩, fun e => ?_⟩
  have := (hC.own.lt k e).2
  omega
theorem own_from {α : Type} {T : TypeId} {q : Nat} {cs : α → List Value} {p : World → Nat → α → Prop} {f : α → Nat → Prop} {lo : Nat} {v : Value} {xs : List α} {w : World} (hC : Coll T q cs p f lo v xs w) : ∀ k, v.ownBlock = some k → lo ≤ k := fun k e => (hC.own.lt k e).1
end Go.Proofs.Ytkjgplcfoihohaa
