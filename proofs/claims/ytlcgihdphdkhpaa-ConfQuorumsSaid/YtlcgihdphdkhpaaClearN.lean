/-
  clear of a part of a row: a run that is known. Nothing here speaks of a program.
-/
import Derived.Test.YtlcgihdphdkhpaaMem
import Derived.Laws.CopyRow
namespace Go.Proofs.Ytlcgihdphdkhpaa
open Go.RowKit

section
variable {P : Program}
theorem zeroCells_one {z : Array Value} (hz : ∀ v ∈ z.toList, v.oneCell' = true) (hs : 0 < z.size) (n : Nat) : ∀ v ∈ (Builtin.zeroCells z n).toList, v.oneCell' = true := by
  intro v hv
  simp only [Builtin.zeroCells, Array.toList_map, List.mem_map] at hv
  obtain ⟨i, _, rfl⟩ := hv
  have hlt : i % z.size < z.size := Nat.mod_lt _ hs
  rw [getElem!_pos z (i % z.size) hlt]
  exact hz _ (by simp)
theorem run_clear_named (w : World) (t elem : TypeId) (i : TypeInfo) (z : Value) (q g o m k : Nat) (cur : Array Value) (ty0 : TypeId)
    (hu : P.underlying t = some (.slice elem)) (hi : P.info? elem = some i) (hz : i.zero = some z) (hq : z.cells.size = q) (hq0 : 0 < q) (h1 : ∀ v ∈ z.cells.toList, v.oneCell' = true) (hm : 0 < m)
    (hg : w.heap[g]? = some (.cells cur ty0 (0, 0))) (hfit : o + m * q ≤ cur.size) :
    ∃ w', (∀ ty, (Builtin.clear_ #[t] ty #[.slice (some ⟨g, o, none⟩) m k]).run P w = .ok (.tuple #[]) w') ∧
      (∃ Z : List Value, Z.length = m * q ∧ w'.heap[g]? = some (.cells (cur.toList.take o ++ Z ++ cur.toList.drop (o + Z.length)).toArray ty0 (0, 0))) ∧ w.grownBy w' (some g) ∧ w'.heap.size = w.heap.size := by
  have hl : (Builtin.zeroCells z.cells m).toList.length = m * q := by simp [Builtin.zeroCells, hq]
  have hst := run_storeCells_at P g o ty0 (Builtin.zeroCells z.cells m).toList 0 cur w hg (by rw [hl]; simpa using hfit) (zeroCells_one h1 (by omega) m)
  refine ⟨_, fun ty => ?_, ⟨_, hl, setRow_heap w g cur _ ty0 _ hg⟩, ⟨rfl, rfl, rfl, by simp, fun k _ hk => setRow_other w g k _ (fun e => hk (by rw [e]))⟩, by simp⟩
  obtain ⟨m, rfl⟩ : ∃ j, m = j + 1 := ⟨m - 1, by omega⟩
  simp only [Nat.add_zero] at hst
  simp [Builtin.clear_, run_underlying hu, zeroValue, typeInfo, hi, hz, hst]
/-- the walk's step: a clear whose run is known -/
theorem wpList_clear_known (w : World) {ops : Array Oper} {rest : List Oper} {o : Oper} {a : Act} {Q : Exit → Act → World → Prop} (hgd : Region.wanted o (yielded ops a.tmps) = true) (d : Operand) (t : TypeId)
    (ho : o.op = .call { callee := .builtin .clear, args := #[d], argTypes := #[t] }) (v : Value) (hd : a.eval d = v) {v' : Value} {w' : World}
    (hr : ∀ ty, (Builtin.clear_ #[t] ty #[v]).run P w = .ok v' w') (h : wpList P ops Q rest (a.put o.dst v') w') : wpList P ops Q (o :: rest) a w := by
  refine wpList_step fun _ hK => ?_
  rw [if_pos hgd]
  unfold Oper.wp execOp
  simp only [ho, resolve, invoke, builtin, Sem.run_bind, Sem.run_pure, Result.andThen_ok, List.map_toArray, List.map_cons, List.map_nil, hd, hr]
  exact hK _ _ h
end
end Go.Proofs.Ytlcgihdphdkhpaa
