/-
  A map from numbers to rows of bytes that the call has made: what is looked up, and what a store leaves.
-/
import Derived.Test.YtecbpmnolgkllaaRows
import Derived.Test.YtecbpmnolgkllaaMem
import Derived.Maps.OwnSet
import Derived.KernelRfl
namespace Go.Proofs.Ytecbpmnolgkllaa
open Go.RowKit
open Go.Maps (Keyed IsMap)

/-- how many of the first so many keys are there -/
def cnt12 (K : Nat → Option Nat) (c : Nat) : Nat := (List.range c).countP fun i => (K i).isSome
def upd12 (K : Nat → Option Nat) (i g : Nat) : Nat → Option Nat := fun j => if j = i then some g else K j
theorem cnt12_le (K : Nat → Option Nat) (c : Nat) : cnt12 K c ≤ c := by
  unfold cnt12
  have := List.countP_le_length (p := fun i => (K i).isSome) (l := List.range c)
  simpa using this
theorem cnt12_none (c : Nat) : cnt12 (fun _ => none) c = 0 := by
  unfold cnt12
  simp
theorem cnt12_upd {K : Nat → Option Nat} {i g : Nat} (hK : K i = none) : ∀ c, i < c → cnt12 (upd12 K i g) c = cnt12 K c + 1
  | 0, h => absurd h (by omega)
  | c + 1, h => by
    have hs : ∀ K' : Nat → Option Nat, cnt12 K' (c + 1) = cnt12 K' c + (if (K' c).isSome then 1 else 0) := by
      intro K'
      unfold cnt12
      rw [List.range_succ, List.countP_append]
      simp [List.countP_cons]
    rw [hs, hs]
    by_cases hc : i = c
    · subst hc
      have e1 : cnt12 (upd12 K i g) i = cnt12 K i := by
        unfold cnt12
        refine List.countP_congr fun j hj => ?_
        have hj' : j ≠ i := by
          have := List.mem_range.1 hj
          omega
        simp [upd12, hj']
      rw [e1]
      simp [upd12, hK]
    · have ih := cnt12_upd (g := g) hK c (by omega)
      have e2 : upd12 K i g c = K c := by
        unfold upd12
        rw [if_neg (fun e => hc e.symm)]
      rw [ih, e2]
      omega

/-- how an element is told: by the block of its row -/
def blk12 (n : Nat) : Value → Option (DataW Unit × List MemPlace)
  | .slice (some ⟨g, o, s⟩) k c => if o = 0 ∧ s = none ∧ k = n ∧ c = n then some (.lit (.int .i64 g), []) else none
  | .slice none k c => if k = 0 ∧ c = 0 then some (.nil, []) else none
  | _ => none
theorem blk12_mk (n g : Nat) : blk12 n (.slice (some ⟨g, 0, none⟩) n n) = some (.lit (.int .i64 g), []) := by simp [blk12]
theorem blk12_nil (n : Nat) : blk12 n (.slice none 0 0) = some (.nil, []) := by simp [blk12]
theorem blk12_inv {n : Nat} {v : Value} {z : DataW Unit × List MemPlace} (h : blk12 n v = some z) : (∃ g, v = .slice (some ⟨g, 0, none⟩) n n ∧ z = (.lit (.int .i64 g), [])) ∨ (v = .slice none 0 0 ∧ z = (.nil, [])) := by
  unfold blk12 at h
  split at h
  · split at h
    · rename_i hc
      obtain ⟨rfl, rfl, rfl, rfl⟩ := hc
      cases h
      exact .inl ⟨_, rfl, rfl⟩
    · cases h
  · split at h
    · rename_i hc
      obtain ⟨rfl, rfl⟩ := hc
      cases h
      exact .inr ⟨rfl, rfl⟩
    · cases h
  · cases h

/-- what stands at a key -/
def at12 (n : Nat) (K : Nat → Option Nat) (i : Nat) : Value := match K i with | some g => .slice (some ⟨g, 0, none⟩) n n | none => .slice none 0 0

/-- block m is a map from numbers below c to rows of n bytes -/
def MapIs (w : World) (m n c : Nat) (K : Nat → Option Nat) : Prop :=
  ∃ D : DataW Unit, w.ownsMap Try.prog 3 (blk12 n) m (cnt12 K c) D ∧
    ∀ i : Nat, i < 2 ^ 63 → Maps.has D (.int .i64 i) = (K i).isSome ∧ D.atKey (.int .i64 i) .nil = (match K i with | some g => .lit (.int .i64 g) | none => .nil)

theorem mkey12 : Keyed Try.prog 3 := Maps.int_keyed Try.underlying3
theorem mzero12 (w : World) : (zeroValue 38).run Try.prog w = .ok (.slice none 0 0) w := by kernel_rfl
theorem mkey12_of (i : Nat) (hi : i < 2 ^ 63) : keyOf Try.prog 3 (.int .i64 (i : Int)) = some (.int .i64 (i : Int)) :=
  Maps.keyOf_int_mk Try.underlying3 (by simp [Lit.wf, IntKind.min, IntKind.max, IntKind.signed, IntKind.bits]; omega)

theorem MapIs.made (w : World) (n c : Nat) : MapIs (w.alloc (.map #[] 0)) w.heap.size n c fun _ => none := by
  refine ⟨.map [], ?_, fun i _ => ⟨by simp [Maps.has], by simp [DataW.atKey]⟩⟩
  rw [cnt12_none]
  exact World.ownsMap_made w _ _ _

theorem MapIs.stay {w w' : World} {m n c : Nat} {K : Nat → Option Nat} (h : MapIs w m n c K) (hb : w'.heap[m]? = w.heap[m]?) : MapIs w' m n c K := by
  obtain ⟨D, ⟨es, clock, h1, h2⟩, hD⟩ := h
  exact ⟨D, ⟨es, clock, hb.trans h1, h2⟩, hD⟩

theorem MapIs.lt {w : World} {m n c : Nat} {K : Nat → Option Nat} (h : MapIs w m n c K) : m < w.heap.size := by
  obtain ⟨D, h1, _⟩ := h
  exact h1.lt

theorem MapIs.is {w : World} {m n c : Nat} {K : Nat → Option Nat} (h : MapIs w m n c K) : ∃ es clock, w.heap[m]? = some (.map es clock) := by
  obtain ⟨D, ⟨es, clock, h1, _⟩, _⟩ := h
  exact ⟨es, clock, h1⟩

section
variable {w : World} {m n c : Nat} {K : Nat → Option Nat}
theorem at12_of (n : Nat) (K : Nat → Option Nat) (i : Nat) {v : Value} {ps : List MemPlace} {D : DataW Unit} (h1 : D.atKey (.int .i64 (i : Int)) .nil = (match K i with | some g => .lit (.int .i64 g) | none => .nil))
    (hv : blk12 n v = some (D.atKey (.int .i64 (i : Int)) .nil, ps)) : v = at12 n K i := by
  rw [h1] at hv
  unfold at12
  rcases blk12_inv hv with ⟨g, rfl, e⟩ | ⟨rfl, e⟩
  · cases hK : K i with
    | none =>
      rw [hK] at e
      cases e
    | some g' =>
      rw [hK] at e
      injection e with e
      injection e with e
      injection e with _ e
      have : g' = g := by omega
      subst this
      rfl
  · cases hK : K i with
    | none => rfl
    | some g' =>
      rw [hK] at e
      cases e

theorem MapIs.look (h : MapIs w m n c K) (i : Nat) (hi : i < 2 ^ 63) :
    (Instr.lookup 70 (.map (some m)) (.int .i64 (i : Int)) true).run Try.prog w = .ok (.tuple #[at12 n K i, .bool (K i).isSome]) w := by
  obtain ⟨D, hown, hD⟩ := h
  obtain ⟨h1, h2⟩ := hD i hi
  obtain ⟨v, ps, hrun, hv⟩ := hown.look_ok mkey12 Try.underlying70 (mzero12 w) (blk12_nil n) (mkey12_of i hi)
  rw [hrun, h1, at12_of n K i h2 hv]

theorem MapIs.look1 (h : MapIs w m n c K) (i : Nat) (hi : i < 2 ^ 63) :
    (Instr.lookup 70 (.map (some m)) (.int .i64 (i : Int)) false).run Try.prog w = .ok (at12 n K i) w := by
  obtain ⟨D, hown, hD⟩ := h
  obtain ⟨h1, h2⟩ := hD i hi
  obtain ⟨v, ps, hrun, hv⟩ := hown.lookup mkey12 Try.underlying70 (mzero12 w) (blk12_nil n) (mkey12_of i hi)
  rw [hrun, at12_of n K i h2 hv]

theorem MapIs.store (h : MapIs w m n c K) (i g : Nat) (hi : i < c) (hc : c ≤ 100000) (hK : K i = none) :
    ∃ w', (Instr.mapUpdate 70 (.map (some m)) (.int .i64 (i : Int)) (.slice (some ⟨g, 0, none⟩) n n)).run Try.prog w = .ok () w' ∧ MapIs w' m n c (upd12 K i g) ∧ w.grownBy w' (some m) ∧ w'.heap.size = w.heap.size := by
  obtain ⟨D, hown, hD⟩ := h
  have hle := cnt12_le K c
  obtain ⟨w', hrun, hown', hg⟩ := hown.store mkey12 Try.underlying70 (by unfold maxLen; omega) (mkey12_of i (by omega)) (blk12_mk n g)
  have hwk : WideAt.IsKeyLit (Lit.int .i64 (i : Int)) := trivial
  refine ⟨w', hrun, ⟨_, by rw [cnt12_upd hK c hi]; exact hown', fun j hj => ?_⟩, hg.grown, ?_⟩
  · by_cases e : j = i
    · subst e
      exact ⟨by rw [Maps.has_put_same hown.isMap hwk]; simp [upd12], by rw [Maps.atKey_put_same hown.isMap hwk]; simp [upd12]⟩
    · have hne : Lit.int .i64 (j : Int) ≠ .int .i64 (i : Int) := by
        intro he
        injection he with _ he
        omega
      obtain ⟨h1, h2⟩ := hD j hj
      exact ⟨by rw [Maps.has_put_other hne, h1]; simp [upd12, e], by rw [Maps.atKey_put_other hne, h2]; simp [upd12, e]⟩
  · obtain ⟨es, clock, es', clock', _, rfl⟩ := hg
    simp [ChangeMaps.setBlock]
end
end Go.Proofs.Ytecbpmnolgkllaa
