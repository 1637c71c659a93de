/-
  Texts of this claim put together: Jn6.
-/
import Derived.Test.YtecbpmnolgkllaaJ38
import Derived.RangeFuncNested
import Derived.RangeFuncBound
import Derived.RangeFuncCalls
import Derived.RangeFuncLeaves
import Derived.Shelf.Abstract
import Derived.Shelf.RegionOpen
import Derived.WalkKit
import Derived.OwnWalkIn
import Derived.TacticsInMore
import Derived.LoopNIn
import Derived.LoopIn
/-
  slices.Chunk over bytes: which parts come, for every body that keeps what it has captured; the journal's writeTo.
-/
namespace Go.Proofs.Ytecbpmnolgkllaa
open Go.RowKit Go.Shelf

attribute [local go_sem] Oper.semAt_some

/-- these blocks stay as they are -/
def Keeps2 (b1 b2 : Nat) (W W' : World) : Prop := W'.heap[b1]? = W.heap[b1]? ∧ W'.heap[b2]? = W.heap[b2]?
theorem keeps2_t {b1 b2 : Nat} {A B C : World} (h : Keeps2 b1 b2 A B) (k : Keeps2 b1 b2 B C) : Keeps2 b1 b2 A C := ⟨k.1.trans h.1, k.2.trans h.2⟩
theorem keeps2_b {b1 b2 : Nat} {w : World} (h1 : b1 < w.heap.size) (h2 : b2 < w.heap.size) (W : World) (l : Nat) (o o' : Obj) (hl : w.heap.size ≤ l) (_ : W.heap[l]? = some o) (_ : o.isCells = false) (_ : o.isWalk = false) : Keeps2 b1 b2 W (W.putObj l o') :=
  ⟨World.putObj_heap_other (by omega), World.putObj_heap_other (by omega)⟩

/-- part x of a row -/
def part13 (b n : Nat) (x : Nat) : Array Value := #[.slice (some ⟨b, x * n, none⟩) n n]

set_option maxRecDepth 100000 in
set_option maxHeartbeats 2000000 in
theorem chunk1_in (F : Fence) (m : Nat) (h7 : F.fn 137) (hro : F.round = none) (hm : 1 ≤ m) (l Bs Bn b n q z cap : Nat) (A : Option Addr) (hA : 0 < q → A = some ⟨b, 0, none⟩) (hn1 : 64 ≤ n) (hn2 : n ≤ 512) (hq : q ≤ 4096) (hz : q * n = z) (hcap : z ≤ cap)
    (J Jx : List Nat → World → Prop) (hJd : ∀ xs W, J xs W → J xs W.drew)
    (hY : ∀ pre x W, J pre W → pre.length < q → x < q → YieldAt F (m - 1) Try.prog l (part13 b n x) W fun e W' =>
      (e = .returned (.bool true) ∧ J (pre ++ [x]) W' ∧ Keeps2 Bs Bn W W') ∨ (e = .returned (.bool false) ∧ Jx (pre ++ [x]) W'))
    (W : World) (hBs : W.cell? ⟨Bs, 0, none⟩ = some (.slice A z cap)) (hBn : W.cell? ⟨Bn, 0, none⟩ = some (.int .i64 (n : Int))) (h0 : J [] W) :
    CallsIn F m Try.prog 137 #[.func (.yield l) #[] #[], .pointer (some ⟨Bs, 0, none⟩), .pointer (some ⟨Bn, 0, none⟩)] W fun e W' => (∃ v, e = .returned v) ∧
      ((∃ ys, ys = List.range q ∧ J ys W') ∨ (∃ pre, (∃ k, k ≤ q ∧ pre = List.range k) ∧ Jx pre W')) := by
  have hz9 : z ≤ 2097152 := by
    have := Nat.mul_le_mul hq hn2
    omega
  refine callsIn_of_wp Try.func137 rfl h7 ?_ hro
  simp only [Try.ntmps137, List.size_toArray, List.length_cons, List.length_nil, Nat.reduceAdd, Nat.reduceSub, Array.replicate_succ, Array.replicate_zero, List.push_toArray, List.append_toArray, List.nil_append, List.cons_append]
  gi_wp2
  gi_loopw [4] (fun i wr => ∃ k p : Nat, k ≤ q ∧ k * n = p ∧ i = .int .i64 (p : Int) ∧ J (List.range k) wr ∧ Keeps2 Bs Bn W wr)
    (fun i _ => (z - (intOf i).toNat))
  case atStart => exact ⟨0, 0, Nat.zero_le _, by simp, rfl, h0, rfl, rfl⟩
  case round =>
    obtain ⟨k, p, hk, hp, rfl, hJs, hnx⟩ := hrel
    have hBs' := (World.cell?_of_block (a := ⟨Bs, 0, none⟩) hnx.1).trans hBs
    have hBn' := (World.cell?_of_block (a := ⟨Bn, 0, none⟩) hnx.2).trans hBn
    by_cases hlt : k < q
    · have hpz : p + n ≤ z := by
        have := Nat.mul_le_mul (show k + 1 ≤ q from hlt) (Nat.le_refl n)
        rw [Nat.succ_mul] at this
        omega
      obtain ⟨fn, tmps, assign, body, hy, hR⟩ := hY _ k wr.drew (hJd _ _ hJs) (by rw [List.length_range]; exact hlt) hlt
      simp only [part13] at hy
      rw [hp] at hy
      rw [hA (by omega)] at hBs'
      have hpl : p < z := by omega
      have HP := hide_ hp
      have HZ := hide_ hz
      clear hp hz hk
      gi_wp2
      gi_region
      all_goals rw [if_neg (show ¬ z - p < n from by omega)]
      all_goals gi_wp2
      all_goals refine hR.mono ?_
      all_goals rintro e W3 (⟨rfl, hJ3, hk3⟩ | ⟨rfl, hJx3⟩)
      all_goals try have hBn3 := (World.cell?_of_block (a := ⟨Bn, 0, none⟩) hk3.2).trans hBn'
      all_goals gi_wp2
      all_goals first
        | (refine bodyPost_ret (results_none rfl _ _ _) rfl ?_; exact ⟨⟨_, rfl⟩, .inr ⟨_, ⟨k + 1, by omega, by rw [List.range_succ]⟩, hJx3⟩⟩)
        | exact ⟨⟨k + 1, p + n, by omega, by rw [Nat.succ_mul, HP.out], by go_num, by rw [List.range_succ]; exact hJ3, keeps2_t hnx hk3⟩, by simp [intOf]; omega⟩
    · obtain rfl : k = q := by omega
      have hpl : ¬ p < z := by omega
      clear hz hp
      gi_wp2
      go_end0
      exact ⟨⟨_, rfl⟩, .inl ⟨_, rfl, hJs⟩⟩

theorem chunk_in (F : Fence) (m : Nat) (h5 : F.fn 114) (hro : F.round = none) (a : Option Addr) (len cap n : Nat) (hn1 : 64 ≤ n) (w : World) :
    CallsIn F m Try.prog 114 #[.slice a len cap, .int .i64 (n : Int)] w fun e w' => e = .returned (.func (.func 137) #[] #[.pointer (some ⟨w.heap.size, 0, none⟩), .pointer (some ⟨w.heap.size + 1, 0, none⟩)]) ∧ w' = (w.alloc (.cells #[.slice a len cap] 38)).alloc (.cells #[.int .i64 (n : Int)] 3) := by
  refine callsIn_of_wp Try.func114 rfl h5 ?_ hro
  simp only [Try.ntmps114, List.size_toArray, List.length_cons, List.length_nil, Nat.reduceAdd, Nat.reduceSub, Array.replicate_succ, Array.replicate_zero, List.push_toArray, List.append_toArray, List.nil_append, List.cons_append]
  have hno : ¬ (n : Int) < 1 := by omega
  have hno2 : ¬ n < 1 := by omega
  gi_wp2
  go_ret
  exact ⟨rfl, rfl⟩

theorem chunk_stops (F : Fence) (m : Nat) (h7 : F.fn 137) (hro : F.round = none) (hm : 1 ≤ m) (Bs Bn b n q z cap : Nat) (A : Option Addr) (hA : 0 < q → A = some ⟨b, 0, none⟩) (hn1 : 64 ≤ n) (hn2 : n ≤ 512) (hq : q ≤ 4096) (hz : q * n = z) (hcap : z ≤ cap) (w : World) (hBs : Bs < w.heap.size) (hBn : Bn < w.heap.size)
    (hc : w.cell? ⟨Bs, 0, none⟩ = some (.slice A z cap)) (hc2 : w.cell? ⟨Bn, 0, none⟩ = some (.int .i64 (n : Int))) :
    SeqStopsK F m Try.prog 137 #[.pointer (some ⟨Bs, 0, none⟩), .pointer (some ⟨Bn, 0, none⟩)] (fun x : { x : Nat // x < q } => part13 b n x.1) (Keeps2 Bs Bn) (fun ys => ys.map (·.1) = List.range q) (fun pre => ∃ k, k ≤ q ∧ pre.map (·.1) = List.range k) q w := fun l J Jx W hW hJ _ hY h0 => by
  have h := chunk1_in F m h7 hro hm l Bs Bn b n q z cap A hA hn1 hn2 hq hz hcap (fun xs u => ∃ ys : List { x : Nat // x < q }, ys.map (·.1) = xs ∧ J ys u) (fun xs u => ∃ ys : List { x : Nat // x < q }, ys.map (·.1) = xs ∧ Jx ys u)
    (fun xs u ⟨ys, e, h⟩ => ⟨ys, e, hJ ys u u.drew none h ⟨rfl, rfl, rfl, Nat.le_refl _, fun _ _ _ => rfl⟩ (fun r e => by cases e)⟩)
    (fun pre x u ⟨ys, e, h⟩ hl hx => by
      refine (hY ys ⟨x, hx⟩ u h (by rw [← e, List.length_map] at hl; exact hl)).mono ?_
      rintro e' u' (⟨h1, h2, h3⟩ | ⟨h1, h2⟩)
      · exact .inl ⟨h1, ⟨_, by rw [List.map_append, e]; rfl, h2⟩, h3⟩
      · exact .inr ⟨h1, _, by rw [List.map_append, e]; rfl, h2⟩)
    W ((hW.cell (p := ⟨Bs, 0, none⟩) hBs).trans hc) ((hW.cell (p := ⟨Bn, 0, none⟩) hBn).trans hc2) ⟨[], rfl, h0⟩
  refine h.mono ?_
  rintro e w' ⟨he, ⟨ys, e1, zs, e2, h2⟩ | ⟨pre, ⟨k, hk, e1⟩, zs, e2, h2⟩⟩
  · exact ⟨he, .inl ⟨zs, e2.trans e1, h2⟩⟩
  · exact ⟨he, .inr ⟨zs, ⟨k, hk, e2.trans e1⟩, h2⟩⟩
end Go.Proofs.Ytecbpmnolgkllaa
