/-
  Contracts of expr's stack.
-/
import Derived.Test.YtkjgplcfoihohaaOps
import Derived.Test.YtkjgplcfoihohaaBase
import Derived.Outline
namespace Go.Proofs.Ytkjgplcfoihohaa
open Go.RowKit

/-- a stack at block g, its last number first -/
def StkIs (w : World) (g : Nat) (S : List Int) : Prop :=
  ∃ cur : Array Value, w.heap[g]? = some (.cells cur 170 (0, 0)) ∧ cur.size = 25 ∧ S.length ≤ 24 ∧ cur[24]? = some (Value.int .i64 (S.length : Nat)) ∧ ∀ (i : Nat) (v : Int), S.reverse[i]? = some v → cur[i]? = some (Value.int .i64 v)

theorem grown_drew {a w : World} {row : Option Nat} (h : a.grownBy w row) : a.grownBy w.drew row := ⟨h.os, h.tape, h.output, h.size, h.block⟩
theorem lay_any {g : Nat} {S : List Int} {w : World} (v : Int) (h : StkIs w g S) (hS : S.length < 24) :
    Calls Try.prog 120 #[.pointer (some ⟨g, 0, none⟩), .int .i64 v] w fun e w' => e = .returned (.tuple #[]) ∧ StkIs w' g (v :: S) ∧ w.grownBy w' (some g) := by
  obtain ⟨cur, hg, hz, hl, hc, hi⟩ := h
  obtain ⟨L, hL⟩ : ∃ L, S.length = L := ⟨_, rfl⟩
  rw [hL] at hS hl hc
  have c24 : w.cell? ⟨g, 24, none⟩ = some (.int .i64 (L : Nat)) := by rw [cell_of_row w g 24 _ _ _ hg]; exact hc
  obtain ⟨u, hu⟩ : ∃ u, cur[L]? = some u := ⟨_, Array.getElem?_eq_getElem (by omega)⟩
  have cL : w.cell? ⟨g, L, none⟩ = some u := by rw [cell_of_row w g L _ _ _ hg]; exact hu
  have f24 : w.frozen? ⟨g, 24, none⟩ = false := by simp [World.frozen?, hg]
  have fL : w.frozen? ⟨g, L, none⟩ = false := by simp [World.frozen?, hg]
  have hne : L ≠ 24 := by omega
  have HG := hide_ hg
  have HZ := hide_ hz
  have HC := hide_ hc
  have HI := hide_ hi
  have HL := hide_ hL
  clear hg hz hc hi hL hu
  go_enter Try.func120, Try.ntmps120
  go_wp2
  go_region
  go_wp2
  refine bodyPost_end (results_none rfl _ _ _) rfl ?_
  refine ⟨rfl, ⟨_, heap_set 24 _ (heap_set L _ HG.out), by simpa using HZ.out, ?_, ?_, ?_⟩, grown_drew (grown_set (grown_set (World.grownBy.refl w _) _ _) _ _)⟩
  · have := HL.out; simp; omega
  · have h1 := HL.out
    have h2 := HZ.out
    simp [h1, h2]
  · intro i z hi
    have h1 := HL.out
    have h2 := HZ.out
    rw [List.reverse_cons, List.getElem?_append] at hi
    rw [Array.getElem?_setIfInBounds, Array.getElem?_setIfInBounds]
    split at hi
    · rename_i hlt
      rw [List.length_reverse, h1] at hlt
      rw [if_neg (by omega), if_neg (by omega)]
      exact HI.out i z hi
    · rename_i hge
      rw [List.length_reverse, h1] at hge hi
      have hiL : i = L := by
        rcases Nat.lt_or_ge (i - L) 1 with h | h
        · omega
        · rw [List.getElem?_eq_none (by simpa using h)] at hi
          cases hi
      subst hiL
      rw [if_neg (by omega), if_pos rfl, if_pos (by omega)]
      rw [Nat.sub_self] at hi
      injection hi with hi
      rw [hi]

theorem pop_any {g : Nat} {x : Int} {S : List Int} {w : World} (h : StkIs w g (x :: S)) :
    Calls Try.prog 121 #[.pointer (some ⟨g, 0, none⟩)] w fun e w' => e = .returned (.int .i64 x) ∧ StkIs w' g S ∧ w.grownBy w' (some g) := by
  obtain ⟨cur, hg, hz, hl, hc, hi⟩ := h
  obtain ⟨L, hL⟩ : ∃ L, S.length = L := ⟨_, rfl⟩
  rw [List.length_cons, hL] at hl hc
  have hx : cur[L]? = some (.int .i64 x) := hi L x (by rw [List.reverse_cons, List.getElem?_append_right (by simp [hL])]; simp [hL])
  have c24 : w.cell? ⟨g, 24, none⟩ = some (.int .i64 ((L : Int) + 1)) := by rw [cell_of_row w g 24 _ _ _ hg]; exact hc
  have cL : w.cell? ⟨g, L, none⟩ = some (.int .i64 x) := by rw [cell_of_row w g L _ _ _ hg]; exact hx
  have f24 : w.frozen? ⟨g, 24, none⟩ = false := by simp [World.frozen?, hg]
  have hne : L ≠ 24 := by omega
  have hS : L < 24 := by omega
  have HG := hide_ hg
  have HZ := hide_ hz
  have HC := hide_ hc
  have HI := hide_ hi
  have HL := hide_ hL
  clear hg hz hc hi hL hx
  go_enter Try.func121, Try.ntmps121
  go_wp2
  go_region
  go_wp2
  go_ret
  refine ⟨rfl, ⟨_, heap_set 24 _ HG.out, by simpa using HZ.out, ?_, ?_, ?_⟩, grown_drew (grown_set (World.grownBy.refl w _) _ _)⟩
  · have := HL.out; omega
  · have h1 := HL.out
    have h2 := HZ.out
    simp [h1, h2]
  · intro i z hi
    have hlt : i < S.length := by
      have := (List.getElem?_eq_some_iff.1 hi).1
      simpa using this
    have h1 := HL.out
    rw [Array.getElem?_setIfInBounds, if_neg (by omega)]
    exact HI.out i z (by rw [List.reverse_cons, List.getElem?_append_left (by simpa using hlt)]; exact hi)
end Go.Proofs.Ytkjgplcfoihohaa
