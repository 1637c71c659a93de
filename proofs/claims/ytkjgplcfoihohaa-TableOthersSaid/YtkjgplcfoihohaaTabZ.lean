/-
  Heads and tails of rows of rules; a row's cells where another block has changed.
-/
import Derived.Test.YtkjgplcfoihohaaTabY
namespace Go.Proofs.Ytkjgplcfoihohaa
open Go.RowKit

theorem flat_takes : ∀ (l : List RuM) (k : Nat), (l.flatMap RuM.cs).take (k * 7) = (l.take k).flatMap RuM.cs := by
  intro l
  induction l with
  | nil => intro k; simp
  | cons x l ih =>
    intro k
    rcases k with _ | k
    · simp
    · rw [List.flatMap_cons, List.take_succ_cons, List.flatMap_cons, List.take_append, show (RuM.cs x).length = 7 from rfl, show (k + 1) * 7 - 7 = k * 7 by omega, ih, List.take_of_length_le (by show 7 ≤ _; omega)]
theorem flat_drops : ∀ (l : List RuM) (k : Nat), (l.flatMap RuM.cs).drop (k * 7) = (l.drop k).flatMap RuM.cs := by
  intro l
  induction l with
  | nil => intro k; simp
  | cons x l ih =>
    intro k
    rcases k with _ | k
    · simp
    · rw [List.flatMap_cons, List.drop_succ_cons, List.drop_append, show (RuM.cs x).length = 7 from rfl, show (k + 1) * 7 - 7 = k * 7 by omega, ih, List.drop_eq_nil_of_le (by show 7 ≤ _; omega), List.nil_append]
theorem Sees.spot {w w' : World} {B g : Nat} {xs : List Value} (h : Sees w B (some ⟨g, 0, none⟩) xs) (hb : w'.heap[g]? = w.heap[g]?) : Sees w' B (some ⟨g, 0, none⟩) xs := fun hn => by
  obtain ⟨ad, e, hb', hc⟩ := h hn
  injection e with e
  subst e
  exact ⟨_, rfl, hb', fun j u hu => (World.cell?_of_block (by rw [add_block]; exact hb)).trans (hc j u hu)⟩
end Go.Proofs.Ytkjgplcfoihohaa
