/-
  Contracts of pack's reader: a row; and what is put is what is taken, as plain facts on lists.
-/
import Derived.Test.YtkjgplcfoihohaaRead2
namespace Go.Proofs.Ytkjgplcfoihohaa
open Go.RowKit

/-- a row of at most so many bytes -/
def takeR (most : Int) (l : List UInt8) : (List UInt8 × List UInt8) ⊕ Int :=
  match takeN 0 0 l with
  | .inr er => .inr er
  | .inl (n, t) => if max most 0 < (n : Int) then .inr 4 else if t.length < n then .inr 2 else .inl (t.take n, t.drop n)

/-- what a call leaves that takes a row -/
def TakesR (w : World) (g : Nat) (r : (List UInt8 × List UInt8) ⊕ Int) (e : Ending) (w' : World) : Prop :=
  match r with
  | .inl (row, t) => ∃ A c, Leaves w g (.slice A row.length c) t 0 e w' ∧ w'.ownsRow w.heap.size 5 1 (.slice A row.length c) row.length (bv row)
  | .inr er => Leaves w g (.slice none 0 0) [] er e w'

theorem Rdr.lt {w : World} {g : Nat} {l : List UInt8} {er : Int} (h : Rdr w g l er) : g < w.heap.size := by
  obtain ⟨A, c, hg, _, _⟩ := h
  exact (Array.getElem?_eq_some_iff.1 hg).1
theorem Rdr.below {w w' : World} {g : Nat} {l : List UInt8} {er : Int} (h : Rdr w g l er) (hb : Below w.heap.size w w') : Rdr w' g l er := by
  have hlt := h.lt
  obtain ⟨A, c, hg, hs, hc⟩ := h
  exact ⟨A, c, (hb.block g hlt).trans hg, hs.below (hb.mono (by omega)), hc⟩

theorem copyOf_n (l : List UInt8) (B : Nat) (A : Option Addr) (n c room : Nat) (w : World) (hn : l.length = n) (hs : Sees w B A (bv l)) (hB : B ≤ w.heap.size) (hr : n + room ≤ 281474976710656) :
    Calls Try.prog 56 #[.slice A n c, .int .i64 room] w fun e w' => e = .returned (.slice (some ⟨w.heap.size, 0, none⟩) n (n + room)) ∧
      w'.ownsRow w.heap.size 5 1 (.slice (some ⟨w.heap.size, 0, none⟩) n (n + room)) n (bv l) ∧ Below w.heap.size w w' ∧ w'.heap.size = w.heap.size + 1 := by
  subst hn
  exact copyOf_any l B A c room w hs hB hr

theorem TakesR.mk {w w1 w3 : World} {g n c1 c' : Nat} {t : List UInt8} {A1 A' : Option Addr} (hn : n ≤ t.length) (hg : w1.heap[g]? = some (.cells #[.bool true, .slice A1 t.length c1, .int .i64 0] 106 (0, 0)))
    (hs : Sees w1 g A1 (bv t)) (hc : t.length ≤ c1) (hA : A' = if c1 = n then A1 else A1.map (·.add n)) (hc' : c1 - n = c') (hg1 : w.grownBy w1 (some g)) (hlt : g < w1.heap.size)
    (hown : w3.ownsRow w1.heap.size 5 1 (.slice (some ⟨w1.heap.size, 0, none⟩) n (n + 0)) n (bv (t.take n))) (hb : Below w1.heap.size w1 w3) :
    TakesR w g (.inl (t.take n, t.drop n)) (.returned (.slice (some ⟨w1.heap.size, 0, none⟩) n n)) (w3.setCell ⟨g, 1, none⟩ (.slice A' (t.length - n) c')) := by
  have hl : (t.take n).length = n := by simp; omega
  refine ⟨some ⟨w1.heap.size, 0, none⟩, n, ⟨by rw [hl], Rdr_cut ((hb.block g hlt).trans hg) (hs.below (hb.mono (by omega))) hc hA hn rfl hc', grown_set (grown_below hg1 hb) _ _⟩, ?_⟩
  rw [hl]
  exact own_mono (ownsRow_setCell_below hown (a := ⟨g, 1, none⟩) hlt _) hg1.size

end Go.Proofs.Ytkjgplcfoihohaa