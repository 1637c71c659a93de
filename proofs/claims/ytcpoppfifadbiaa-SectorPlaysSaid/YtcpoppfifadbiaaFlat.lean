/-
  What a slice sees, at a literal address.
-/
import Derived.Test.YtcpoppfifadbiaaMem
namespace Go.Proofs.Ytcpoppfifadbiaa
open Go.RowKit

section
variable {w : World} {B : Nat} {A : Option Addr}
theorem Sees.flat {xs : List Value} (h : Sees w B A xs) (h0 : 0 < xs.length) : ∃ b o, A = some ⟨b, o, none⟩ ∧ b < B ∧ ∀ j u, xs[j]? = some u → w.cell? ⟨b, o + j, none⟩ = some u := by
  obtain ⟨⟨b, o, s⟩, e, hb, hc⟩ := h h0
  have hs : s = none := by simpa [Addr.add] using World.cell?_spot (hc 0 _ (List.getElem?_eq_getElem h0))
  subst hs
  refine ⟨b, o, e, hb, fun j u hu => ?_⟩
  have := hc j u hu
  rwa [Addr.add_lit] at this
end

/-- a block of another kind -/
def BoxAt (w : World) (g : Nat) (cs : Array Value) (t : TypeId) : Prop := w.heap[g]? = some (.cells cs t (0, 0))
theorem BoxAt.lt {w : World} {g : Nat} {cs : Array Value} {t : TypeId} (h : BoxAt w g cs t) : g < w.heap.size := (Array.getElem?_eq_some_iff.1 h).1
theorem BoxAt.cell {w : World} {g : Nat} {cs : Array Value} {t : TypeId} (h : BoxAt w g cs t) (i : Nat) : w.cell? ⟨g, i, none⟩ = cs[i]? := cell_of_row w g i _ _ _ h
theorem BoxAt.below {w w' : World} {g : Nat} {cs : Array Value} {t : TypeId} (h : BoxAt w g cs t) (hb : Below w.heap.size w w') : BoxAt w' g cs t := (hb.block g h.lt).trans h
theorem BoxAt.alloc {w : World} {g : Nat} {cs : Array Value} {t : TypeId} (h : BoxAt w g cs t) (o : Obj) : BoxAt (w.alloc o) g cs t := h.below ((Below.refl _ _).alloc (Nat.le_refl _) o)
theorem BoxAt.new (w : World) (cs : Array Value) (t : TypeId) : BoxAt (w.alloc (.cells cs t)) w.heap.size cs t := heap_alloc_new w _
theorem BoxAt.free9 {w : World} {g : Nat} {cs : Array Value} {t : TypeId} (h : BoxAt w g cs t) (i : Nat) : w.frozen? ⟨g, i, none⟩ = false := by
  unfold BoxAt at h
  simp [World.frozen?, h]
theorem BoxAt.set9 {w : World} {g : Nat} {cs : Array Value} {t : TypeId} (h : BoxAt w g cs t) (i : Nat) (v : Value) : BoxAt (w.setCell ⟨g, i, none⟩ v) g (cs.setIfInBounds i v) t := heap_set i v h
/-- it is no row of one's own of another kind -/
theorem BoxAt.apart9 {w : World} {g base s n : Nat} {cs : Array Value} {t e : TypeId} {v : Value} {xs : List Value} (h : BoxAt w g cs t) (ht : t ≠ e) (hown : w.ownsRow base e s v n xs) : some g ≠ v.ownBlock := by
  intro he
  rcases hown.2 with ⟨rfl, _⟩ | ⟨g', cap, cur, rfl, _, hg', _⟩
  · cases he
  · injection he with he
    subst he
    unfold BoxAt at h
    have h2 := h.symm.trans hg'
    injection h2 with h2
    injection h2 with _ h2
    exact ht h2
theorem BoxAt.grown9 {w w' : World} {g base s n : Nat} {cs : Array Value} {t e : TypeId} {v : Value} {xs : List Value} (h : BoxAt w g cs t) (ht : t ≠ e) (hown : w.ownsRow base e s v n xs) (hg : w.grownBy w' v.ownBlock) : BoxAt w' g cs t :=
  (hg.block g h.lt (h.apart9 ht hown)).trans h
/-- a row of one's own, where another block was written -/
theorem own_other9 {w w' : World} {g base s n : Nat} {e : TypeId} {v : Value} {xs : List Value} (h : w.ownsRow base e s v n xs) (hne : some g ≠ v.ownBlock) (hg : w.grownBy w' (some g)) : w'.ownsRow base e s v n xs := by
  refine ⟨h.1, ?_⟩
  rcases h.2 with h0 | ⟨g', cap, cur, rfl, h1, hg', h2⟩
  · exact .inl h0
  · exact .inr ⟨g', cap, cur, rfl, h1, (hg.block g' (Array.getElem?_eq_some_iff.1 hg').1 fun e => hne (by rw [← e]; rfl)).trans hg', h2⟩
theorem grown_cell9 (w : World) (g i : Nat) (v : Value) : w.grownBy (w.setCell ⟨g, i, none⟩ v) (some g) := grown_set (World.grownBy.refl w _) i v
end Go.Proofs.Ytcpoppfifadbiaa
