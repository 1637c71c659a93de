/-
  Texts of this claim put together: Mark.
-/
import Derived.Test.YtnkjdijbfnmnhaaGreatJ05
import Derived.Test.YtnkjdijbfnmnhaaGreatJ07
import Derived.Deep.RegionHeld
/-
  Contracts of sum's and the document's marking functions: marked bytes, and whether bytes fit.
-/
namespace Go.Proofs.YtnkjdijbfnmnhaaGreat
open Go.RowKit

/-- marked bytes -/
def markB (l : List UInt8) : List UInt8 := l ++ le4 (crc l)
theorem markB_length (l : List UInt8) : (markB l).length = l.length + 4 := by simp [markB, le4]

theorem ofNat_mod (n : Nat) : ((UInt8.ofNat n).toNat : Int) = (n : Int) % 256 := by simp
theorem le4_snoc (l : List UInt8) (n k : Nat) (h : k < 4) : bv (l ++ (le4 n).take (k + 1)) = bv (l ++ (le4 n).take k) ++ [.int .u8 ((n : Int) / 2 ^ (8 * k) % 256)] := by
  have hc : k = 0 ∨ k = 1 ∨ k = 2 ∨ k = 3 := by omega
  rcases hc with rfl | rfl | rfl | rfl <;> simp [le4, bv]


theorem Sees_le4 (w : World) (n : Nat) (vs : List Value) (hv : vs = bv (le4 n)) (fr : Nat × Nat) : Sees (w.alloc (.cells vs.toArray 5 fr)) (w.heap.size + 1) (some ⟨w.heap.size, 0, none⟩) (bv (le4 n)) := fun _ => by
  refine ⟨_, rfl, by simp, fun j u hu => ?_⟩
  have hg := heap_alloc_new w (.cells vs.toArray 5 fr)
  have hadd : (⟨w.heap.size, 0, none⟩ : Addr).add j = ⟨w.heap.size, j, none⟩ := by unfold Addr.add; split <;> simp_all
  rw [hadd, cell_of_row _ _ j _ _ _ hg, ← hu, hv]
  simp
theorem bv_le4 (n : Nat) (h : n < 4294967296) : [Value.int .u8 ((n : Int) % 256), .int .u8 ((n : Int) / 256 % 256), .int .u8 ((n : Int) / 65536 % 256), .int .u8 ((n : Int) / 16777216)] = bv (le4 n) := by
  have e : (n : Int) / 16777216 % 256 = (n : Int) / 16777216 := by omega
  simp [bv, le4, e]

theorem strOf_inj {l m : List UInt8} : strOf l = strOf m ↔ l = m := by
  unfold strOf
  constructor
  · intro h
    injection h with h
    simpa using congrArg Array.toList h
  · rintro rfl
    rfl

/-- marked bytes without the mark, or the error -/
def fitsL (l : List UInt8) : List UInt8 × Int :=
  if l.length < 4 then ([], 2) else if markB (l.take (l.length - 4)) = l then (l.take (l.length - 4), 0) else ([], 5)
theorem fitsL_short {l : List UInt8} (h : l.length < 4) : fitsL l = ([], 2) := by unfold fitsL; rw [if_pos h]
theorem fitsL_yes {l : List UInt8} (h : ¬ l.length < 4) (he : markB (l.take (l.length - 4)) = l) : fitsL l = (l.take (l.length - 4), 0) := by unfold fitsL; rw [if_neg h, if_pos he]
theorem fitsL_no {l : List UInt8} (h : ¬ l.length < 4) (he : markB (l.take (l.length - 4)) ≠ l) : fitsL l = ([], 5) := by unfold fitsL; rw [if_neg h, if_neg he]

/-- what a function leaves that answers bytes and an error -/
def Fitted (w : World) (r : List UInt8 × Int) (e : Ending) (w' : World) : Prop :=
  ∃ A n c, e = .returned (.tuple #[.slice A n c, .int .i64 r.2]) ∧ r.1.length = n ∧ Sees w' w'.heap.size A (bv r.1) ∧ Below w.heap.size w w'
theorem Fitted.mk {w w' : World} {r : List UInt8 × Int} {e : Ending} {m : List UInt8} {er : Int} (hr : r = (m, er)) (A : Option Addr) (n c : Nat) (he : e = .returned (.tuple #[.slice A n c, .int .i64 er])) (hn : m.length = n) (hs : Sees w' w'.heap.size A (bv m)) (hb : Below w.heap.size w w') : Fitted w r e w' := by
  subst hr
  exact ⟨A, n, c, he, hn, hs, hb⟩

theorem fitsL_mark (l : List UInt8) : fitsL (markB l) = (l, 0) := by
  have e : (markB l).take ((markB l).length - 4) = l := by
    rw [markB_length, Nat.add_sub_cancel]
    exact List.take_left
  have h := fitsL_yes (l := markB l) (by rw [markB_length]; omega) (by rw [e])
  rwa [e] at h
end Go.Proofs.YtnkjdijbfnmnhaaGreat
