/-
  Texts of this claim put together: Hash.
-/
import Derived.Test.YtnkjdijbfnmnhaaGreatRows
import Derived.Test.YtnkjdijbfnmnhaaGreatJ05
import Derived.Test.YtnkjdijbfnmnhaaGreatJ01
import Derived.WalkKit
import Derived.Lib.SlBytesConst
/-
  Contracts of hash's functions and the reference's: the hash of bytes, stirring, keys' and nodes' places.
-/
namespace Go.Proofs.YtnkjdijbfnmnhaaGreat
open Go.RowKit

theorem ret_u64h {a b : Int} (h : a = b) : Ending.returned (.int .u64 a) = .returned (.int .u64 b) := by rw [h]
theorem val_u64h {a b : Int} (h : a = b) : Value.int .u64 a = .int .u64 b := by rw [h]
theorem wrap_mul (a b : Nat) : IntKind.u64.wrap ((a : Int) * (b : Int)) = ((mul64 a b : Nat) : Int) := by
  rw [IntKind.wrap_u64]
  unfold mul64 u64Top
  rw [← Int.natCast_mul]
  omega
theorem xor64 {a b : Nat} (ha : a < u64Top) (hb : b < u64Top) : bits .xor .u64 (a : Int) (b : Int) = ((a ^^^ b : Nat) : Int) := u64_xor_nat a b ha hb

theorem wrap_mulI (a b : Nat) (c : Int) (h : c = (b : Int)) : IntKind.u64.wrap ((a : Int) * c) = ((mul64 a b : Nat) : Int) := by rw [h, wrap_mul]
theorem xor64I {a b : Nat} (c : Int) (ha : a < u64Top) (hb : b < u64Top) (h : c = (b : Int)) : bits .xor .u64 (a : Int) c = ((a ^^^ b : Nat) : Int) := by rw [h, xor64 ha hb]

theorem stir_steps (h : Nat) (hh : h < u64Top) :
    ∃ x y R : Nat, stirN h = R ∧ bits .xor .u64 (h : Int) ((h : Int) / 4294967296) = (x : Int) ∧ IntKind.u64.wrap ((x : Int) * 14029467366897019727) = (y : Int) ∧ bits .xor .u64 (y : Int) ((y : Int) / 536870912) = (R : Int) ∧ x < u64Top ∧ y < u64Top ∧ mul64 x 14029467366897019727 = y :=
  ⟨h ^^^ h / 4294967296, mul64 (h ^^^ h / 4294967296) 14029467366897019727, mul64 (h ^^^ h / 4294967296) 14029467366897019727 ^^^ mul64 (h ^^^ h / 4294967296) 14029467366897019727 / 536870912, rfl,
    xor64I _ hh (Nat.lt_of_le_of_lt (Nat.div_le_self h 4294967296) hh) (by omega), wrap_mulI _ _ _ (by omega),
    xor64I _ (mul64_lt _ _) (Nat.lt_of_le_of_lt (Nat.div_le_self _ 536870912) (mul64_lt _ _)) (by omega), xor64_lt hh (Nat.lt_of_le_of_lt (Nat.div_le_self h 4294967296) hh), mul64_lt _ _, rfl⟩

theorem halves_wrap (p q r : Nat) : IntKind.u64.wrap (IntKind.u64.wrap (p : Int) + IntKind.u64.wrap ((IntKind.u64.wrap (IntKind.u64.wrap (q : Int) + IntKind.u64.wrap (r : Int))).tmod 4294967296 * 4294967296)) = (((p + (q + r) % u64Top % 4294967296 * 4294967296) % u64Top : Nat) : Int) := by
  unfold u64Top
  simp only [IntKind.wrap_u64]
  rw [Int.tmod_eq_emod_of_nonneg (by omega)]
  omega

theorem sees_bytes (w : World) (l : List UInt8) (cs : Array Value) (t : TypeId) (fr : Nat × Nat) (h : cs.toList = bv l) : Sees (w.alloc (.cells cs t fr)) (w.heap.size + 1) (some ⟨w.heap.size, 0, none⟩) (bv l) := fun _ => by
  refine ⟨_, rfl, by simp, fun j u hu => ?_⟩
  have hg := heap_alloc_new w (.cells cs t fr)
  have hadd : (⟨w.heap.size, 0, none⟩ : Addr).add j = ⟨w.heap.size, j, none⟩ := by unfold Addr.add; split <;> simp_all
  rw [hadd, cell_of_row _ _ j _ _ _ hg, ← Array.getElem?_toList, h]
  exact hu

theorem fnv_a : fnv [97] = 12638187200555641996 := by decide +kernel

end Go.Proofs.YtnkjdijbfnmnhaaGreat
