/-
  Contracts of hash's functions and the reference's: the hash of bytes, stirring, keys' and nodes' places.
-/
import Derived.Test.YtlcgihdphdkhpaaRows
import Derived.Test.YtlcgihdphdkhpaaMem
import Derived.Test.YtlcgihdphdkhpaaFnv
import Derived.WalkKit
import Derived.Lib.SlBytesConst
namespace Go.Proofs.Ytlcgihdphdkhpaa
open Go.RowKit

theorem ret_u64h {a b : Int} (h : a = b) : Ending.returned (.int .u64 a) = .returned (.int .u64 b) := by rw [h]
theorem val_u64h {a b : Int} (h : a = b) : Value.int .u64 a = .int .u64 b := by rw [h]
theorem wrap_mul (a b : Nat) : IntKind.u64.wrap ((a : Int) * (b : Int)) = ((mul64 a b : Nat) : Int) := by
  rw [IntKind.wrap_u64]
  unfold mul64 u64Top
  rw [← Int.natCast_mul]
  omega
theorem xor64 {a b : Nat} (ha : a < u64Top) (hb : b < u64Top) : bits .xor .u64 (a : Int) (b : Int) = ((a ^^^ b : Nat) : Int) := u64_xor_nat a b ha hb

set_option maxRecDepth 100000 in
theorem hashOf_any (l : List UInt8) (B : Nat) (A : Option Addr) (n c : Nat) (w : World) (hn : l.length = n) (hm : n ≤ maxLen) (h : Sees w B A (bv l)) :
    Calls Try.prog 76 #[.slice A n c] w fun e w' => e = .returned (.int .u64 (fnv l : Nat)) ∧ w = w' := by
  unfold maxLen at hm
  subst hn
  go_enter Try.func76, Try.ntmps76
  go_wp2
  go_loop [3, 8] (fun r i => ∃ k : Nat, k ≤ l.length ∧ i = .int .i64 k ∧ r = .int .u64 (fnvR 14695981039346656037 (l.take k) : Nat)) (fun _ i => l.length - (intOf i).toNat)
  case atStart => exact ⟨0, by omega, rfl, rfl⟩
  case round =>
    obtain ⟨k, hk, rfl, rfl⟩ := hrel
    by_cases hlt : k < l.length
    · have hj : (bv l)[k]? = some (.int .u8 (l[k].toNat : Int)) := by rw [bv_getElem?, List.getElem?_eq_getElem hlt]; rfl
      obtain ⟨ad, rfl, hab, hcell⟩ := h (by rw [bv_length]; omega)
      have hck := hcell k _ hj
      have hbt := l[k].toNat_lt
      have hR := fnvR_lt (l.take k) 14695981039346656037 (by unfold u64Top; omega)
      have hx := xor64 hR (show l[k].toNat < u64Top by unfold u64Top; omega)
      have hw := wrap_mul (fnvR 14695981039346656037 (l.take k) ^^^ l[k].toNat) 1099511628211
      have HS := hide_ (fnvR_take l 14695981039346656037 k hlt)
      clear hj hcell hR
      go_wp2
      go_round
      case rel => exact ⟨k + 1, by omega, by go_num, val_u64h (by rw [HS.out]; first | exact hw | rfl)⟩
      case measure => simp [intOf]; omega
    · obtain rfl : k = l.length := by omega
      have ht : l.take l.length = l := List.take_length
      rw [ht]
      clear ht
      go_wp2
      go_ret
      exact ⟨rfl, rfl⟩

theorem wrap_mulI (a b : Nat) (c : Int) (h : c = (b : Int)) : IntKind.u64.wrap ((a : Int) * c) = ((mul64 a b : Nat) : Int) := by rw [h, wrap_mul]
theorem xor64I {a b : Nat} (c : Int) (ha : a < u64Top) (hb : b < u64Top) (h : c = (b : Int)) : bits .xor .u64 (a : Int) c = ((a ^^^ b : Nat) : Int) := by rw [h, xor64 ha hb]

theorem stir_steps (h : Nat) (hh : h < u64Top) :
    ∃ x y R : Nat, stirN h = R ∧ bits .xor .u64 (h : Int) ((h : Int) / 4294967296) = (x : Int) ∧ IntKind.u64.wrap ((x : Int) * 14029467366897019727) = (y : Int) ∧ bits .xor .u64 (y : Int) ((y : Int) / 536870912) = (R : Int) ∧ x < u64Top ∧ y < u64Top ∧ mul64 x 14029467366897019727 = y :=
  ⟨h ^^^ h / 4294967296, mul64 (h ^^^ h / 4294967296) 14029467366897019727, mul64 (h ^^^ h / 4294967296) 14029467366897019727 ^^^ mul64 (h ^^^ h / 4294967296) 14029467366897019727 / 536870912, rfl,
    xor64I _ hh (Nat.lt_of_le_of_lt (Nat.div_le_self h 4294967296) hh) (by omega), wrap_mulI _ _ _ (by omega),
    xor64I _ (mul64_lt _ _) (Nat.lt_of_le_of_lt (Nat.div_le_self _ 536870912) (mul64_lt _ _)) (by omega), xor64_lt hh (Nat.lt_of_le_of_lt (Nat.div_le_self h 4294967296) hh), mul64_lt _ _, rfl⟩

set_option maxRecDepth 100000 in
theorem stir_any (h : Nat) (w : World) (hh : h < u64Top) :
    Calls Try.prog 75 #[.int .u64 h] w fun e w' => e = .returned (.int .u64 (stirN h : Nat)) ∧ w = w' := by
  obtain ⟨x, y, R, hR, h1, h2, h3, -, -, -⟩ := stir_steps h hh
  rw [hR]
  clear hR hh
  go_enter Try.func75, Try.ntmps75
  go_wp2
  go_ret
  exact ⟨by first | rfl | simp only [h1, h2, h3], rfl⟩

theorem halves_wrap (p q r : Nat) : IntKind.u64.wrap (IntKind.u64.wrap (p : Int) + IntKind.u64.wrap ((IntKind.u64.wrap (IntKind.u64.wrap (q : Int) + IntKind.u64.wrap (r : Int))).tmod 4294967296 * 4294967296)) = (((p + (q + r) % u64Top % 4294967296 * 4294967296) % u64Top : Nat) : Int) := by
  unfold u64Top
  simp only [IntKind.wrap_u64]
  rw [Int.tmod_eq_emod_of_nonneg (by omega)]
  omega

set_option maxRecDepth 100000 in
theorem times_any (a b : Nat) (w : World) (ha : a < u64Top) (hb : b < u64Top) :
    Calls Try.prog 91 #[.int .u64 a, .int .u64 b] w fun e w' => e = .returned (.int .u64 (mul64 a b : Nat)) ∧ w = w' := by
  have hh := halves a b
  unfold u64Top at ha hb
  have HH := hide_ hh
  clear hh
  go_enter Try.func91, Try.ntmps91
  go_wp2
  go_ret
  refine ⟨ret_u64h ?_, rfl⟩
  rw [← HH.out, ← halves_wrap]
  simp only [Int.natCast_mul, Int.natCast_emod, Int.natCast_ediv, Int.cast_ofNat_Int]

set_option maxRecDepth 100000 in
theorem refStir_any (h : Nat) (w : World) (hh : h < u64Top) :
    Calls Try.prog 73 #[.int .u64 h] w fun e w' => e = .returned (.int .u64 (stirN h : Nat)) ∧ w = w' := by
  obtain ⟨x, y, R, hR, h1, h2, h3, hx, hy, hm⟩ := stir_steps h hh
  have HT := hide_ (times_any x 14029467366897019727 w hx (by unfold u64Top; omega))
  rw [hm] at HT
  have HY := hide_ hy
  rw [hR]
  unfold u64Top at hh
  clear hR h2 hx hm hy
  go_enter Try.func73, Try.ntmps73
  go_wp2_with fail
  refine HT.out.mono ?_
  rintro e w1 ⟨rfl, rfl⟩
  have hy := HY.out
  unfold u64Top at hy
  go_wp2
  go_ret
  exact ⟨by first | rfl | simp only [h3], rfl⟩

set_option maxRecDepth 100000 in
theorem refHash_any (l : List UInt8) (B : Nat) (A : Option Addr) (n c : Nat) (w : World) (hn : l.length = n) (hm : n ≤ maxLen) (h : Sees w B A (bv l)) :
    Calls Try.prog 74 #[.slice A n c] w fun e w' => e = .returned (.int .u64 (fnv l : Nat)) ∧ w = w' := by
  unfold maxLen at hm
  subst hn
  go_enter Try.func74, Try.ntmps74
  go_wp2
  go_loop [3, 7] (fun r i => ∃ k : Nat, k ≤ l.length ∧ i = .int .i64 k ∧ r = .int .u64 (fnvR 14695981039346656037 (l.take k) : Nat)) (fun _ i => l.length - (intOf i).toNat)
  case atStart => exact ⟨0, by omega, rfl, rfl⟩
  case round =>
    obtain ⟨k, hk, rfl, rfl⟩ := hrel
    by_cases hlt : k < l.length
    · have hj : (bv l)[k]? = some (.int .u8 (l[k].toNat : Int)) := by rw [bv_getElem?, List.getElem?_eq_getElem hlt]; rfl
      obtain ⟨ad, rfl, hab, hcell⟩ := h (by rw [bv_length]; omega)
      have hck := hcell k _ hj
      have hbt := l[k].toNat_lt
      have hR := fnvR_lt (l.take k) 14695981039346656037 (by unfold u64Top; omega)
      have hl := show l[k].toNat < u64Top by unfold u64Top; omega
      have hx := xor64 hR hl
      have HT := hide_ (times_any (fnvR 14695981039346656037 (l.take k) ^^^ l[k].toNat) 1099511628211 w (xor64_lt hR hl) (by unfold u64Top; omega))
      rw [show mul64 (fnvR 14695981039346656037 (l.take k) ^^^ l[k].toNat) 1099511628211 = fnvR 14695981039346656037 (l.take (k + 1)) from (fnvR_take l 14695981039346656037 k hlt).symm] at HT
      generalize fnvR 14695981039346656037 (l.take k) ^^^ l[k].toNat = x at hx HT
      clear hj hcell hR hl
      go_wp2_with fail
      first | (rw [hx]) | skip
      refine HT.out.mono ?_
      rintro e w1 ⟨rfl, rfl⟩
      go_wp2
      go_round
      case rel => exact ⟨k + 1, by omega, by go_num, rfl⟩
      case measure => simp [intOf]; omega
    · obtain rfl : k = l.length := by omega
      have ht : l.take l.length = l := List.take_length
      rw [ht]
      clear ht
      go_wp2
      go_ret
      exact ⟨rfl, rfl⟩

theorem sees_bytes (w : World) (l : List UInt8) (cs : Array Value) (t : TypeId) (fr : Nat × Nat) (h : cs.toList = bv l) : Sees (w.alloc (.cells cs t fr)) (w.heap.size + 1) (some ⟨w.heap.size, 0, none⟩) (bv l) := fun _ => by
  refine ⟨_, rfl, by simp, fun j u hu => ?_⟩
  have hg := heap_alloc_new w (.cells cs t fr)
  have hadd : (⟨w.heap.size, 0, none⟩ : Addr).add j = ⟨w.heap.size, j, none⟩ := by unfold Addr.add; split <;> simp_all
  rw [hadd, cell_of_row _ _ j _ _ _ hg, ← Array.getElem?_toList, h]
  exact hu

theorem key_any (k : UInt8) (w : World) :
    Calls Try.prog 51 #[.int .u8 (k.toNat : Int)] w fun e w' => e = .returned (.int .u64 (stirN (fnv [107, k]) : Nat)) ∧ Below w.heap.size w w' := by
  have HB := hide_ (fun o => (Below.refl w.heap.size w).alloc (Nat.le_refl _) o)
  have HO := hide_ (fun cs fr (h : cs.toList = bv [107, k]) => hashOf_any [107, k] (w.heap.size + 1) _ 2 2 (w.alloc (.cells cs 5 fr)) rfl (by simp [maxLen]) (sees_bytes w _ cs 5 fr h))
  have hf := fnv_lt [107, k]
  generalize fnv [107, k] = y at HO hf
  have HS := hide_ (fun w => stir_any y w hf)
  clear hf
  go_enter Try.func51, Try.ntmps51
  go_wp2_with fail
  refine (HO.out _ _ rfl).mono ?_
  rintro e w1 ⟨rfl, rfl⟩
  go_wp2_with fail
  refine (HS.out _).mono ?_
  rintro e w2 ⟨rfl, rfl⟩
  go_wp2
  go_ret
  exact ⟨rfl, HB.out _⟩

theorem refKey_any (k : UInt8) (w : World) :
    Calls Try.prog 48 #[.int .u8 (k.toNat : Int)] w fun e w' => e = .returned (.int .u64 (stirN (fnv [107, k]) : Nat)) ∧ Below w.heap.size w w' := by
  have HB := hide_ (fun o => (Below.refl w.heap.size w).alloc (Nat.le_refl _) o)
  have HO := hide_ (fun cs fr (h : cs.toList = bv [107, k]) => refHash_any [107, k] (w.heap.size + 1) _ 2 2 (w.alloc (.cells cs 5 fr)) rfl (by simp [maxLen]) (sees_bytes w _ cs 5 fr h))
  have hf := fnv_lt [107, k]
  generalize fnv [107, k] = y at HO hf
  have HS := hide_ (fun w => refStir_any y w hf)
  clear hf
  go_enter Try.func48, Try.ntmps48
  go_wp2_with fail
  refine (HO.out _ _ rfl).mono ?_
  rintro e w1 ⟨rfl, rfl⟩
  go_wp2_with fail
  refine (HS.out _).mono ?_
  rintro e w2 ⟨rfl, rfl⟩
  go_wp2
  go_ret
  exact ⟨rfl, HB.out _⟩

theorem place_any (k v : UInt8) (w : World) :
    Calls Try.prog 77 #[.int .u8 (k.toNat : Int), .int .u8 (v.toNat : Int)] w fun e w' => e = .returned (.int .u64 (stirN (fnv [110, k, v]) : Nat)) ∧ Below w.heap.size w w' := by
  have HB := hide_ (fun o => (Below.refl w.heap.size w).alloc (Nat.le_refl _) o)
  have HO := hide_ (fun cs fr (h : cs.toList = bv [110, k, v]) => hashOf_any [110, k, v] (w.heap.size + 1) _ 3 3 (w.alloc (.cells cs 5 fr)) rfl (by simp [maxLen]) (sees_bytes w _ cs 5 fr h))
  have hf := fnv_lt [110, k, v]
  generalize fnv [110, k, v] = y at HO hf
  have HS := hide_ (fun w => stir_any y w hf)
  clear hf
  go_enter Try.func77, Try.ntmps77
  go_wp2_with fail
  refine (HO.out _ _ rfl).mono ?_
  rintro e w1 ⟨rfl, rfl⟩
  go_wp2_with fail
  refine (HS.out _).mono ?_
  rintro e w2 ⟨rfl, rfl⟩
  go_wp2
  go_ret
  exact ⟨rfl, HB.out _⟩

theorem refPlace_any (k v : UInt8) (w : World) :
    Calls Try.prog 49 #[.int .u8 (k.toNat : Int), .int .u8 (v.toNat : Int)] w fun e w' => e = .returned (.int .u64 (stirN (fnv [110, k, v]) : Nat)) ∧ Below w.heap.size w w' := by
  have HB := hide_ (fun o => (Below.refl w.heap.size w).alloc (Nat.le_refl _) o)
  have HO := hide_ (fun cs fr (h : cs.toList = bv [110, k, v]) => refHash_any [110, k, v] (w.heap.size + 1) _ 3 3 (w.alloc (.cells cs 5 fr)) rfl (by simp [maxLen]) (sees_bytes w _ cs 5 fr h))
  have hf := fnv_lt [110, k, v]
  generalize fnv [110, k, v] = y at HO hf
  have HS := hide_ (fun w => refStir_any y w hf)
  clear hf
  go_enter Try.func49, Try.ntmps49
  go_wp2_with fail
  refine (HO.out _ _ rfl).mono ?_
  rintro e w1 ⟨rfl, rfl⟩
  go_wp2_with fail
  refine (HS.out _).mono ?_
  rintro e w2 ⟨rfl, rfl⟩
  go_wp2
  go_ret
  exact ⟨rfl, HB.out _⟩

theorem fnv_a : fnv [97] = 12638187200555641996 := by decide +kernel

end Go.Proofs.Ytlcgihdphdkhpaa
