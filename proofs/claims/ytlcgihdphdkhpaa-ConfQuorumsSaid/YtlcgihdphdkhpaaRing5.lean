/-
  Contracts of ring's Keepers and Of.
-/
import Derived.Test.YtlcgihdphdkhpaaRing4
namespace Go.Proofs.Ytlcgihdphdkhpaa
open Go.RowKit

theorem walk_zero : Try.zeroCells71 = wkC [] 0 (.slice none 0 0) := by kernel_rfl
theorem wkC_setMany (S : List UInt8) (many x : Int) (v : Value) : (wkC S many v).setIfInBounds 256 (.int .i64 x) = wkC S x v := by
  unfold wkC
  rw [Array.setIfInBounds_append_right (by rw [metC_size]; omega), metC_size]
  rfl
theorem wkC_one (S : List UInt8) (many : Int) (A : Option Addr) (n c : Nat) : ∀ u ∈ (wkC S many (.slice A n c)).toList, u.oneCell' = true := by
  intro u hu
  simp only [wkC, metC, Array.toList_append, List.mem_append, List.mem_map] at hu
  rcases hu with ⟨i, _, rfl⟩ | hu
  · rfl
  · simp at hu
    rcases hu with rfl | rfl <;> rfl
theorem walk_store (g : Nat) (w : World) (many : Int) (hg : w.heap.size = g) :
    ∃ W', Sem.run Try.prog (storeCells ⟨g, 0, none⟩ (Try.zeroCells71.toList.set 256 (.int .i64 many))) (w.alloc (.cells Try.zeroCells71 71)) = .ok () W' ∧
      BoxAt W' g (wkC [] many (.slice none 0 0)) 71 ∧ Below g w W' ∧ W'.heap.size = g + 1 := by
  subst hg
  have e : Try.zeroCells71.toList.set 256 (.int .i64 many) = (wkC [] many (.slice none 0 0)).toList := by
    rw [walk_zero, ← Array.toList_setIfInBounds, wkC_setMany]
  rw [e, walk_zero]
  have hb := heap_alloc_new w (.cells (wkC [] 0 (.slice none 0 0)) 71)
  have hl : (wkC [] many (.slice none 0 0)).toList.length = 258 := by rw [Array.length_toList, wkC_size]
  have h := run_storeCells_at Try.prog w.heap.size 0 71 (wkC [] many (.slice none 0 0)).toList 0 _ _ hb (by rw [hl, wkC_size]; omega) (wkC_one _ _ _ _ _)
  refine ⟨_, h, ?_, ?_, ?_⟩
  · have h2 := setRow_heap _ w.heap.size _ ((((wkC [] 0 (.slice none 0 0)).toList.take (0 + 0) ++ (wkC [] many (.slice none 0 0)).toList ++ (wkC [] 0 (.slice none 0 0)).toList.drop (0 + 0 + (wkC [] many (.slice none 0 0)).toList.length)).toArray)) _ _ hb
    have e2 : ((wkC [] 0 (.slice none 0 0)).toList.take (0 + 0) ++ (wkC [] many (.slice none 0 0)).toList ++ (wkC [] 0 (.slice none 0 0)).toList.drop (0 + 0 + (wkC [] many (.slice none 0 0)).toList.length)).toArray = wkC [] many (.slice none 0 0) := by
      rw [hl, List.drop_of_length_le (by rw [Array.length_toList, wkC_size]; omega)]
      simp
    rw [e2] at h2
    unfold BoxAt
    rw [e2]
    exact h2
  · exact ((Below.refl w.heap.size w).alloc (Nat.le_refl _) _).grown ⟨rfl, rfl, rfl, by simp, fun k _ hk => setRow_other _ w.heap.size k _ (fun e => hk (by rw [e]))⟩ (by simp) (fun k hk => by injection hk with hk; omega)
  · simp

set_option maxRecDepth 100000 in
theorem Keepers_any (ring : List Pt) (key : UInt8) (many : Int) (B : Nat) (R : Option Addr) (m rc : Nat) (w : World) (hm : ring.length = m) (hm2 : m ≤ 1000) (hR : Sees w B R (pv ring)) (hB : B ≤ w.heap.size) :
    Calls Try.prog 42 #[.slice R m rc, .int .u8 (key.toNat : Int), .int .i64 many] w fun e w' => ∃ A' c', e = .returned (.slice A' (keepM ring (keyN key) many).length c') ∧
      w'.ownsRow w.heap.size 5 1 (.slice A' (keepM ring (keyN key) many).length c') (keepM ring (keyN key) many).length (bv (keepM ring (keyN key) many)) ∧ Below w.heap.size w w' := by
  have HR := hide_ hR
  have HK := hide_ (fun u => key_any key u)
  have HKL := hide_ (show ∀ q, (walkK many q [] ring).length ≤ 1000 from fun q => by
    have h := walkK_nubs many q ring []
    rw [List.take_nil] at h
    rw [h, List.length_take]
    have h2 := nubs_len_le ((ring.filter q).map (·.2))
    unfold nubs at h2
    have h3 := List.length_filter_le q ring
    simp only [List.length_map] at h2
    omega)
  have hkn : keyN key = stirN (fnv [107, key]) := rfl
  rw [← hkn] at HK
  obtain ⟨pl, hpl⟩ : ∃ pl, keyN key = pl := ⟨_, rfl⟩
  rw [hpl] at HK ⊢
  obtain ⟨a1, ha1⟩ : ∃ a1, walkK many (fromP pl) [] ring = a1 := ⟨_, rfl⟩
  have hl1 := HKL.out (fromP pl)
  rw [ha1] at hl1
  have hkm : keepM ring pl many = walkK many (underP pl) a1 ring := by rw [← ha1]; rfl
  obtain ⟨a2, ha2⟩ : ∃ a2, walkK many (underP pl) a1 ring = a2 := ⟨_, rfl⟩
  rw [hkm, ha2]
  have HA1 := hide_ ha1
  have HA2 := hide_ ha2
  clear hR hkn hpl hkm ha1 ha2
  go_enter Try.func42, Try.ntmps42
  go_wp2_with fail
  refine (HK.out _).mono ?_
  rintro e w1 ⟨rfl, hb1⟩
  have HB1 := hide_ hb1
  have hs1 := hb1.size
  have hz1 := BoxAt.new w1 #[.int .u64 (pl : Nat)] 22
  have hB1' := (Below.refl w1.heap.size w1).alloc (Nat.le_refl _) (.cells #[.int .u64 (pl : Nat)] 22)
  obtain ⟨W2, hst, hbx, hbl, hs2⟩ := walk_store (w1.heap.size + 1) (w1.alloc (.cells #[.int .u64 (pl : Nat)] 22)) many (by simp)
  have hz2 := hz1.below (by simpa using hbl)
  have HZ2 := hide_ (show W2.cell? ⟨w1.heap.size, 0, none⟩ = some (.int .u64 (pl : Nat)) from hz2.cell 0)
  have HX2 := hide_ hbx
  have HB2 := hide_ ((hb1.trans (hB1'.mono hb1.size)).trans (hbl.mono (by omega)))
  have HO2 := hide_ (show W2.ownsRow (w1.heap.size + 2) 5 1 (.slice none 0 0) 0 (bv []) from ⟨rfl, .inl ⟨rfl, rfl⟩⟩)
  have HRR := hide_ (HR.out.below (HB2.out.mono hB))
  clear hb1 hz1 hz2 hbx hbl hB1'
  go_wp2_with fail
  clear hst
  refine (along_any (fromP pl) pl 53 w1.heap.size (w1.heap.size + 1) (w1.heap.size + 2) ring [] many B R m rc none 0 W2 (enters_of Try.func53 (by kernel_rfl) rfl) (fun p u hu => fromP_any p _ pl u hu) hm hm2 (by simp) HRR.out (by omega) (by omega) (by omega) (by omega) HZ2.out HX2.out HO2.out).mono ?_
  rw [HA1.out]
  rintro e w3 ⟨rfl, A3, c3, hx3, ho3, hb3⟩
  have HX3 := hide_ hx3
  have HO3 := hide_ ho3
  have HB3 := hide_ hb3
  have hs3 := hb3.size
  have HZ3 := hide_ (show w3.cell? ⟨w1.heap.size, 0, none⟩ = some (.int .u64 (pl : Nat)) from (hb3.cell (p := ⟨w1.heap.size, 0, none⟩) (by show w1.heap.size < w1.heap.size + 1; omega)).trans HZ2.out)
  have HR3 := hide_ (HRR.out.below (hb3.mono (by omega)))
  clear hx3 ho3 hb3
  go_wp2_with fail
  refine (along_any (underP pl) pl 54 w1.heap.size (w1.heap.size + 1) (w1.heap.size + 2) ring a1 many B R m rc A3 c3 w3 (enters_of Try.func54 (by kernel_rfl) rfl) (fun p u hu => underP_any p _ pl u hu) hm hm2 hl1 HR3.out (by omega) (by omega) (by omega) (by omega) HZ3.out HX3.out HO3.out).mono ?_
  rw [HA2.out]
  rintro e w4 ⟨rfl, A4, c4, hx4, ho4, hb4⟩
  have hq := hx4.cell 257
  rw [wkC_row] at hq
  have HO4 := hide_ (own_mono ho4 (show w.heap.size ≤ w1.heap.size + 2 by omega))
  have HB4 := hide_ ((HB2.out.trans (HB3.out.mono (by omega))).trans (hb4.mono (by omega)))
  clear hx4 ho4 hb4
  go_wp2
  go_ret
  exact ⟨_, _, rfl, HO4.out, HB4.out⟩
end Go.Proofs.Ytlcgihdphdkhpaa
